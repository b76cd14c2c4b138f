import Derived.Test.YtemhdjplhafmiaaDoorOOnce
import Derived.Test.YtemhdjplhafmiaaDoorOCommon
/- Proved here: Get of package tree at whatever path, and Do. -/
namespace Go.Proofs.YtemhdjplhafmiaaDoor
open Go.RowKit Go.Shelf

/-- What Get hands back. -/
def getT (l : List It) (p : Str) : Option It := if validT l = true then getI l p else none
set_option maxRecDepth 100000 in
set_option maxHeartbeats 4000000 in
theorem get_gen (l : List It) (v : Value) (p : Str) (w : World) (hv : RdI w v l) (hx : ∀ x ∈ l, x.path.length ≤ 140737488355328) (hp : p.length ≤ 140737488355328) (hT : Tabs w) :
    Calls Tryd.prog 13 #[.agg #[v], .string ⟨p.toArray⟩] w (GetR (getT l p) w) := by
  obtain ⟨w1, hw1⟩ : ∃ z, z = (w.alloc (.cells #[v] 24)).alloc (.cells #[.string ⟨#[]⟩, .int .i64 0, .string ⟨#[]⟩] 35) := ⟨_, rfl⟩
  have X : Box w1 w.heap.size 24 #[v] := by rw [hw1]; exact box_new.alloc _
  have X1 : Hid (Box w1 (w.heap.size + 1) 35 It.nil.arr) := Lib.hid (by rw [hw1, show w.heap.size + 1 = (w.alloc (.cells #[v] 24)).heap.size from by simp]; exact box_new)
  have HB1 : Hid (Below w.heap.size w w1) := Lib.hid (by rw [hw1]; exact bch (below_new _ _) (below_new _ _))
  obtain ⟨bb, hbb⟩ : ∃ z, z = validT l := ⟨_, rfl⟩
  have HVA := Lib.hid (tvalid_is l bb hbb v w1 (hv.on HB1.out) hx (hT.on HB1.out))
  have HV := Lib.hid (hv.on HB1.out)
  have HT := Lib.hid (hT.on HB1.out)
  have HX := Lib.hid hx
  have HBB := Lib.hid hbb
  obtain ⟨b4, hb4⟩ : ∃ z, z = w.heap.size + 1 := ⟨_, rfl⟩
  rw [← hb4] at X1
  have H4 : Hid (w.heap.size ≤ b4) := Lib.hid (by rw [hb4]; exact Nat.le_succ _)
  have HLT : Hid (w.heap.size < w1.heap.size) := Lib.hid X.lt
  have c0 := X.cell (k := 0) rfl
  obtain ⟨a, c, rfl, _⟩ := hv.open
  have k0 := zeroI
  clear hv hT hx hbb X
  cases bb with
  | false =>
    have HN : Hid (getT l p = none) := Lib.hid (by unfold getT; rw [← HBB.out]; rfl)
    go_enter Tryd.func13, Tryd.ntmps13
    go_upto_region 1 with fail
    rw [← hw1, ← hb4]
    clear hw1 hb4
    go_wp2_with fail
    refine HVA.out.mono ?_
    rintro e w2 ⟨rfl, hb2⟩
    have HB2 := Lib.hid (bch HB1.out hb2)
    have X2 := Lib.hid (X1.out.on hb2)
    clear hb2 c0 X1 HVA
    go_wp2_with (refine wpList_store_row rfl 35 (.tmp 4) (.tmp 10) rfl b4 It.nil.arr rfl rfl 35 _ X2.out (info35 _) rfl (iarr_one _) ?_)
    exact bodyPost_ret (end_item rfl _ (X2.out.row _) rfl rfl) rfl ⟨by rw [HN.out]; rfl, below_row HB2.out H4.out _⟩
  | true =>
    have HOK : Hid (TreeOk l) := Lib.hid (tree_ok HBB.out.symm)
    obtain ⟨o, ho⟩ : ∃ z, z = getT l p := ⟨_, rfl⟩
    have HG0 : Hid (o = getI l p) := Lib.hid (by rw [ho]; unfold getT; rw [if_pos HBB.out.symm])
    rw [← ho]
    obtain ⟨y, hy⟩ : ∃ y, y = o.getD .nil := ⟨_, rfl⟩
    obtain ⟨is, his⟩ : ∃ z, z = o.isSome := ⟨_, rfl⟩
    have HE : Hid (∀ W', Below w.heap.size w W' → GetR o w (.returned (.tuple #[.agg y.arr, .bool is])) W') := Lib.hid (fun W' h => ⟨by rw [hy, his], h⟩)
    have HY := Lib.hid hy
    have HI := Lib.hid his
    clear ho hy his
    go_enter Tryd.func13, Tryd.ntmps13
    go_upto_region 1 with fail
    rw [← hw1, ← hb4]
    clear hw1 hb4
    go_wp2_with fail
    refine HVA.out.mono ?_
    rintro e w2 ⟨rfl, hb2⟩
    have HB2 := Lib.hid (bch HB1.out hb2)
    have c2 := (hb2.cell (p := ⟨w.heap.size, 0, none⟩) HLT.out).trans c0
    have X2 := Lib.hid (X1.out.on hb2)
    have HG : Hid (Calls Tryd.prog 32 #[.slice a l.length c, .string ⟨p.toArray⟩] w2 fun e w' => e = .returned (.tuple #[.agg y.arr, .bool is]) ∧ Below w2.heap.size w2 w') := Lib.hid (by
      have := tget_gen l (.slice a l.length c) p w2 (srt_of HOK.out) HOK.out.many (HV.out.on hb2) HX.out hp (HT.out.on hb2)
      rw [← HG0.out] at this
      rw [HY.out, HI.out]
      exact this)
    clear hb2 c0 X1 HVA
    go_wp2_with fail
    refine HG.out.mono ?_
    rintro e w3 ⟨rfl, hb3⟩
    have X3 := Lib.hid (X2.out.on hb3)
    have HB3 := Lib.hid (bch HB2.out hb3)
    clear hb3 c2 HG
    go_wp2_with (refine wpList_store_row rfl 35 (.tmp 4) (.tmp 15) rfl b4 y.arr rfl rfl 35 _ X3.out (info35 _) rfl (iarr_one _) ?_)
    refine bodyPost_ret ?_ rfl (HE.out _ (below_row HB3.out H4.out _))
    exact end_item rfl _ (X3.out.row _) rfl rfl

/-- What Do comes to. -/
def doM (l : List It) (o : Opn) : Except Int (List It) := if validT l = true then actM l o else .error 160
theorem end_tree2 {fn : Func} {p q : Tmp} (h : fn.results = #[.cell p 24, .tmp q]) (tmps : Array Value) {w : World} {g : Nat} {v : Value} (X : Box w g 24 #[v]) (hp : tmps.getD p undef = .pointer (some ⟨g, 0, none⟩)) {x : Value} (hq : tmps.getD q undef = x) :
    (results fn tmps).run Tryd.prog w = .ok (.tuple #[.agg #[v], x]) w := by
  rw [← hq]
  exact results_two h tmps w g hp #[v] (run_loadVar_row _ g 24 24 #[v] (0, 0) _ X Tryd.underlying24 rfl (info24 v))
theorem one_rd {w : World} {g : Nat} {o : Opn} (X : Box w g 26 o.arr) : RdO w (.slice (some ⟨g, 0, none⟩) 1 1) [o] :=
  ⟨_, 1, rfl, Nat.le_refl _, by decide, fun _ => ⟨g, 0, rfl, X.lt, fun j u hu => by
    rw [Nat.zero_add]
    exact X.cell (by rw [← Array.getElem?_toList]; simpa [flatO, Opn.cells, Opn.arr] using hu)⟩⟩
theorem run_one (l : List It) (v : Value) (o : Opn) (vo : Value) (w : World) (hv : RdI w v l) (hx : ∀ x ∈ l, x.path.length ≤ 140737488355328) (ho : RdO w vo [o]) (hso : o.path.length ≤ 140737488355328 ∧ o.to.length ≤ 140737488355328) (hT : TabS w) :
    Calls Tryd.prog 15 #[.agg #[v], vo] w fun e w' => Below w.heap.size w w' ∧ ∃ a n c many er, e = .returned (.tuple #[.agg #[.slice a n c], .int .i64 many, .int .i64 er]) ∧ ((er ≠ 0 ∧ doM l o = .error er) ∨ (er = 0 ∧ ∃ l', doM l o = .ok l' ∧ OwnI w' w.heap.size (.slice a n c) l')) :=
  (run_any l v [o] vo w hv hx ho (fun q hq => by obtain rfl := List.mem_singleton.1 hq; exact hso) hT).mono fun e w' ⟨hb, hc⟩ => by
    refine ⟨hb, ?_⟩
    rcases hc with ⟨h0, rfl⟩ | ⟨h0, v', he, hown⟩
    · exact ⟨_, _, _, _, _, rfl, .inl ⟨by decide, by unfold doM; rw [h0]; rfl⟩⟩
    · obtain ⟨a, n, c, rfl⟩ := own_any hown
      refine ⟨a, n, c, _, _, he, ?_⟩
      cases ha : actM l o with
      | error z =>
        rw [run_no ha]
        exact .inl ⟨act_err ha, by unfold doM; rw [if_pos h0, ha]⟩
      | ok l' =>
        rw [run_yes ha] at hown ⊢
        exact .inr ⟨rfl, l', by unfold doM; rw [if_pos h0, ha], hown⟩
def DoR (l : List It) (o : Opn) (w : World) (e : Ending) (w' : World) : Prop :=
  Below w.heap.size w w' ∧ ((∃ z, doM l o = .error z ∧ z ≠ 0 ∧ e = .returned (.tuple #[.agg #[.slice none 0 0], .int .i64 z])) ∨ (∃ l' v', doM l o = .ok l' ∧ e = .returned (.tuple #[.agg #[v'], .int .i64 0]) ∧ OwnI w' w.heap.size v' l'))

set_option maxRecDepth 100000 in
set_option maxHeartbeats 8000000 in
theorem do_any (l : List It) (v : Value) (o : Opn) (w : World) (hv : RdI w v l) (hx : ∀ x ∈ l, x.path.length ≤ 140737488355328) (hso : o.path.length ≤ 140737488355328 ∧ o.to.length ≤ 140737488355328) (hT : TabS w) :
    Calls Tryd.prog 10 #[.agg #[v], .agg o.arr] w (DoR l o w) := by
  obtain ⟨w1, hw1⟩ : ∃ z, z = ((w.alloc (.cells #[v] 24)).alloc (.cells o.arr 26)).alloc (.cells #[.slice none 0 0] 24) := ⟨_, rfl⟩
  obtain ⟨b2, hb2⟩ : ∃ z, z = w.heap.size := ⟨_, rfl⟩
  have X2 : Hid (Box w1 b2 24 #[v]) := Lib.hid (by rw [hw1, hb2]; exact (box_new.alloc _).alloc _)
  have X3 : Hid (Box w1 (b2 + 1) 26 o.arr) := Lib.hid (by rw [hw1, hb2, show w.heap.size + 1 = (w.alloc (.cells #[v] 24)).heap.size from by simp]; exact box_new.alloc _)
  have X4 : Hid (Box w1 (b2 + 1 + 1) 24 #[.slice none 0 0]) := Lib.hid (by rw [hw1, hb2, show w.heap.size + 1 + 1 = ((w.alloc (.cells #[v] 24)).alloc (.cells o.arr 26)).heap.size from by simp]; exact box_new)
  have HB1 : Hid (Below w.heap.size w w1) := Lib.hid (by rw [hw1]; exact bch (bch (below_new _ _) (below_new _ _)) (below_new _ _))
  obtain ⟨w2, hw2⟩ : ∃ z, z = w1.alloc (.cells o.arr 26) := ⟨_, rfl⟩
  obtain ⟨g2, hg2⟩ : ∃ z, z = w1.heap.size := ⟨_, rfl⟩
  have hb12 : Below w1.heap.size w1 w2 := by rw [hw2]; exact below_new _ _
  have XO : Box w2 g2 26 o.arr := by rw [hw2, hg2]; exact box_new
  have HB2 : Hid (Below w.heap.size w w2) := Lib.hid (bch HB1.out hb12)
  have X42 : Hid (Box w2 (b2 + 1 + 1) 24 #[.slice none 0 0]) := Lib.hid (X4.out.on hb12)
  have HRU := Lib.hid (run_one l v o (.slice (some ⟨g2, 0, none⟩) 1 1) w2 (hv.on HB2.out) hx (one_rd XO) hso (hT.on HB2.out))
  have H4 : Hid (w.heap.size ≤ b2 + 1 + 1) := Lib.hid (by omega)
  obtain ⟨a, c, rfl, _⟩ := hv.open
  have hw1' : w1 = ((w.alloc (.cells #[.slice a l.length c] 24)).alloc (.cells #[.int .i64 o.kind, .string ⟨o.path.toArray⟩, .string ⟨o.to.toArray⟩, .string ⟨o.data.toArray⟩] 26)).alloc (.cells #[.slice none 0 0] 24) := hw1
  have hw2' : w2 = w1.alloc (.cells #[.int .i64 o.kind, .string ⟨o.path.toArray⟩, .string ⟨o.to.toArray⟩, .string ⟨o.data.toArray⟩] 26) := hw2
  have c2 : w1.cell? ⟨b2, 0, none⟩ = some (.slice a l.length c) := X2.out.cell (k := 0) rfl
  have m0 : w1.cell? ⟨b2 + 1, 0, none⟩ = some (.int .i64 o.kind) := X3.out.cell (k := 0) rfl
  have m1 : w1.cell? ⟨b2 + 1, 1, none⟩ = some (.string ⟨o.path.toArray⟩) := X3.out.cell (k := 1) rfl
  have m2 : w1.cell? ⟨b2 + 1, 2, none⟩ = some (.string ⟨o.to.toArray⟩) := X3.out.cell (k := 2) rfl
  have m3 : w1.cell? ⟨b2 + 1, 3, none⟩ = some (.string ⟨o.data.toArray⟩) := X3.out.cell (k := 3) rfl
  have HW1 := Lib.hid hw1'
  have HW2 := Lib.hid hw2'
  have HG2 := Lib.hid hg2
  have HBE := Lib.hid hb2
  have e1 : (.agg o.arr : Value) = .agg #[.int .i64 o.kind, .string ⟨o.path.toArray⟩, .string ⟨o.to.toArray⟩, .string ⟨o.data.toArray⟩] := rfl
  rw [e1]
  have k0 := b24
  clear hv hx hT hw1 hw2 hw1' hw2' hg2 hb2 e1 XO hb12
  go_enter Tryd.func10, Tryd.ntmps10
  go_upto_region 1 with fail
  rw [← HBE.out, ← HW1.out]
  go_wp2_with fail
  rw [← HW2.out, ← HG2.out]
  refine HRU.out.mono ?_
  rintro e a3 ⟨hb3, xa, xn, xc, many, er, rfl, hc⟩
  obtain ⟨g6, hg6⟩ : ∃ z, z = a3.heap.size := ⟨_, rfl⟩
  obtain ⟨v6, hv6⟩ : ∃ z, z = (a3.alloc (.cells #[.slice none 0 0] 24)).setRow a3.heap.size #[.slice xa xn xc] := ⟨_, rfl⟩
  have hn6 : Below a3.heap.size a3 v6 := by rw [hv6]; exact below_row (below_new _ _) (Nat.le_refl _) _
  have X6 : Hid (Box v6 g6 24 #[.slice xa xn xc]) := Lib.hid (by rw [hv6, hg6]; exact Box.row (box_new (w := a3) (t := 24) (cs := #[.slice none 0 0])) _)
  have HB6 : Hid (Below w.heap.size w v6) := Lib.hid (bch HB2.out (bch hb3 hn6))
  have X46 : Hid (Box v6 (b2 + 1 + 1) 24 #[.slice none 0 0]) := Lib.hid (X42.out.on (bch hb3 hn6))
  have p6 : v6.cell? ⟨g6, 0, none⟩ = some (.slice xa xn xc) := X6.out.cell (k := 0) rfl
  have HC : Hid ((er ≠ 0 ∧ doM l o = .error er) ∨ (er = 0 ∧ ∃ l', doM l o = .ok l' ∧ OwnI v6 w2.heap.size (.slice xa xn xc) l')) := Lib.hid (hc.imp id fun ⟨h0, l', h1, h2⟩ => ⟨h0, l', h1, h2.on hn6⟩)
  have HV6 := Lib.hid hv6
  have HG6 := Lib.hid hg6
  clear hb3 hc hn6 hv6 hg6 HRU m0 m1 m2 m3 c2
  by_cases he : er = 0
  · subst he
    obtain ⟨l', hd, hown⟩ : ∃ l', doM l o = .ok l' ∧ OwnI v6 w2.heap.size (.slice xa xn xc) l' := by
      rcases HC.out with h | h
      · exact absurd rfl h.1
      · exact h.2
    have HD := Lib.hid hd
    have HO := Lib.hid hown
    clear hd hown
    go_wp2_with (first
      | (refine wpList_store_row rfl 24 (.tmp 6) (.tmp 14) rfl a3.heap.size #[.slice xa xn xc] rfl rfl 24 #[.slice none 0 0] box_new (info24 _) rfl (slice_one _ _ _) ?_; rw [← HV6.out, ← HG6.out])
      | (refine wpList_store_row rfl 24 (.tmp 4) (.tmp 21) rfl (b2 + 1 + 1) #[.slice xa xn xc] rfl rfl 24 _ X46.out (info24 _) rfl (slice_one _ _ _) ?_)
      | fail)
    exact bodyPost_ret (end_tree2 rfl _ (X46.out.row _) rfl rfl) rfl ⟨below_row HB6.out H4.out _, .inr ⟨l', _, HD.out, rfl, own_base (own_row HO.out X46.out) HB2.out.size⟩⟩
  · have t1 : (er == 0) = false := by simpa using he
    have t2 : (er != 0) = true := by simpa using he
    have HD : Hid (doM l o = .error er) := Lib.hid (by
      rcases HC.out with h | h
      · exact h.2
      · exact absurd h.1 he)
    have HE := Lib.hid he
    clear he
    go_wp2_with (first
      | (refine wpList_store_row rfl 24 (.tmp 6) (.tmp 14) rfl a3.heap.size #[.slice xa xn xc] rfl rfl 24 #[.slice none 0 0] box_new (info24 _) rfl (slice_one _ _ _) ?_; rw [← HV6.out, ← HG6.out])
      | (refine wpList_store_row rfl 24 (.tmp 4) (.tmp 19) rfl (b2 + 1 + 1) #[.slice none 0 0] rfl rfl 24 _ X46.out (info24 _) rfl (slice_one _ _ _) ?_)
      | fail)
    exact bodyPost_ret (end_tree2 rfl _ (X46.out.row _) rfl rfl) rfl ⟨below_row HB6.out H4.out _, .inl ⟨er, HD.out, HE.out, rfl⟩⟩
end Go.Proofs.YtemhdjplhafmiaaDoor

/- What an argument that is an operation reads as, for the laws' last steps. -/
namespace Go.Proofs.YtemhdjplhafmiaaDoor
open Go.ChangeShapes Go.WideShapes Go.ChangeAt Go.RowKit Go.Joins

noncomputable abbrev zeroOp : Value := .agg #[.int .i64 0, .string ByteArray.empty, .string ByteArray.empty, .string ByteArray.empty]
abbrev zeroOpD {H : Type} : DataW H := .agg [.lit (.int .i64 0), .lit (.string []), .lit (.string []), .lit (.string [])]
set_option maxRecDepth 100000 in
theorem okWide_op {r : Reach} {W : World} {b0 : Nat} {v : Value} (h : Value.okWide Tryd.prog W r b0 26 v) : ∃ cs : Array Value, v = .agg cs := by
  simp only [Value.okWide, Tryd.underlying26] at h
  obtain ⟨cs, h1, _⟩ := h
  exact ⟨cs, h1⟩
set_option maxRecDepth 100000 in
theorem argP_of {H : Type} {enc : TypeId × Value → H} {W : World} {base fuel : Nat} {hd : Bool} {cs : Array Value} {d : DataW H} {p : List MemPlace} (hf : DataW.trod enc Tryd.prog W base (fun _ => true) hd fuel 26 cs.toList = some (d, p)) :
    ∃ o : Opn, cs = o.arr ∧ (o.path.length ∈ d.weights Tryd.prog 26 ∧ o.to.length ∈ d.weights Tryd.prog 26) := by
  obtain ⟨o, hc, hd⟩ := op_of hf
  refine ⟨o, Array.ext' hc, ?_, ?_⟩
  · rw [hd]
    simp [DataW.weights, Tryd.underlying26, DataW.weightsEach]
  · rw [hd]
    simp [DataW.weights, Tryd.underlying26, DataW.weightsEach]
end Go.Proofs.YtemhdjplhafmiaaDoor

/- Proved here: TreeApart of puncheonlaw06 returns true, wherever the tables stand. -/
namespace Go.Proofs.YtemhdjplhafmiaaDoor
open Go.RowKit Go.Shelf

theorem do_goes {l l' : List It} {o : Opn} (h : doM l o = .ok l') : TreeOk l ∧ Goes l o l' := by
  unfold doM at h
  split at h
  · rename_i h0; exact ⟨tree_ok h0, (act_goes (tree_ok h0) h).2⟩
  · cases h
theorem idx33a (a b : Value) (W : World) : (Instr.index 33 (.agg #[a, b]) (.int .i64 0)).run Tryd.prog W = .ok a W := by
  have u := Tryd.underlying33
  have s := Tryd.sizeOf22
  have i := Tryd.isAgg22
  unfold Instr.index
  go_simp
theorem idx33b (a b : Value) (W : World) : (Instr.index 33 (.agg #[a, b]) (.int .i64 1)).run Tryd.prog W = .ok b W := by
  have u := Tryd.underlying33
  have s := Tryd.sizeOf22
  have i := Tryd.isAgg22
  unfold Instr.index
  go_simp
theorem neq35s (x : It) (w : World) : (binOp .neq 35 (.agg #[.string ⟨x.path.toArray⟩, .int .i64 x.kind, .string ⟨x.data.toArray⟩]) (.agg #[.string ⟨x.path.toArray⟩, .int .i64 x.kind, .string ⟨x.data.toArray⟩])).run Tryd.prog w = .ok (.bool false) w := neq35 x x false (by simp) w

set_option maxRecDepth 100000 in
set_option maxHeartbeats 8000000 in
theorem apart_law (l0 : List It) (v : Value) (o : Opn) (w : World) (hv : RdI w v l0) (hsz : ∀ x ∈ l0, x.path.length ≤ 140737488355328) (hso : o.path.length ≤ 140737488355328 ∧ o.to.length ≤ 140737488355328) (hT : TabS w) :
    Calls Tryd.prog 3 #[.agg #[v], .agg o.arr] w fun e w' => e = .returned (.bool true) ∧ Below w.heap.size w w' := by
  obtain ⟨w1, hw1⟩ : ∃ z, z = (w.alloc (.cells #[v] 24)).alloc (.cells o.arr 26) := ⟨_, rfl⟩
  obtain ⟨b2, hb2⟩ : ∃ z, z = w.heap.size := ⟨_, rfl⟩
  have X2 : Hid (Box w1 b2 24 #[v]) := Lib.hid (by rw [hw1, hb2]; exact box_new.alloc _)
  have X3 : Hid (Box w1 (b2 + 1) 26 o.arr) := Lib.hid (by rw [hw1, hb2, show w.heap.size + 1 = (w.alloc (.cells #[v] 24)).heap.size from by simp]; exact box_new)
  have HB1 : Hid (Below w.heap.size w w1) := Lib.hid (by rw [hw1]; exact bch (below_new _ _) (below_new _ _))
  have HT := Lib.hid hT
  have HV := Lib.hid hv
  have HSO := Lib.hid hso
  have HW := Lib.hid (wakes6_any w1 (hT.on HB1.out))
  obtain ⟨va, vc, rfl, _⟩ := hv.open
  obtain ⟨vn, hvn⟩ : ∃ n, n = l0.length := ⟨_, rfl⟩
  rw [← hvn] at HV X2 hw1 ⊢
  obtain ⟨l, hl⟩ : ∃ z, z = fewL l0 := ⟨_, rfl⟩
  have HL := Lib.hid hl
  have HSZ : Hid (∀ x ∈ l, x.path.length ≤ 140737488355328) := Lib.hid (fun x h => hsz x (by
    rw [hl] at h
    unfold fewL at h
    split at h
    · exact List.mem_of_mem_take h
    · exact List.mem_of_mem_take h))
  have hw1' : w1 = (w.alloc (.cells #[.slice va vn vc] 24)).alloc (.cells #[.int .i64 o.kind, .string ⟨o.path.toArray⟩, .string ⟨o.to.toArray⟩, .string ⟨o.data.toArray⟩] 26) := hw1
  have e1 : (.agg o.arr : Value) = .agg #[.int .i64 o.kind, .string ⟨o.path.toArray⟩, .string ⟨o.to.toArray⟩, .string ⟨o.data.toArray⟩] := rfl
  rw [e1]
  clear hv hsz hso hT hl hvn hw1 e1
  go_enter Tryd.func3, Tryd.ntmps3
  go_upto_region 1 with fail
  rw [← hb2, ← hw1']
  clear hw1' hb2
  go_wp2_with fail
  refine HW.out.mono ?_
  rintro e w2 ⟨rfl, hb2⟩
  have X22 := Lib.hid (X2.out.on hb2)
  have X32 := Lib.hid (X3.out.on hb2)
  have HB2 := Lib.hid (bch HB1.out hb2)
  have p2 : w2.cell? ⟨b2, 0, none⟩ = some (.slice va vn vc) := X22.out.cell (k := 0) rfl
  have HOW := Lib.hid (own6_any l0 _ w2 (HV.out.on HB2.out))
  clear hb2 HW X2 X3
  go_wp2_with fail
  refine HOW.out.mono ?_
  rintro e a3 ⟨x3, rfl, ho3, hb3⟩
  rw [← HL.out] at ho3
  obtain ⟨ta, tn, tc, rfl⟩ := own_any ho3
  obtain ⟨g5, hg5⟩ : ∃ z, z = a3.heap.size := ⟨_, rfl⟩
  obtain ⟨v3, hv3⟩ : ∃ z, z = (a3.alloc (.cells #[.slice none 0 0] 24)).setRow a3.heap.size #[.slice ta tn tc] := ⟨_, rfl⟩
  have hn3 : Below a3.heap.size a3 v3 := by rw [hv3]; exact below_row (below_new _ _) (Nat.le_refl _) _
  have X5 : Hid (Box v3 g5 24 #[.slice ta tn tc]) := Lib.hid (by rw [hv3, hg5]; exact Box.row (box_new (w := a3) (t := 24) (cs := #[.slice none 0 0])) _)
  have X33 : Hid (Box v3 (b2 + 1) 26 o.arr) := Lib.hid (X32.out.on (bch hb3 hn3))
  have HB3 : Hid (Below w.heap.size w v3) := Lib.hid (bch HB2.out (bch hb3 hn3))
  have HO3 : Hid (OwnI v3 w2.heap.size (.slice ta tn tc) l) := Lib.hid (ho3.on hn3)
  have HV3 := Lib.hid hv3
  have HG5 := Lib.hid hg5
  have p5 : v3.cell? ⟨g5, 0, none⟩ = some (.slice ta tn tc) := X5.out.cell (k := 0) rfl
  have n0 : v3.cell? ⟨b2 + 1, 0, none⟩ = some (.int .i64 o.kind) := X33.out.cell (k := 0) rfl
  have n1 : v3.cell? ⟨b2 + 1, 1, none⟩ = some (.string ⟨o.path.toArray⟩) := X33.out.cell (k := 1) rfl
  have n2 : v3.cell? ⟨b2 + 1, 2, none⟩ = some (.string ⟨o.to.toArray⟩) := X33.out.cell (k := 2) rfl
  have n3 : v3.cell? ⟨b2 + 1, 3, none⟩ = some (.string ⟨o.data.toArray⟩) := X33.out.cell (k := 3) rfl
  have HDO : Hid (Calls Tryd.prog 10 #[.agg #[.slice ta tn tc], .agg #[.int .i64 o.kind, .string ⟨o.path.toArray⟩, .string ⟨o.to.toArray⟩, .string ⟨o.data.toArray⟩]] v3 (DoR l o v3)) := Lib.hid (do_any l (.slice ta tn tc) o v3 HO3.out.rd HSZ.out HSO.out (HT.out.on HB3.out))
  clear hb3 ho3 hn3 hv3 hg5 HOW p2
  go_wp2_with (first
    | (refine wpList_store_row rfl 24 (.tmp 5) (.tmp 19) rfl a3.heap.size #[.slice ta tn tc] rfl rfl 24 #[.slice none 0 0] box_new (info24 _) rfl (slice_one _ _ _) ?_; rw [← HV3.out, ← HG5.out])
    | fail)
  refine HDO.out.mono ?_
  rintro e a5 ⟨hb5, hc⟩
  obtain ⟨g8, hg8⟩ : ∃ z, z = a5.heap.size := ⟨_, rfl⟩
  have HG8 := Lib.hid hg8
  rcases hc with ⟨z, hd, hz, rfl⟩ | ⟨l', v8, hd, rfl, ho5⟩
  · have t1 : (z == 0) = false := by simpa using hz
    have t2 : (z != 0) = true := by simpa using hz
    obtain ⟨v5, hv5⟩ : ∃ z, z = (a5.alloc (.cells #[.slice none 0 0] 24)).setRow a5.heap.size #[.slice none 0 0] := ⟨_, rfl⟩
    have hn5 : Below v3.heap.size v3 v5 := by rw [hv5]; exact bch hb5 (below_row (below_new _ _) (Nat.le_refl _) _)
    have X8 : Hid (Box v5 g8 24 #[.slice none 0 0]) := Lib.hid (by rw [hv5, hg8]; exact Box.row (box_new (w := a5) (t := 24) (cs := #[.slice none 0 0])) _)
    have HB5 : Hid (Below w.heap.size w v5) := Lib.hid (bch HB3.out hn5)
    have p8 : v5.cell? ⟨g8, 0, none⟩ = some (.slice none 0 0) := X8.out.cell (k := 0) rfl
    have HV5 := Lib.hid hv5
    clear hd hz hb5 hg8 hn5 HDO hv5
    go_wp2_with (first
      | (refine wpList_store_row rfl 24 (.tmp 6) (.tmp 24) rfl a5.heap.size #[.slice none 0 0] rfl rfl 24 #[.slice none 0 0] box_new (info24 _) rfl (slice_one _ _ _) ?_; rw [← HV5.out, ← HG8.out])
      | fail)
    go_ret
    exact ⟨rfl, HB5.out⟩
  · obtain ⟨na, nn, nc, rfl⟩ := own_any ho5
    obtain ⟨v5, hv5⟩ : ∃ z, z = (a5.alloc (.cells #[.slice none 0 0] 24)).setRow a5.heap.size #[.slice na nn nc] := ⟨_, rfl⟩
    have hn5 : Below v3.heap.size v3 v5 := by rw [hv5]; exact bch hb5 (below_row (below_new _ _) (Nat.le_refl _) _)
    have X8 : Hid (Box v5 g8 24 #[.slice na nn nc]) := Lib.hid (by rw [hv5, hg8]; exact Box.row (box_new (w := a5) (t := 24) (cs := #[.slice none 0 0])) _)
    have X55 : Hid (Box v5 g5 24 #[.slice ta tn tc]) := Lib.hid (X5.out.on hn5)
    have X35 : Hid (Box v5 (b2 + 1) 26 o.arr) := Lib.hid (X33.out.on hn5)
    have HB5 : Hid (Below w.heap.size w v5) := Lib.hid (bch HB3.out hn5)
    have HO5 : Hid (RdI v5 (.slice ta tn tc) l) := Lib.hid (HO3.out.on hn5).rd
    have HNO : Hid (OwnI v5 v3.heap.size (.slice na nn nc) l') := Lib.hid (ho5.on (by rw [hv5]; exact below_row (below_new _ _) (Nat.le_refl _) _))
    have HN5 : Hid (RdI v5 (.slice na nn nc) l') := Lib.hid HNO.out.rd
    have HV5 := Lib.hid hv5
    obtain ⟨hok, hgo⟩ := do_goes hd
    have HOK := Lib.hid hok
    have HGO := Lib.hid hgo
    have HOK' : Hid (TreeOk l') := Lib.hid hgo.ok
    have p8 : v5.cell? ⟨g8, 0, none⟩ = some (.slice na nn nc) := X8.out.cell (k := 0) rfl
    have HCH := Lib.hid (tcheck_is l' true (ok_tree HOK'.out).symm (.slice na nn nc) v5 HN5.out (tree_sz HOK'.out) (HT.out.on HB5.out).tab)
    clear hd hb5 hg8 hv5 hn5 ho5 hok hgo HDO n0 n1 n2 n3 p5
    go_wp2_with (first
      | (refine wpList_store_row rfl 24 (.tmp 6) (.tmp 24) rfl a5.heap.size #[.slice na nn nc] rfl rfl 24 #[.slice none 0 0] box_new (info24 _) rfl (slice_one _ _ _) ?_; rw [← HV5.out, ← HG8.out])
      | fail)
    refine HCH.out.mono ?_
    rintro e v6 ⟨rfl, hb6⟩
    have X86 : Hid (Box v6 g8 24 #[.slice na nn nc]) := Lib.hid (X8.out.on hb6)
    have X56 : Hid (Box v6 g5 24 #[.slice ta tn tc]) := Lib.hid (X55.out.on hb6)
    have X36 : Hid (Box v6 (b2 + 1) 26 o.arr) := Lib.hid (X35.out.on hb6)
    have HB6 : Hid (Below w.heap.size w v6) := Lib.hid (bch HB5.out hb6)
    have HO6 : Hid (RdI v6 (.slice ta tn tc) l) := Lib.hid (HO5.out.on hb6)
    have HN6 : Hid (RdI v6 (.slice na nn nc) l') := Lib.hid (HN5.out.on hb6)
    have q8 : v6.cell? ⟨g8, 0, none⟩ = some (.slice na nn nc) := X86.out.cell (k := 0) rfl
    have q5 : v6.cell? ⟨g5, 0, none⟩ = some (.slice ta tn tc) := X56.out.cell (k := 0) rfl
    clear hb6 HCH p8
    simp only [errT]
    go_wp2_with fail
    go_loopw [9, 11, 12, 13, 14, 15, 40, 41, 42, 43, 44, 45, 46, 47, 48, 49, 50, 51, 52, 53, 54, 55, 56, 57, 58, 59, 60, 61, 62, 63, 64, 65, 66, 67, 68, 69, 70, 71, 72, 73, 74, 75, 76, 77, 78, 79, 80, 81, 82, 83, 84, 85, 86, 87, 88, 89, 90] (fun _ _ _ _ _ _ s40 _ _ _ _ _ _ _ _ _ _ _ _ _ _ _ _ _ _ _ _ _ _ _ _ _ _ _ _ _ _ _ _ _ _ _ _ _ _ _ _ _ _ _ _ _ _ _ _ _ _ wr => (s40 = .int .i64 0 ∨ s40 = .int .i64 1 ∨ s40 = .int .i64 2) ∧ Hid (Below v6.heap.size v6 wr)) (fun _ _ _ _ _ _ s40 _ _ _ _ _ _ _ _ _ _ _ _ _ _ _ _ _ _ _ _ _ _ _ _ _ _ _ _ _ _ _ _ _ _ _ _ _ _ _ _ _ _ _ _ _ _ _ _ _ _ _ => 2 - (Lib.intOf s40).toNat)
    case atStart => exact ⟨.inl rfl, Lib.hid (Below.refl _ _)⟩
    case round =>
      obtain ⟨hk, HBW⟩ := hrel
      obtain ⟨wq, hwq⟩ : ∃ q, q = wr := ⟨_, rfl⟩
      rw [← hwq] at HBW ⊢
      clear hwq
      rcases hk with rfl | rfl | rfl
      · have HRL : Hid (RdI v6 (.slice ta tn tc) l) := HO6
        obtain ⟨m, hm⟩ : ∃ z, z = (l).length := ⟨_, rfl⟩
        obtain ⟨ax, cx, ex, _, hcx, _⟩ := HRL.out.open
        injection ex with ex1 ex2 ex3
        unfold maxLen at hcx
        have hmn : tn = m := by rw [hm]; exact ex2
        have hmm : m ≤ 9223372036854775807 := by rw [hm]; have := HRL.out.open; obtain ⟨_, _, _, h1, h2, _⟩ := this; unfold maxLen at h2; omega
        have HM := Lib.hid hm
        clear ex1 ex2 ex3 hcx hm
        subst hmn
        have hix := idx33a (.slice ta tn tc) (.slice na nn nc)
        go_wp2_with fail
        go_loopw [11, 12, 13, 14, 15, 45, 46, 47, 48, 49, 50, 51, 52, 53, 54, 55, 56, 57, 58, 59, 60, 61, 62, 63, 64, 65, 66, 67, 68, 69, 70, 71, 72, 73, 74, 75, 76, 77, 78, 79, 80, 81, 82, 83, 84, 85, 86, 87, 88, 89, 90] (fun _ _ _ _ _ s45 _ _ _ _ _ _ _ _ _ _ _ _ _ _ _ _ _ _ _ _ _ _ _ _ _ _ _ _ _ _ _ _ _ _ _ _ _ _ _ _ _ _ _ _ _ wr2 => ∃ j : Nat, j ≤ tn ∧ s45 = .int .i64 j ∧ Hid (Below v6.heap.size v6 wr2)) (fun _ _ _ _ _ s45 _ _ _ _ _ _ _ _ _ _ _ _ _ _ _ _ _ _ _ _ _ _ _ _ _ _ _ _ _ _ _ _ _ _ _ _ _ _ _ _ _ _ _ _ _ _ => tn - (Lib.intOf s45).toNat)
        case atStart => exact ⟨0, Nat.zero_le _, rfl, HBW⟩
        case round =>
          obtain ⟨j, hj, rfl, HBI⟩ := hrel
          obtain ⟨wi, hwi⟩ : ∃ q, q = wr := ⟨_, rfl⟩
          rw [← hwi] at HBI ⊢
          clear hwi
          by_cases hlt : j < tn
          · obtain ⟨x, hx⟩ : ∃ x, (l)[j]? = some x := ⟨_, List.getElem?_eq_getElem (by rw [← HM.out]; exact hlt)⟩
            have hrw : RdI wi (.slice ta tn tc) l := HRL.out.on HBI.out
            obtain ⟨a', c', e, _, _, hc⟩ := hrw.open
            rw [← HM.out] at e
            cases e
            obtain ⟨gg, oo, rfl, hgg, hc⟩ := hc (by rw [← HM.out]; omega)
            obtain ⟨x0, x1, x2⟩ := hc j x hx
            have hm := List.mem_of_getElem? hx
            have hxl : x.path.length ≤ 140737488355328 := tree_sz HOK.out x hm
            obtain ⟨u1, hu1⟩ : ∃ z, z = underB x.path o.path := ⟨_, rfl⟩
            obtain ⟨u2, hu2⟩ : ∃ z, z = underB x.path o.to := ⟨_, rfl⟩
            have HU1 : Hid (∀ W, Calls Tryd.prog 12 #[.string ⟨x.path.toArray⟩, .string ⟨o.path.toArray⟩] W fun e w' => e = .returned (.bool u1) ∧ Below W.heap.size W w') := Lib.hid (fun W => under_is x.path o.path hxl HSO.out.1 u1 hu1.symm W)
            have HU2 : Hid (∀ W, Calls Tryd.prog 12 #[.string ⟨x.path.toArray⟩, .string ⟨o.to.toArray⟩] W fun e w' => e = .returned (.bool u2) ∧ Below W.heap.size W w') := Lib.hid (fun W => under_is x.path o.to hxl HSO.out.2 u2 hu2.symm W)
            have HMEM : Hid (u1 = false → (o.kind = 5 → u2 = false) → x ∈ l ∧ x ∈ l') := Lib.hid (fun h1 h2 => by
              rw [hu1] at h1
              rw [hu2] at h2
              exact ⟨hm, (HGO.out.apart x h1 h2).1 hm⟩)
            obtain ⟨g11, hg11⟩ : ∃ z, z = wi.heap.size := ⟨_, rfl⟩
            obtain ⟨w7, hw7⟩ : ∃ z, z = wi.alloc (.cells #[.string ⟨x.path.toArray⟩, .int .i64 x.kind, .string ⟨x.data.toArray⟩] 35) := ⟨_, rfl⟩
            have hn7 : Below wi.heap.size wi w7 := by rw [hw7]; exact below_new _ _
            have X11 : Hid (Box w7 g11 35 x.arr) := Lib.hid (by rw [hw7, hg11]; exact box_new)
            have HB7 : Hid (Below v6.heap.size v6 w7) := Lib.hid (bch HBI.out hn7)
            have d0 : w7.cell? ⟨g11, 0, none⟩ = some (.string ⟨x.path.toArray⟩) := X11.out.it.c0
            have r1 : w7.cell? ⟨b2 + 1, 1, none⟩ = some (.string ⟨o.path.toArray⟩) := (X36.out.on HB7.out).cell (k := 1) rfl
            have k1 : (j : Int) < (tn : Int) := by omega
            have k2 : (0 : Int) ≤ (j : Int) := by omega
            clear hrw hc hx hm hxl hu1 hu2 hn7 hgg
            go_upto_region 15 with fail
            rw [← hg11, ← hw7]
            clear hg11 hw7 x0 x1 x2
            go_wp2_with fail
            refine (HU1.out _).mono ?_
            rintro e w8 ⟨rfl, hb8⟩
            have X118 := Lib.hid (X11.out.on hb8)
            have HB8 := Lib.hid (bch HB7.out hb8)
            clear hb8 d0 r1
            cases u1 with
            | true =>
              go_wp2_with fail
              go_roundw
              case rel => exact ⟨j + 1, hlt, by go_num, HB8⟩
              case measure => simp [Lib.intOf]; omega
            | false =>
              have d0 : w8.cell? ⟨g11, 0, none⟩ = some (.string ⟨x.path.toArray⟩) := X118.out.it.c0
              have r0 : w8.cell? ⟨b2 + 1, 0, none⟩ = some (.int .i64 o.kind) := (X36.out.on HB8.out).cell (k := 0) rfl
              have r2 : w8.cell? ⟨b2 + 1, 2, none⟩ = some (.string ⟨o.to.toArray⟩) := (X36.out.on HB8.out).cell (k := 2) rfl
              by_cases hk5 : o.kind = 5
              · have t5 : (o.kind == 5) = true := by simpa using hk5
                clear hk5
                go_wp2_with fail
                refine (HU2.out _).mono ?_
                rintro e w9 ⟨rfl, hb9⟩
                have X119 := Lib.hid (X118.out.on hb9)
                have HB9 := Lib.hid (bch HB8.out hb9)
                clear hb9 d0 r0 r2
                cases u2 with
                | true =>
                  go_wp2_with fail
                  go_roundw
                  case rel => exact ⟨j + 1, hlt, by go_num, HB9⟩
                  case measure => simp [Lib.intOf]; omega
                | false =>
                  obtain ⟨hml, hml'⟩ := HMEM.out (by trivial) (by first | trivial | exact fun _ => rfl | exact fun _ => trivial)
                  have HG1 := Lib.hid (get_any l _ x HOK.out (.inr hml) w9 (HO6.out.on HB9.out) (tree_sz HOK.out) ((HT.out.on HB6.out).on HB9.out).tab)
                  have e5 := (X56.out.on HB9.out).cell (k := 0) rfl
                  have d9 : w9.cell? ⟨g11, 0, none⟩ = some (.string ⟨x.path.toArray⟩) := X119.out.it.c0
                  have HG2 := Lib.hid (fun (W : World) (hW : Below v6.heap.size v6 W) => get_any l' _ x HOK'.out (.inr hml') W (HN6.out.on hW) (tree_sz HOK'.out) ((HT.out.on HB6.out).on hW).tab)
                  clear hml hml'
                  go_wp2_with fail
                  refine HG1.out.mono ?_
                  rintro e a9 ⟨rfl, hba⟩
                  obtain ⟨g12, hg12⟩ : ∃ z, z = a9.heap.size := ⟨_, rfl⟩
                  obtain ⟨wA, hwA⟩ : ∃ z, z = (a9.alloc (.cells #[.string ⟨#[]⟩, .int .i64 0, .string ⟨#[]⟩] 35)).setRow a9.heap.size x.arr := ⟨_, rfl⟩
                  have hnA : Below w9.heap.size w9 wA := by rw [hwA]; exact bch hba (below_row (below_new _ _) (Nat.le_refl _) _)
                  have X12 : Hid (Box wA g12 35 x.arr) := Lib.hid (by rw [hwA, hg12]; exact Box.row (box_new (w := a9) (t := 35) (cs := It.nil.arr)) _)
                  have X11A := Lib.hid (X119.out.on hnA)
                  have HBA := Lib.hid (bch HB9.out hnA)
                  have eA := (X86.out.on HBA.out).cell (k := 0) rfl
                  have dA : wA.cell? ⟨g11, 0, none⟩ = some (.string ⟨x.path.toArray⟩) := X11A.out.it.c0
                  have HWA := Lib.hid hwA
                  have HG12 := Lib.hid hg12
                  have HG3 := Lib.hid (HG2.out wA HBA.out)
                  clear hba hwA hg12 hnA e5 d9
                  go_wp2_with (first
                    | (refine wpList_store_row rfl 35 (.tmp 12) (.tmp 71) rfl a9.heap.size x.arr rfl rfl 35 It.nil.arr box_new (info35 _) rfl (iarr_one _) ?_; rw [← HWA.out, ← HG12.out])
                    | fail)
                  refine HG3.out.mono ?_
                  rintro e aB ⟨rfl, hbb⟩
                  obtain ⟨g14, hg14⟩ : ∃ z, z = aB.heap.size := ⟨_, rfl⟩
                  obtain ⟨wC, hwC⟩ : ∃ z, z = (aB.alloc (.cells #[.string ⟨#[]⟩, .int .i64 0, .string ⟨#[]⟩] 35)).setRow aB.heap.size x.arr := ⟨_, rfl⟩
                  have hnC : Below wA.heap.size wA wC := by rw [hwC]; exact bch hbb (below_row (below_new _ _) (Nat.le_refl _) _)
                  have X14 : Hid (Box wC g14 35 x.arr) := Lib.hid (by rw [hwC, hg14]; exact Box.row (box_new (w := aB) (t := 35) (cs := It.nil.arr)) _)
                  have HBC := Lib.hid (bch HBA.out hnC)
                  obtain ⟨y0, y1, y2⟩ := (X12.out.on hnC).it
                  obtain ⟨z0, z1, z2⟩ := X14.out.it
                  have hne := neq35s x
                  have hgd := guard35
                  have HWC := Lib.hid hwC
                  have HG14 := Lib.hid hg14
                  clear hbb hwC hg14 hnC eA dA
                  go_wp2_with (first
                    | (refine wpList_store_row rfl 35 (.tmp 14) (.tmp 78) rfl aB.heap.size x.arr rfl rfl 35 It.nil.arr box_new (info35 _) rfl (iarr_one _) ?_; rw [← HWC.out, ← HG14.out])
                    | fail)
                  go_roundw
                  case rel => exact ⟨j + 1, hlt, by go_num, HBC⟩
                  case measure => simp [Lib.intOf]; omega
              · have t5 : (o.kind == 5) = false := by simpa using hk5
                obtain ⟨hml, hml'⟩ := HMEM.out (by trivial) (by first | exact fun h => absurd h hk5 | trivial)
                have X119 := X118
                have HB9 := HB8
                have HG1 := Lib.hid (get_any l _ x HOK.out (.inr hml) w8 (HO6.out.on HB9.out) (tree_sz HOK.out) ((HT.out.on HB6.out).on HB9.out).tab)
                have e5 := (X56.out.on HB9.out).cell (k := 0) rfl
                have d9 : w8.cell? ⟨g11, 0, none⟩ = some (.string ⟨x.path.toArray⟩) := X119.out.it.c0
                have HG2 := Lib.hid (fun (W : World) (hW : Below v6.heap.size v6 W) => get_any l' _ x HOK'.out (.inr hml') W (HN6.out.on hW) (tree_sz HOK'.out) ((HT.out.on HB6.out).on hW).tab)
                clear hml hml'
                go_wp2_with fail
                refine HG1.out.mono ?_
                rintro e a9 ⟨rfl, hba⟩
                obtain ⟨g12, hg12⟩ : ∃ z, z = a9.heap.size := ⟨_, rfl⟩
                obtain ⟨wA, hwA⟩ : ∃ z, z = (a9.alloc (.cells #[.string ⟨#[]⟩, .int .i64 0, .string ⟨#[]⟩] 35)).setRow a9.heap.size x.arr := ⟨_, rfl⟩
                have hnA : Below w8.heap.size w8 wA := by rw [hwA]; exact bch hba (below_row (below_new _ _) (Nat.le_refl _) _)
                have X12 : Hid (Box wA g12 35 x.arr) := Lib.hid (by rw [hwA, hg12]; exact Box.row (box_new (w := a9) (t := 35) (cs := It.nil.arr)) _)
                have X11A := Lib.hid (X119.out.on hnA)
                have HBA := Lib.hid (bch HB9.out hnA)
                have eA := (X86.out.on HBA.out).cell (k := 0) rfl
                have dA : wA.cell? ⟨g11, 0, none⟩ = some (.string ⟨x.path.toArray⟩) := X11A.out.it.c0
                have HWA := Lib.hid hwA
                have HG12 := Lib.hid hg12
                have HG3 := Lib.hid (HG2.out wA HBA.out)
                clear hba hwA hg12 hnA e5 d9
                go_wp2_with (first
                  | (refine wpList_store_row rfl 35 (.tmp 12) (.tmp 71) rfl a9.heap.size x.arr rfl rfl 35 It.nil.arr box_new (info35 _) rfl (iarr_one _) ?_; rw [← HWA.out, ← HG12.out])
                  | fail)
                refine HG3.out.mono ?_
                rintro e aB ⟨rfl, hbb⟩
                obtain ⟨g14, hg14⟩ : ∃ z, z = aB.heap.size := ⟨_, rfl⟩
                obtain ⟨wC, hwC⟩ : ∃ z, z = (aB.alloc (.cells #[.string ⟨#[]⟩, .int .i64 0, .string ⟨#[]⟩] 35)).setRow aB.heap.size x.arr := ⟨_, rfl⟩
                have hnC : Below wA.heap.size wA wC := by rw [hwC]; exact bch hbb (below_row (below_new _ _) (Nat.le_refl _) _)
                have X14 : Hid (Box wC g14 35 x.arr) := Lib.hid (by rw [hwC, hg14]; exact Box.row (box_new (w := aB) (t := 35) (cs := It.nil.arr)) _)
                have HBC := Lib.hid (bch HBA.out hnC)
                obtain ⟨y0, y1, y2⟩ := (X12.out.on hnC).it
                obtain ⟨z0, z1, z2⟩ := X14.out.it
                have hne := neq35s x
                have hgd := guard35
                have HWC := Lib.hid hwC
                have HG14 := Lib.hid hg14
                clear hbb hwC hg14 hnC eA dA
                go_wp2_with (first
                  | (refine wpList_store_row rfl 35 (.tmp 14) (.tmp 78) rfl aB.heap.size x.arr rfl rfl 35 It.nil.arr box_new (info35 _) rfl (iarr_one _) ?_; rw [← HWC.out, ← HG14.out])
                  | fail)
                go_roundw
                case rel => exact ⟨j + 1, hlt, by go_num, HBC⟩
                case measure => simp [Lib.intOf]; omega
          · obtain rfl : j = tn := by omega
            have k1 : ¬ ((j : Int) < (j : Int)) := by omega
            go_wp2_with fail
            go_roundw
            case rel => exact ⟨.inr (.inl (by go_num)), HBI⟩
            case measure => simp [Lib.intOf]
      · have HRL : Hid (RdI v6 (.slice na nn nc) l') := HN6
        obtain ⟨m, hm⟩ : ∃ z, z = (l').length := ⟨_, rfl⟩
        obtain ⟨ax, cx, ex, _, hcx, _⟩ := HRL.out.open
        injection ex with ex1 ex2 ex3
        unfold maxLen at hcx
        have hmn : nn = m := by rw [hm]; exact ex2
        have hmm : m ≤ 9223372036854775807 := by rw [hm]; have := HRL.out.open; obtain ⟨_, _, _, h1, h2, _⟩ := this; unfold maxLen at h2; omega
        have HM := Lib.hid hm
        clear ex1 ex2 ex3 hcx hm
        subst hmn
        have hix := idx33b (.slice ta tn tc) (.slice na nn nc)
        go_wp2_with fail
        go_loopw [11, 12, 13, 14, 15, 45, 46, 47, 48, 49, 50, 51, 52, 53, 54, 55, 56, 57, 58, 59, 60, 61, 62, 63, 64, 65, 66, 67, 68, 69, 70, 71, 72, 73, 74, 75, 76, 77, 78, 79, 80, 81, 82, 83, 84, 85, 86, 87, 88, 89, 90] (fun _ _ _ _ _ s45 _ _ _ _ _ _ _ _ _ _ _ _ _ _ _ _ _ _ _ _ _ _ _ _ _ _ _ _ _ _ _ _ _ _ _ _ _ _ _ _ _ _ _ _ _ wr2 => ∃ j : Nat, j ≤ nn ∧ s45 = .int .i64 j ∧ Hid (Below v6.heap.size v6 wr2)) (fun _ _ _ _ _ s45 _ _ _ _ _ _ _ _ _ _ _ _ _ _ _ _ _ _ _ _ _ _ _ _ _ _ _ _ _ _ _ _ _ _ _ _ _ _ _ _ _ _ _ _ _ _ => nn - (Lib.intOf s45).toNat)
        case atStart => exact ⟨0, Nat.zero_le _, rfl, HBW⟩
        case round =>
          obtain ⟨j, hj, rfl, HBI⟩ := hrel
          obtain ⟨wi, hwi⟩ : ∃ q, q = wr := ⟨_, rfl⟩
          rw [← hwi] at HBI ⊢
          clear hwi
          by_cases hlt : j < nn
          · obtain ⟨x, hx⟩ : ∃ x, (l')[j]? = some x := ⟨_, List.getElem?_eq_getElem (by rw [← HM.out]; exact hlt)⟩
            have hrw : RdI wi (.slice na nn nc) l' := HRL.out.on HBI.out
            obtain ⟨a', c', e, _, _, hc⟩ := hrw.open
            rw [← HM.out] at e
            cases e
            obtain ⟨gg, oo, rfl, hgg, hc⟩ := hc (by rw [← HM.out]; omega)
            obtain ⟨x0, x1, x2⟩ := hc j x hx
            have hm := List.mem_of_getElem? hx
            have hxl : x.path.length ≤ 140737488355328 := tree_sz HOK'.out x hm
            obtain ⟨u1, hu1⟩ : ∃ z, z = underB x.path o.path := ⟨_, rfl⟩
            obtain ⟨u2, hu2⟩ : ∃ z, z = underB x.path o.to := ⟨_, rfl⟩
            have HU1 : Hid (∀ W, Calls Tryd.prog 12 #[.string ⟨x.path.toArray⟩, .string ⟨o.path.toArray⟩] W fun e w' => e = .returned (.bool u1) ∧ Below W.heap.size W w') := Lib.hid (fun W => under_is x.path o.path hxl HSO.out.1 u1 hu1.symm W)
            have HU2 : Hid (∀ W, Calls Tryd.prog 12 #[.string ⟨x.path.toArray⟩, .string ⟨o.to.toArray⟩] W fun e w' => e = .returned (.bool u2) ∧ Below W.heap.size W w') := Lib.hid (fun W => under_is x.path o.to hxl HSO.out.2 u2 hu2.symm W)
            have HMEM : Hid (u1 = false → (o.kind = 5 → u2 = false) → x ∈ l ∧ x ∈ l') := Lib.hid (fun h1 h2 => by
              rw [hu1] at h1
              rw [hu2] at h2
              exact ⟨(HGO.out.apart x h1 h2).2 hm, hm⟩)
            obtain ⟨g11, hg11⟩ : ∃ z, z = wi.heap.size := ⟨_, rfl⟩
            obtain ⟨w7, hw7⟩ : ∃ z, z = wi.alloc (.cells #[.string ⟨x.path.toArray⟩, .int .i64 x.kind, .string ⟨x.data.toArray⟩] 35) := ⟨_, rfl⟩
            have hn7 : Below wi.heap.size wi w7 := by rw [hw7]; exact below_new _ _
            have X11 : Hid (Box w7 g11 35 x.arr) := Lib.hid (by rw [hw7, hg11]; exact box_new)
            have HB7 : Hid (Below v6.heap.size v6 w7) := Lib.hid (bch HBI.out hn7)
            have d0 : w7.cell? ⟨g11, 0, none⟩ = some (.string ⟨x.path.toArray⟩) := X11.out.it.c0
            have r1 : w7.cell? ⟨b2 + 1, 1, none⟩ = some (.string ⟨o.path.toArray⟩) := (X36.out.on HB7.out).cell (k := 1) rfl
            have k1 : (j : Int) < (nn : Int) := by omega
            have k2 : (0 : Int) ≤ (j : Int) := by omega
            clear hrw hc hx hm hxl hu1 hu2 hn7 hgg
            go_upto_region 15 with fail
            rw [← hg11, ← hw7]
            clear hg11 hw7 x0 x1 x2
            go_wp2_with fail
            refine (HU1.out _).mono ?_
            rintro e w8 ⟨rfl, hb8⟩
            have X118 := Lib.hid (X11.out.on hb8)
            have HB8 := Lib.hid (bch HB7.out hb8)
            clear hb8 d0 r1
            cases u1 with
            | true =>
              go_wp2_with fail
              go_roundw
              case rel => exact ⟨j + 1, hlt, by go_num, HB8⟩
              case measure => simp [Lib.intOf]; omega
            | false =>
              have d0 : w8.cell? ⟨g11, 0, none⟩ = some (.string ⟨x.path.toArray⟩) := X118.out.it.c0
              have r0 : w8.cell? ⟨b2 + 1, 0, none⟩ = some (.int .i64 o.kind) := (X36.out.on HB8.out).cell (k := 0) rfl
              have r2 : w8.cell? ⟨b2 + 1, 2, none⟩ = some (.string ⟨o.to.toArray⟩) := (X36.out.on HB8.out).cell (k := 2) rfl
              by_cases hk5 : o.kind = 5
              · have t5 : (o.kind == 5) = true := by simpa using hk5
                clear hk5
                go_wp2_with fail
                refine (HU2.out _).mono ?_
                rintro e w9 ⟨rfl, hb9⟩
                have X119 := Lib.hid (X118.out.on hb9)
                have HB9 := Lib.hid (bch HB8.out hb9)
                clear hb9 d0 r0 r2
                cases u2 with
                | true =>
                  go_wp2_with fail
                  go_roundw
                  case rel => exact ⟨j + 1, hlt, by go_num, HB9⟩
                  case measure => simp [Lib.intOf]; omega
                | false =>
                  obtain ⟨hml, hml'⟩ := HMEM.out (by trivial) (by first | trivial | exact fun _ => rfl | exact fun _ => trivial)
                  have HG1 := Lib.hid (get_any l _ x HOK.out (.inr hml) w9 (HO6.out.on HB9.out) (tree_sz HOK.out) ((HT.out.on HB6.out).on HB9.out).tab)
                  have e5 := (X56.out.on HB9.out).cell (k := 0) rfl
                  have d9 : w9.cell? ⟨g11, 0, none⟩ = some (.string ⟨x.path.toArray⟩) := X119.out.it.c0
                  have HG2 := Lib.hid (fun (W : World) (hW : Below v6.heap.size v6 W) => get_any l' _ x HOK'.out (.inr hml') W (HN6.out.on hW) (tree_sz HOK'.out) ((HT.out.on HB6.out).on hW).tab)
                  clear hml hml'
                  go_wp2_with fail
                  refine HG1.out.mono ?_
                  rintro e a9 ⟨rfl, hba⟩
                  obtain ⟨g12, hg12⟩ : ∃ z, z = a9.heap.size := ⟨_, rfl⟩
                  obtain ⟨wA, hwA⟩ : ∃ z, z = (a9.alloc (.cells #[.string ⟨#[]⟩, .int .i64 0, .string ⟨#[]⟩] 35)).setRow a9.heap.size x.arr := ⟨_, rfl⟩
                  have hnA : Below w9.heap.size w9 wA := by rw [hwA]; exact bch hba (below_row (below_new _ _) (Nat.le_refl _) _)
                  have X12 : Hid (Box wA g12 35 x.arr) := Lib.hid (by rw [hwA, hg12]; exact Box.row (box_new (w := a9) (t := 35) (cs := It.nil.arr)) _)
                  have X11A := Lib.hid (X119.out.on hnA)
                  have HBA := Lib.hid (bch HB9.out hnA)
                  have eA := (X86.out.on HBA.out).cell (k := 0) rfl
                  have dA : wA.cell? ⟨g11, 0, none⟩ = some (.string ⟨x.path.toArray⟩) := X11A.out.it.c0
                  have HWA := Lib.hid hwA
                  have HG12 := Lib.hid hg12
                  have HG3 := Lib.hid (HG2.out wA HBA.out)
                  clear hba hwA hg12 hnA e5 d9
                  go_wp2_with (first
                    | (refine wpList_store_row rfl 35 (.tmp 12) (.tmp 71) rfl a9.heap.size x.arr rfl rfl 35 It.nil.arr box_new (info35 _) rfl (iarr_one _) ?_; rw [← HWA.out, ← HG12.out])
                    | fail)
                  refine HG3.out.mono ?_
                  rintro e aB ⟨rfl, hbb⟩
                  obtain ⟨g14, hg14⟩ : ∃ z, z = aB.heap.size := ⟨_, rfl⟩
                  obtain ⟨wC, hwC⟩ : ∃ z, z = (aB.alloc (.cells #[.string ⟨#[]⟩, .int .i64 0, .string ⟨#[]⟩] 35)).setRow aB.heap.size x.arr := ⟨_, rfl⟩
                  have hnC : Below wA.heap.size wA wC := by rw [hwC]; exact bch hbb (below_row (below_new _ _) (Nat.le_refl _) _)
                  have X14 : Hid (Box wC g14 35 x.arr) := Lib.hid (by rw [hwC, hg14]; exact Box.row (box_new (w := aB) (t := 35) (cs := It.nil.arr)) _)
                  have HBC := Lib.hid (bch HBA.out hnC)
                  obtain ⟨y0, y1, y2⟩ := (X12.out.on hnC).it
                  obtain ⟨z0, z1, z2⟩ := X14.out.it
                  have hne := neq35s x
                  have hgd := guard35
                  have HWC := Lib.hid hwC
                  have HG14 := Lib.hid hg14
                  clear hbb hwC hg14 hnC eA dA
                  go_wp2_with (first
                    | (refine wpList_store_row rfl 35 (.tmp 14) (.tmp 78) rfl aB.heap.size x.arr rfl rfl 35 It.nil.arr box_new (info35 _) rfl (iarr_one _) ?_; rw [← HWC.out, ← HG14.out])
                    | fail)
                  go_roundw
                  case rel => exact ⟨j + 1, hlt, by go_num, HBC⟩
                  case measure => simp [Lib.intOf]; omega
              · have t5 : (o.kind == 5) = false := by simpa using hk5
                obtain ⟨hml, hml'⟩ := HMEM.out (by trivial) (by first | exact fun h => absurd h hk5 | trivial)
                have X119 := X118
                have HB9 := HB8
                have HG1 := Lib.hid (get_any l _ x HOK.out (.inr hml) w8 (HO6.out.on HB9.out) (tree_sz HOK.out) ((HT.out.on HB6.out).on HB9.out).tab)
                have e5 := (X56.out.on HB9.out).cell (k := 0) rfl
                have d9 : w8.cell? ⟨g11, 0, none⟩ = some (.string ⟨x.path.toArray⟩) := X119.out.it.c0
                have HG2 := Lib.hid (fun (W : World) (hW : Below v6.heap.size v6 W) => get_any l' _ x HOK'.out (.inr hml') W (HN6.out.on hW) (tree_sz HOK'.out) ((HT.out.on HB6.out).on hW).tab)
                clear hml hml'
                go_wp2_with fail
                refine HG1.out.mono ?_
                rintro e a9 ⟨rfl, hba⟩
                obtain ⟨g12, hg12⟩ : ∃ z, z = a9.heap.size := ⟨_, rfl⟩
                obtain ⟨wA, hwA⟩ : ∃ z, z = (a9.alloc (.cells #[.string ⟨#[]⟩, .int .i64 0, .string ⟨#[]⟩] 35)).setRow a9.heap.size x.arr := ⟨_, rfl⟩
                have hnA : Below w8.heap.size w8 wA := by rw [hwA]; exact bch hba (below_row (below_new _ _) (Nat.le_refl _) _)
                have X12 : Hid (Box wA g12 35 x.arr) := Lib.hid (by rw [hwA, hg12]; exact Box.row (box_new (w := a9) (t := 35) (cs := It.nil.arr)) _)
                have X11A := Lib.hid (X119.out.on hnA)
                have HBA := Lib.hid (bch HB9.out hnA)
                have eA := (X86.out.on HBA.out).cell (k := 0) rfl
                have dA : wA.cell? ⟨g11, 0, none⟩ = some (.string ⟨x.path.toArray⟩) := X11A.out.it.c0
                have HWA := Lib.hid hwA
                have HG12 := Lib.hid hg12
                have HG3 := Lib.hid (HG2.out wA HBA.out)
                clear hba hwA hg12 hnA e5 d9
                go_wp2_with (first
                  | (refine wpList_store_row rfl 35 (.tmp 12) (.tmp 71) rfl a9.heap.size x.arr rfl rfl 35 It.nil.arr box_new (info35 _) rfl (iarr_one _) ?_; rw [← HWA.out, ← HG12.out])
                  | fail)
                refine HG3.out.mono ?_
                rintro e aB ⟨rfl, hbb⟩
                obtain ⟨g14, hg14⟩ : ∃ z, z = aB.heap.size := ⟨_, rfl⟩
                obtain ⟨wC, hwC⟩ : ∃ z, z = (aB.alloc (.cells #[.string ⟨#[]⟩, .int .i64 0, .string ⟨#[]⟩] 35)).setRow aB.heap.size x.arr := ⟨_, rfl⟩
                have hnC : Below wA.heap.size wA wC := by rw [hwC]; exact bch hbb (below_row (below_new _ _) (Nat.le_refl _) _)
                have X14 : Hid (Box wC g14 35 x.arr) := Lib.hid (by rw [hwC, hg14]; exact Box.row (box_new (w := aB) (t := 35) (cs := It.nil.arr)) _)
                have HBC := Lib.hid (bch HBA.out hnC)
                obtain ⟨y0, y1, y2⟩ := (X12.out.on hnC).it
                obtain ⟨z0, z1, z2⟩ := X14.out.it
                have hne := neq35s x
                have hgd := guard35
                have HWC := Lib.hid hwC
                have HG14 := Lib.hid hg14
                clear hbb hwC hg14 hnC eA dA
                go_wp2_with (first
                  | (refine wpList_store_row rfl 35 (.tmp 14) (.tmp 78) rfl aB.heap.size x.arr rfl rfl 35 It.nil.arr box_new (info35 _) rfl (iarr_one _) ?_; rw [← HWC.out, ← HG14.out])
                  | fail)
                go_roundw
                case rel => exact ⟨j + 1, hlt, by go_num, HBC⟩
                case measure => simp [Lib.intOf]; omega
          · obtain rfl : j = nn := by omega
            have k1 : ¬ ((j : Int) < (j : Int)) := by omega
            go_wp2_with fail
            go_roundw
            case rel => exact ⟨.inr (.inr (by go_num)), HBI⟩
            case measure => simp [Lib.intOf]
      · go_wp2_with fail
        go_ret
        exact ⟨rfl, bch HB6.out HBW.out⟩
end Go.Proofs.YtemhdjplhafmiaaDoor

/- Proved: whatever tree and operation TreeApart of puncheonlaw06 is called with, the call returns true, and all read behind it as they read before (the statement Rows.TreeApartCardSaid). No condition of ours: the tables stand as the program's text lays them (the card ties them), and the form's own reach. -/
namespace Go.Proofs.YtemhdjplhafmiaaDoor.TreeApartP
open Go.ChangeShapes Go.WideShapes Go.ChangeAt Go.RowKit Go.Joins Go.Deep
open Go.ChangeMaps (open_string shut_string)

theorem met (os : Os) : laidMet Tryd.prog Rows.treeApartRow.laid ((laidWorld os).forCall (fun _ _ => 0) ⟨#[], #[zeroTree, zeroOp], []⟩).memory :=
  laid_met os _
theorem reads (os : Os) {H : Type} (enc : TypeId × Value → H) : ∃ places, DataW.whole enc Tryd.prog ((laidWorld os).forCall (fun _ _ => 0) ⟨#[], #[zeroTree, zeroOp], []⟩).memory Tryd.f3.params.toList Rows.treeApartSpec.vars false #[zeroTree, zeroOp].toList 8 = some ([zeroTreeD, zeroOpD], [], places) :=
  ⟨[], by kernel_rfl⟩

set_option maxRecDepth 100000 in
theorem lifted (os : Os) (started : os.Started) (H : Type) (enc : TypeId × Value → H) (F : Stop.Interp) :
    ReturnsInHanded {} Tryd.checked os 3 .any ((OpenSpec.ofChange Rows.treeApartSpec).preRow enc Tryd.prog Tryd.f3 Rows.treeApartRow.domain false Rows.treeApartRow.laid) (((OpenSpec.ofChange Rows.treeApartSpec).at F).post enc Tryd.prog Tryd.f3 false true false false) := by
  obtain ⟨places, hx⟩ := reads os enc
  refine returnsInHanded_of_row (C := Tryd.checked) (s := OpenSpec.ofChange Rows.treeApartSpec) own0 started (by kernel_rfl) Tryd.func3
    (witness_row_at (enc := enc) (C := Tryd.checked) false (laidWorld os) #[zeroTree, zeroOp] rfl (by kernel_rfl) (by kernel_rfl) (by kernel_rfl)
      (OpenSpec.preRow_of_cond 8 hx (by kernel_rfl) (fun k hk => by cases hk) (by kernel_rfl) (met os))) ?_
  intro W base args ds gs before hval0 hW _ _ hsz0 hL hsh _
  have hval : ∀ (j : Nat) t v, Tryd.f3.params[j]? = some t → args[j]? = some v → Value.okWide Tryd.prog W .any base t v := hval0
  have hsz : (DataW.weightsEach Tryd.prog (Tryd.f3.params.toList ++ Rows.treeApartSpec.plain.varTypes Tryd.prog) (ds ++ gs)).all (· ≤ reachBytes) = true := hsz0
  clear hsz0
  have hW' := hW
  obtain ⟨p, q, hA0, hV, rfl, hfz, hnd⟩ := hW
  have hA : DataW.TrodAll enc Tryd.prog W 0 (fun _ => true) true Tryd.f3.params.toList args.toList ds p := hA0
  rw [Tryd.params3] at hA hval hsz
  obtain ⟨v0, vs0, d0, ds0, p0, q0, hargs, rfl, rfl, h0, r0⟩ := trodAll_cons hA
  obtain ⟨v1, vs1, d1, ds1, p1, q1, rfl, rfl, rfl, h1, r1⟩ := trodAll_cons r0
  obtain ⟨rfl, rfl, rfl⟩ := trodAll_nil r1
  obtain rfl : args = #[v0, v1] := by cases args; simp_all
  obtain ⟨rfl, rfl⟩ := trodVars_none hV
  obtain ⟨cs0, rfl⟩ := okWide_tree (hval 0 24 v0 rfl rfl)
  obtain ⟨cs1, rfl⟩ := okWide_op (hval 1 26 v1 rfl rfl)
  have h0k := h0
  obtain ⟨fuel0, hf0⟩ := h0
  have h1k := h1
  obtain ⟨fuel1, hf1⟩ := h1
  clear hA0 hval0
  simp only [List.append_nil] at hW'
  have hlt0 : ∀ x ∈ p0, x.block < W.heap.size := fun x hx => by simpa using hW'.lt x (by simp [hx])
  have hlt1 : ∀ x ∈ p1, x.block < W.heap.size := fun x hx => by simpa using hW'.lt x (by simp [hx])
  obtain ⟨x0, l0, rfl, hr0, hw0'⟩ := argT_of (by simpa [Value.cells] using hf0) hlt0
  have hw0 : ∀ y ∈ l0, y.path.length ≤ 140737488355328 := fun y hy => reach_len (by simpa using List.all_eq_true.1 hsz _ (DataW.weights_mem_each (j := 0) (t := 24) rfl rfl _ (hw0' y hy)))
  obtain ⟨o1, rfl, hw1'⟩ := argP_of (by simpa [Value.cells] using hf1)
  have hw1 : o1.path.length ≤ 140737488355328 ∧ o1.to.length ≤ 140737488355328 := ⟨reach_len (by simpa using List.all_eq_true.1 hsz _ (DataW.weights_mem_each (j := 1) (t := 26) rfl rfl _ hw1'.1)), reach_len (by simpa using List.all_eq_true.1 hsz _ (DataW.weights_mem_each (j := 1) (t := 26) rfl rfl _ hw1'.2))⟩
  refine (apart_law l0 x0 o1 W hr0 hw0 hw1 (tabs hL hsh)).mono fun e W' ⟨he, hb⟩ => ?_
  subst he
  exact ⟨_, rfl, _, _, _, [], _, [], hW', (trodAll_cons_mk (shut_bool Tryd.underlying4 _) trodAll_mk0), (trodAll_cons_mk (Below.trod laidOut (by kernel_rfl) (of_decide_eq_true (by kernel_rfl)) h0k hb hlt0) (trodAll_cons_mk (Below.trod laidOut (by kernel_rfl) (of_decide_eq_true (by kernel_rfl)) h1k hb hlt1) trodAll_mk0)), rfl, hb.frame _, fun h => by cases h⟩

theorem said : Rows.TreeApartSaid :=
  OpenClaim.holds_of_cond 3 Tryd.f3 rfl rfl rfl rfl rfl rfl rfl ⟨rfl, rfl, rfl, rfl, rfl⟩ rfl rfl rfl rfl rfl (by kernel_rfl) Tryd.func3 (by kernel_rfl)
    (of_decide_eq_true (by kernel_rfl)) (by unfold Func.isWrapper; first | (rw [if_pos (by decide +kernel)]; kernel_rfl) | (rw [if_neg (by decide +kernel)]; exact ⟨rfl, rfl⟩))
    (fun os started H enc _ F => by rw [OpenClaim.pre_eq_preRow]; exact lifted os started H enc F)

/-- No parameter wants a stand-in; the program's own looks are off: what the card asks. -/
theorem plain (f : FuncId) (fn : Func) (hf : Tryd.pinned.checked.prog.funcNamed "puncheon/puncheonlaw06.TreeApart" = some f) (hfn : Tryd.pinned.checked.prog.funcs[f]? = some fn) :
    false = Tryd.pinned.checked.prog.looks [] ∧ ∀ (j : Nat) t, fn.params[j]? = some t → Tryd.pinned.checked.prog.wantsStandIn t = false := by
  obtain rfl : f = 3 := Option.some.inj ((show Tryd.prog.funcNamed "puncheon/puncheonlaw06.TreeApart" = some 3 by kernel_rfl).symm.trans hf) |>.symm
  obtain rfl : fn = Tryd.f3 := (Option.some.inj (Tryd.func3.symm.trans hfn)).symm
  refine ⟨by kernel_rfl, fun j t ht => ?_⟩
  rw [Tryd.params3] at ht
  have hm : t ∈ [24, 26] := by simpa using Array.mem_of_getElem? ht
  have hall : ([24, 26].all fun u => !Tryd.prog.wantsStandIn u) = true := by kernel_rfl
  exact (show Tryd.prog.wantsStandIn t = false by simpa using List.all_eq_true.1 hall t hm)
end Go.Proofs.YtemhdjplhafmiaaDoor.TreeApartP
namespace Go.Proofs.YtemhdjplhafmiaaDoor
theorem treeApart_card : Rows.TreeApartCardSaid :=
  Claim7.holds_tied_plain_at .later [] _ _ _ _ TreeApartP.said (fun _ h => by cases h) (by kernel_rfl) (fun _ h => by cases h) treeApart_row_tie rfl ⟨rfl, rfl⟩ (by kernel_rfl) rfl TreeApartP.plain (by kernel_rfl)
#print axioms treeApart_card
end Go.Proofs.YtemhdjplhafmiaaDoor
