/- Proved here: laws of make and of copy in a round; what moveBinary of package reloc keeps from run to run. -/
import Derived.Test.YtophihnjlodmjaaDoorRuns
import Derived.Laws.CopyOwn
namespace Go.Proofs.YtophihnjlodmjaaDoor
open Go.RowKit Go.Shelf

theorem made_zer (n : Nat) : (madeCells (Value.int IntKind.u8 0).cells (n * 1)).toList = bytesV (zer n) := by
  refine List.ext_getElem (by simp [madeCells, bytesV, zer]) fun i h1 h2 => ?_
  have : i < n := by simpa [madeCells] using h1
  simp only [madeCells, bytesV, zer, Array.getElem_toList, Array.getElem_map, List.getElem_map, List.getElem_replicate]
  show #[Value.int IntKind.u8 0][_ % 1]! = _
  rw [Nat.mod_one]
  rfl
/-- 'make([]byte, n)': noughts. -/
theorem run_make_zer (w : World) (n : Nat) (hn : n ≤ 1000000) : ∃ w', (Instr.makeSlice 57 (.int .i64 (n : Int)) (.int .i64 (n : Int))).run Tryd.prog w = .ok (.slice (some ⟨w.heap.size, 0, none⟩) n n) w' ∧ Box w' w.heap.size 5 (bytesV (zer n)).toArray ∧ Below w.heap.size w w' := by
  obtain ⟨i0, hi, hz0, hz1, hz2⟩ := info_parts info5
  obtain ⟨w', h1, h2, h3⟩ := run_makeSlice_full (P := Tryd.prog) w w.heap.size 57 5 i0 (.int .u8 0) 1 Tryd.underlying57 hi hz0 hz1 .i64 .i64 n (by omega) (by rw [hz2]; omega) (by unfold maxLen; omega) (Nat.le_refl _)
  refine ⟨w', h1, ?_, (Below.refl _ w).grown h3 (Nat.le_refl _) (fun r e => by cases e)⟩
  rw [made_zer] at h2
  rcases h2.2 with ⟨h4, _⟩ | ⟨g, cap, cur, h4, _, h5, h6, _, h7, h8⟩
  · cases h4
  · cases h4
    rw [List.take_of_length_le (by simp; omega)] at h8
    have e : cur = (bytesV (zer n)).toArray := by rw [← h8]
    rw [← e]
    exact h5
theorem run_copy_here (w : World) (ty : TypeId) (ga st dl dc : Nat) (cur : List Value) (v : Value) (m : Bs) (hb : Box w ga 5 cur.toArray) (hr : Rd w v (bytesV m)) (hl : m.length ≤ dl) (hf : st + m.length ≤ cur.length) :
    ∃ w', (Builtin.copy_ #[57, 57] ty #[.slice (some ⟨ga, st, none⟩) dl dc, v]).run Tryd.prog w = .ok (goInt m.length) w' ∧ Box w' ga 5 (cur.take st ++ bytesV m ++ cur.drop (st + m.length)).toArray ∧ w.grownBy w' (some ga) := by
  obtain ⟨i0, hi, hz0, hz1, hz2⟩ := info_parts info5
  have hs : (Tryd.prog.info? 5).map (·.size) = some 1 := by rw [hi]; exact congrArg some hz1
  obtain ⟨a, c, rfl, h1, h2, h3⟩ := hr.shape
  by_cases h0 : m = []
  · subst h0
    refine ⟨w, run_copy_none w 57 57 ty 5 _ a dl dc 0 c Tryd.underlying57 hs (by simp), ?_, ⟨rfl, rfl, rfl, Nat.le_refl _, fun _ _ _ => rfl⟩⟩
    have : cur.take st ++ bytesV [] ++ cur.drop (st + ([] : Bs).length) = cur := by simp [bytesV]
    rw [this]; exact hb
  · obtain ⟨g, o, rfl⟩ := h3 (List.length_pos_iff.2 h0)
    have hmin : (bytesV m).length = Nat.min m.length dl := by rw [bytesV_len]; exact (Nat.min_eq_left hl).symm
    have := run_copy_row (P := Tryd.prog) w 57 57 ty 5 ga st dl dc ⟨g, o, none⟩ m.length c cur.toArray 5 (bytesV m) Tryd.underlying57 hs hb hmin (fun j y hy => by rw [addr_add]; exact hr.cellAt hy) (by rw [bytesV_len]; simpa using hf) (bytesV_one m)
    rw [bytesV_len] at this
    refine ⟨_, this, ?_, ⟨rfl, rfl, rfl, by simp [World.setRow], fun k hk hne => setRow_other w ga k _ (fun e => hne (by rw [e]))⟩⟩
    exact setRow_heap w ga _ _ 5 _ hb
theorem wpListIn_copy_here {F : Fence} {nF : Nat} {w : World} {ops : Array Oper} {rest : List Oper} {o : Oper} {a : Act} {Q : Exit → Act → World → Prop} (hgd : o.guard = none) (d s : Operand)
    (ho : o.op = .call { callee := .builtin .copy, args := #[d, s], argTypes := #[57, 57] }) (ga st dl dc : Nat) (cur : List Value) (v : Value) (m : Bs) (hd : a.eval d = .slice (some ⟨ga, st, none⟩) dl dc) (hs : a.eval s = v) (hb : Box w ga 5 cur.toArray) (hr : Rd w v (bytesV m)) (hl : m.length ≤ dl) (hf : st + m.length ≤ cur.length)
    (h : ∀ w', Box w' ga 5 (cur.take st ++ bytesV m ++ cur.drop (st + m.length)).toArray → w.grownBy w' (some ga) → wpListIn F nF Tryd.prog ops Q rest (a.put o.dst (goInt m.length)) w') : wpListIn F nF Tryd.prog ops Q (o :: rest) a w := by
  refine wpListIn_plain hgd fun K hK => ?_
  obtain ⟨w', hrun, h1, h2⟩ := run_copy_here w o.type ga st dl dc cur v m hb hr hl hf
  unfold Oper.wpIn
  refine ⟨by simp [Oper.about, ho, resolve, Target.leads, Sem.run_pure], ?_⟩
  rw [Oper.semAt_plain F _ _ (by rw [ho]; intro c hc'; cases hc')]
  simp [execOp, ho, resolve, invoke, builtin, hd, hs, hrun, Result.andThen]
  exact hK _ _ (h w' h1 h2)
theorem good_tail : ∀ (t : List (Bs × Nat)) (b : Bool) (j : Nat), Good b t → Good (b && (j == 0)) (t.drop j) := by
  intro t
  induction t with
  | nil => intro b j h; cases j <;> exact trivial
  | cons x t ih =>
    intro b j h
    obtain ⟨r, k⟩ := x
    cases j with
    | zero => simpa using h
    | succ j =>
      have := ih false j h.2.2.2.2
      simpa using this
theorem good_drop (l : Bs) (j : Nat) : Good (j == 0) ((segs l).drop j) := by simpa using good_tail (segs l) true j (segs_good' l)
/-- Segments that are left. -/
def leftS (l : Bs) (k : Nat) : List (Bs × Nat) := (segs l).drop k
theorem leftS_next {l : Bs} {pre : List (Bs × Nat)} {x : Bs × Nat} (h : pre ++ [x] <+: segs l) : leftS l pre.length = x :: leftS l (pre.length + 1) := by
  obtain ⟨t, ht⟩ := h
  unfold leftS
  rw [← ht, List.append_assoc, List.drop_left, List.singleton_append, ← List.drop_drop, List.drop_left]
  rfl
/-- One run of those. -/
theorem left_facts {l : Bs} {j : Nat} {r : Bs} {k : Nat} (h : leftS l j = (r, k) :: leftS l (j + 1)) : 0 ∉ r ∧ 1 ≤ r.length + k ∧ (leftS l (j + 1) = [] ↔ (flat (leftS l (j + 1))).length = 0) ∧ (flat (leftS l j)).length = r.length + k + (flat (leftS l (j + 1))).length := by
  have hg := good_drop l j
  have h2 : (segs l).drop j = (r, k) :: (segs l).drop (j + 1) := h
  have hg2 := good_drop l (j + 1)
  rw [h2] at hg
  refine ⟨hg.1, ?_, ?_, ?_⟩
  · have := hg.2.2.1
    by_cases hr : r = []
    · have := this hr; omega
    · have := List.length_pos_iff.2 hr; omega
  · constructor
    · intro e; rw [e]; rfl
    · intro e
      show (segs l).drop (j + 1) = []
      cases hT : (segs l).drop (j + 1) with
      | nil => rfl
      | cons y t =>
        obtain ⟨r2, k2⟩ := y
        rw [hT] at hg2
        have := flat_ne hg2
        have e' : (flat ((segs l).drop (j + 1))).length = 0 := e
        rw [hT] at e'
        exact absurd (List.length_eq_zero_iff.1 e') this
  · rw [h]
    show (flat ((r, k) :: leftS l (j + 1))).length = _
    rw [flat_cons, List.length_append, List.length_append, zer_len]
/-- What the loop over the runs keeps: all of the bytes, those behind o still noughts, and where the second prefix was put. -/
structure MJ (w : World) (b b6 D : Nat) (l fr tt : Bs) (vd fv vp : Value) (o : Bs) (al : List Nat) (k : Nat) (X : World) : Prop where
  bd : Boxed X b 57 vd
  bc : Boxed X (b + 1) 60 fv
  r4 : Boxed X (b + 2) 57 (.slice none 0 0)
  r5 : Boxed X (b + 3) 27 (.slice none 0 0)
  r6 : Boxed X (b + 4) 4 (.bool false)
  all : Box X (b + 5) 5 (bytesV (o ++ zer (l.length - o.length))).toArray
  ba : Boxed X b6 57 (.slice (some ⟨b + 5, 0, none⟩) l.length l.length)
  bp : Boxed X (b6 + 1) 27 vp
  op : X.ownsRow w.heap.size 3 1 vp al.length (natsV al)
  sp : ∀ g, vp.ownBlock = some g → D + 2 ≤ g
  bs : Boxed X (b6 + 2) 3 (.int .i64 (o.length : Int))
  low : Below w.heap.size w X
  eq : movF fr tt (segs l) ([], []) = movF fr tt (leftS l k) (o, al)
  len : o.length + (flat (leftS l k)).length = l.length
  cnt : al.length ≤ o.length
  lay : b = w.heap.size ∧ b + 6 ≤ b6 ∧ D = b6 + 4
theorem MJ.grown {w : World} {b b6 D : Nat} {l fr tt : Bs} {vd fv vp : Value} {o : Bs} {al : List Nat} {k : Nat} {X Y : World} {row : Option Nat} (h : MJ w b b6 D l fr tt vd fv vp o al k X) (hg : X.grownBy Y row) (hr : ∀ r, row = some r → r = b6 + 3 ∨ r = D ∨ r = D + 1) : MJ w b b6 D l fr tt vd fv vp o al k Y := by
  obtain ⟨l1, l2, l3⟩ := h.lay
  have far : ∀ q, q < b6 + 3 → some q ≠ row := fun q hq e => by have := hr q e.symm; omega
  refine ⟨h.bd.kept hg (far _ (by omega)), h.bc.kept hg (far _ (by omega)), h.r4.kept hg (far _ (by omega)), h.r5.kept hg (far _ (by omega)), h.r6.kept hg (far _ (by omega)), (hg.block _ h.all.lt (far _ (by omega))).trans h.all, h.ba.kept hg (far _ (by omega)), h.bp.kept hg (far _ (by omega)), owns_grown h.op hg (fun r e e2 => by have := hr r e; have := h.sp r e2; omega), h.sp, h.bs.kept hg (far _ (by omega)), h.low.grown hg h.low.size (fun r e => by have := hr r e; omega), h.eq, h.len, h.cnt, h.lay⟩
theorem MJ.on' {w : World} {b b6 D : Nat} {l fr tt : Bs} {vd fv vp : Value} {o : Bs} {al : List Nat} {k : Nat} {X Y : World} (h : MJ w b b6 D l fr tt vd fv vp o al k X) (hb : Below X.heap.size X Y) : MJ w b b6 D l fr tt vd fv vp o al k Y := h.grown (below_grown hb) fun r e => by cases e
/-- What it leaves alone. -/
def mjF (b b6 D : Nat) (k : Nat) : Prop := k < D + 2 ∧ k ≠ b + 5 ∧ k ≠ b6 + 1 ∧ k ≠ b6 + 2
/-- In the middle of a round: the bytes stand there already, the places do not yet. -/
structure MM (w : World) (b b6 D : Nat) (l : Bs) (vd fv vp v15 : Value) (cs : Bs) (st : Nat) (al pa : List Nat) (X : World) : Prop where
  bd : Boxed X b 57 vd
  bc : Boxed X (b + 1) 60 fv
  r4 : Boxed X (b + 2) 57 (.slice none 0 0)
  r5 : Boxed X (b + 3) 27 (.slice none 0 0)
  r6 : Boxed X (b + 4) 4 (.bool false)
  all : Box X (b + 5) 5 (bytesV cs).toArray
  ba : Boxed X b6 57 (.slice (some ⟨b + 5, 0, none⟩) l.length l.length)
  bp : Boxed X (b6 + 1) 27 vp
  op : X.ownsRow w.heap.size 3 1 vp al.length (natsV al)
  sp : ∀ g, vp.ownBlock = some g → D + 2 ≤ g
  bs : Boxed X (b6 + 2) 3 (.int .i64 (st : Int))
  low : Below w.heap.size w X
  row : Rd X v15 (natsV pa)
  rsp : ∀ g, inBlk v15 g → D + 2 ≤ g ∧ vp.ownBlock ≠ some g ∧ g < X.heap.size
  lay : b = w.heap.size ∧ b + 6 ≤ b6 ∧ D = b6 + 4
theorem MM.on' {w : World} {b b6 D : Nat} {l : Bs} {vd fv vp v15 : Value} {cs : Bs} {st : Nat} {al pa : List Nat} {X Y : World} (h : MM w b b6 D l vd fv vp v15 cs st al pa X) (hb : Below X.heap.size X Y) : MM w b b6 D l vd fv vp v15 cs st al pa Y :=
  ⟨boxed_on h.bd hb, boxed_on h.bc hb, boxed_on h.r4 hb, boxed_on h.r5 hb, boxed_on h.r6 hb, (hb.block _ h.all.lt).trans h.all, boxed_on h.ba hb, boxed_on h.bp hb, owns_on h.op hb, h.sp, boxed_on h.bs hb, bch h.low hb, h.row.on hb, fun g hg => ⟨(h.rsp g hg).1, (h.rsp g hg).2.1, Nat.lt_of_lt_of_le (h.rsp g hg).2.2 hb.size⟩, h.lay⟩
theorem MM.put {w : World} {b b6 D : Nat} {l : Bs} {vd fv vp v15 v' : Value} {cs : Bs} {st : Nat} {al al' pa : List Nat} {X Y : World} (h : MM w b b6 D l vd fv vp v15 cs st al pa X) (hs : D + 2 ≤ X.heap.size) (hw : Y.ownsRow w.heap.size 3 1 v' al'.length (natsV al')) (hg : X.grownBy Y vp.ownBlock) (hat : v'.ownBlock = vp.ownBlock ∨ v'.ownBlock = some X.heap.size) :
    MM w b b6 D l vd fv v' v15 cs st al' pa (Y.setCell ⟨b6 + 1, 0, none⟩ v') ∧ Fix (mjF b b6 D) X (Y.setCell ⟨b6 + 1, 0, none⟩ v') ∧ X.heap.size ≤ (Y.setCell ⟨b6 + 1, 0, none⟩ v').heap.size := by
  obtain ⟨l1, l2, l3⟩ := h.lay
  have far : ∀ q, q < D + 2 → some q ≠ vp.ownBlock := fun q hq e => by have := h.sp q e.symm; omega
  have hsn : ∀ g, v'.ownBlock = some g → D + 2 ≤ g := fun g e => by
    rcases hat with hat | hat
    · exact h.sp g (by rw [← hat]; exact e)
    · rw [hat] at e; cases e; exact hs
  have hgs : Y.grownBy (Y.setCell ⟨b6 + 1, 0, none⟩ v') (some (b6 + 1)) := grownBy_setCell' _ _ _
  have k1 : ∀ {q : Nat} {t : TypeId} {u : Value}, Boxed X q t u → q < D + 2 → q ≠ b6 + 1 → Boxed (Y.setCell ⟨b6 + 1, 0, none⟩ v') q t u := fun hb hq hne => (hb.kept hg (far _ hq)).other hne _
  refine ⟨⟨k1 h.bd (by omega) (by omega), k1 h.bc (by omega) (by omega), k1 h.r4 (by omega) (by omega), k1 h.r5 (by omega) (by omega), k1 h.r6 (by omega) (by omega), (Below.heap_setCell _ _ _ _ (show b + 5 ≠ b6 + 1 by omega)).trans ((hg.block _ h.all.lt (far _ (by omega))).trans h.all), k1 h.ba (by omega) (by omega), (h.bp.kept hg (far _ (by omega))).set _, owns_grown hw hgs (fun r e e2 => by cases e; have := hsn _ e2; omega), hsn, k1 h.bs (by omega) (by omega), (h.low.grown hg h.low.size fun r e => (own_in h.op e).1).setCell (p := ⟨b6 + 1, 0, none⟩) (by show w.heap.size ≤ b6 + 1; omega) _, ?_, fun g hg2 => ?_, h.lay⟩, ?_, ?_⟩
  · refine h.row.kept fun g hg2 => ?_
    obtain ⟨r1, r2, r3⟩ := h.rsp g hg2
    exact (Below.heap_setCell _ _ _ _ (show g ≠ b6 + 1 by omega)).trans (hg.block g r3 (fun e => r2 e.symm))
  · obtain ⟨r1, r2, r3⟩ := h.rsp g hg2
    refine ⟨r1, fun e => ?_, by have := hg.size; simp; omega⟩
    rcases hat with hat | hat
    · exact r2 (by rw [← hat]; exact e)
    · rw [hat] at e; cases e; omega
  · intro q hq
    obtain ⟨k1, k2, k3, k4⟩ := hq
    by_cases hqX : q < X.heap.size
    · exact (Below.heap_setCell _ _ _ _ (show q ≠ b6 + 1 from k3)).trans (hg.block q hqX (far _ k1))
    · omega
  · have := hg.size; simpa using this
end Go.Proofs.YtophihnjlodmjaaDoor
