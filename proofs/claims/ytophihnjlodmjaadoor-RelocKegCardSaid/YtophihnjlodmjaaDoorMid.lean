/- Proved here: a round of moveBinary's loop, from its beginning to its middle, from there to its end. -/
import Derived.Test.YtophihnjlodmjaaDoorBin
namespace Go.Proofs.YtophihnjlodmjaaDoor
open Go.RowKit Go.Shelf

theorem mm_start {w : World} {b b6 D : Nat} {l fr tt : Bs} {vd fv vp v15 : Value} {o cs : Bs} {al pa : List Nat} {k : Nat} {X X1 X2 : World} (h0 : MJ w b b6 D l fr tt vd fv vp o al k X) (h : MJ w b b6 D l fr tt vd fv vp o al k X1) (hs : D + 2 ≤ X.heap.size) (hb : Below X.heap.size X X1)
    (hr : X1.ownsRow X.heap.size 3 1 v15 pa.length (natsV pa)) (hx : Box X2 (b + 5) 5 (bytesV cs).toArray) (hg : X1.grownBy X2 (some (b + 5))) :
    MM w b b6 D l vd fv vp v15 cs o.length al pa X2 ∧ Fix (mjF b b6 D) X X2 ∧ X.heap.size ≤ X2.heap.size := by
  obtain ⟨l1, l2, l3⟩ := h.lay
  have far : ∀ q, q ≠ b + 5 → some q ≠ some (b + 5) := fun q hq e => hq (Option.some.inj e)
  have hsz := hb.size
  have hgs := hg.size
  refine ⟨⟨h.bd.kept hg (far _ (by omega)), h.bc.kept hg (far _ (by omega)), h.r4.kept hg (far _ (by omega)), h.r5.kept hg (far _ (by omega)), h.r6.kept hg (far _ (by omega)), hx, h.ba.kept hg (far _ (by omega)), h.bp.kept hg (far _ (by omega)), owns_grown h.op hg (fun r e e2 => by cases e; have := h.sp _ e2; omega), h.sp, h.bs.kept hg (far _ (by omega)), h.low.grown hg h.low.size (fun r e => by cases e; omega), ?_, fun g hg2 => ?_, h.lay⟩, ?_, by omega⟩
  · refine (Rd.of_own hr).kept fun g hg2 => ?_
    have := own_in hr (own_blk hr hg2)
    exact hg.block g this.2 (far _ (by omega))
  · have h1 := own_in hr (own_blk hr hg2)
    refine ⟨by omega, fun e => ?_, by omega⟩
    have := own_in h0.op e
    omega
  · intro q hq
    obtain ⟨k1, k2, k3, k4⟩ := hq
    exact (hg.block q (by omega) (far _ k2)).trans (hb.block q (by omega))
theorem mm_end {w : World} {b b6 D : Nat} {l fr tt : Bs} {vd fv vp v15 : Value} {cs o2 : Bs} {st k en : Nat} {al pa : List Nat} {Y : World} (h : MM w b b6 D l vd fv vp v15 cs st al pa Y) (hcs : cs = o2 ++ zer (l.length - o2.length)) (hen : en = o2.length)
    (eq : movF fr tt (segs l) ([], []) = movF fr tt (leftS l k) (o2, al)) (len : o2.length + (flat (leftS l k)).length = l.length) (cnt : al.length ≤ o2.length) :
    MJ w b b6 D l fr tt vd fv vp o2 al k (Y.setCell ⟨b6 + 2, 0, none⟩ (.int .i64 (en : Int))) ∧ Fix (mjF b b6 D) Y (Y.setCell ⟨b6 + 2, 0, none⟩ (.int .i64 (en : Int))) := by
  obtain ⟨l1, l2, l3⟩ := h.lay
  subst hen
  refine ⟨⟨h.bd.other (by omega) _, h.bc.other (by omega) _, h.r4.other (by omega) _, h.r5.other (by omega) _, h.r6.other (by omega) _, (Below.heap_setCell _ _ _ _ (show b + 5 ≠ b6 + 2 by omega)).trans (by rw [← hcs]; exact h.all), h.ba.other (by omega) _, h.bp.other (by omega) _, owns_grown h.op (grownBy_setCell' _ _ _) (fun r e e2 => by cases e; have := h.sp _ e2; omega), h.sp, h.bs.set _, h.low.setCell (p := ⟨b6 + 2, 0, none⟩) (by show w.heap.size ≤ b6 + 2; omega) _, eq, len, cnt, h.lay⟩, fun q hq => ?_⟩
  obtain ⟨k1, k2, k3, k4⟩ := hq
  exact Below.heap_setCell _ _ _ _ (show q ≠ b6 + 2 from k4)
theorem all_put {o rO : Bs} {n a : Nat} (ha : a = o.length) (hn : a + rO.length ≤ n) : (bytesV (o ++ zer (n - a))).take a ++ bytesV rO ++ (bytesV (o ++ zer (n - a))).drop (a + rO.length) = bytesV (o ++ rO ++ zer (n - a - rO.length)) := by
  subst ha
  rw [← bytesV_take, ← bytesV_drop, ← bytesV_app, ← bytesV_app, List.take_left' rfl, ← List.drop_drop, List.drop_left' rfl]
  simp [zer]
theorem all_next {o rO : Bs} {n ms : Nat} (h1 : rO.length ≤ ms) (h2 : o.length + ms ≤ n) : o ++ rO ++ zer (n - o.length - rO.length) = (o ++ rO ++ zer (ms - rO.length)) ++ zer (n - (o ++ rO ++ zer (ms - rO.length)).length) := by
  rw [List.append_assoc (o ++ rO), zer_add]
  congr 2
  rw [List.length_append, List.length_append, zer_len]
  omega
theorem fix_part {b b6 D : Nat} {vd : Value} {w X Y : World} (h : Fix (mjF b b6 D) X Y) (hb : b = w.heap.size) (h6 : b + 6 ≤ b6) (hD : D = b6 + 4) (hlow : ∀ g, inBlk vd g → g < w.heap.size) : Fix (fun q => ruT (b6 + 3) vd q ∨ q = D ∨ q = D + 1) X Y :=
  h.part fun q hq => by
    unfold mjF
    rcases hq with (hq | hq) | hq | hq
    · omega
    · have := hlow q hq; omega
    · omega
    · omega
theorem mj_fail {w : World} {b b6 D : Nat} {l fr tt : Bs} {vd fv vp : Value} {o : Bs} {al : List Nat} {k : Nat} {X X1 : World} (h : MJ w b b6 D l fr tt vd fv vp o al k X) (hlow : ∀ g, inBlk vd g → g < w.heap.size) (hs : D + 2 ≤ X.heap.size) (hb : Below X.heap.size X X1) :
    Fix (fun q => ruT (b6 + 3) vd q ∨ q = D ∨ q = D + 1) X (((X1.setCell ⟨b + 2, 0, none⟩ (.slice none 0 0)).setCell ⟨b + 3, 0, none⟩ (.slice none 0 0)).setCell ⟨b + 4, 0, none⟩ (.bool false)) ∧
    Boxed (((X1.setCell ⟨b + 2, 0, none⟩ (.slice none 0 0)).setCell ⟨b + 3, 0, none⟩ (.slice none 0 0)).setCell ⟨b + 4, 0, none⟩ (.bool false)) (b + 2) 57 (.slice none 0 0) ∧
    Boxed (((X1.setCell ⟨b + 2, 0, none⟩ (.slice none 0 0)).setCell ⟨b + 3, 0, none⟩ (.slice none 0 0)).setCell ⟨b + 4, 0, none⟩ (.bool false)) (b + 3) 27 (.slice none 0 0) ∧
    Boxed (((X1.setCell ⟨b + 2, 0, none⟩ (.slice none 0 0)).setCell ⟨b + 3, 0, none⟩ (.slice none 0 0)).setCell ⟨b + 4, 0, none⟩ (.bool false)) (b + 4) 4 (.bool false) ∧
    Below w.heap.size w (((X1.setCell ⟨b + 2, 0, none⟩ (.slice none 0 0)).setCell ⟨b + 3, 0, none⟩ (.slice none 0 0)).setCell ⟨b + 4, 0, none⟩ (.bool false)) := by
  obtain ⟨l1, l2, l3⟩ := h.lay
  have hx := h.on' hb
  have hz : ∀ q, (ruT (b6 + 3) vd q ∨ q = D ∨ q = D + 1) → q < X.heap.size ∧ q ≠ b + 2 ∧ q ≠ b + 3 ∧ q ≠ b + 4 := by
    rintro q ((hq | hq) | hq | hq)
    · omega
    · have := hlow q hq; omega
    · omega
    · omega
  exact ⟨(((Fix.below hb fun q hq => (hz q hq).1).cell (fun hq => (hz _ hq).2.1 rfl) _).cell (fun hq => (hz _ hq).2.2.1 rfl) _).cell (fun hq => (hz _ hq).2.2.2 rfl) _,
    ((hx.r4.set _).other (by omega) _).other (by omega) _, ((hx.r5.other (by omega) _).set _).other (by omega) _, ((hx.r6.other (by omega) _).other (by omega) _).set _,
    ((hx.low.setCell (p := ⟨b + 2, 0, none⟩) (by show w.heap.size ≤ b + 2; omega) _).setCell (p := ⟨b + 3, 0, none⟩) (by show w.heap.size ≤ b + 3; omega) _).setCell (p := ⟨b + 4, 0, none⟩) (by show w.heap.size ≤ b + 4; omega) _⟩
end Go.Proofs.YtophihnjlodmjaaDoor
