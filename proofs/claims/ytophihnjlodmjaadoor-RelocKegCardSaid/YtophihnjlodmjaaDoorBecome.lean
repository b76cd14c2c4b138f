/- Proved here: what becoming of package reloc answers: what a run becomes. -/
import Derived.Test.YtophihnjlodmjaaDoorRefM
import Derived.Deep.RegionHeld
namespace Go.Proofs.YtophihnjlodmjaaDoor
open Go.RowKit Go.Shelf
attribute [local go_sem] Oper.semAt_some

/-- The prefixes that it holds. -/
structure FT (bf bt : Nat) (vf vt : Value) (fr tt : Bs) (X : World) : Prop where
  f : Boxed X bf 57 vf
  t : Boxed X bt 57 vt
  rf : Rd X vf (bytesV fr)
  rt : Rd X vt (bytesV tt)
theorem FT.on {bf bt : Nat} {vf vt : Value} {fr tt : Bs} {X Y : World} (h : FT bf bt vf vt fr tt X) (hb : Below X.heap.size X Y) : FT bf bt vf vt fr tt Y := ⟨boxed_on h.f hb, boxed_on h.t hb, h.rf.on hb, h.rt.on hb⟩
def BecR (fr tt r : Bs) (most : Int) (w : World) (e : Ending) (w' : World) : Prop :=
  ((((putO fr tt r).length : Int) ≤ most ∧ ∃ v1 v2, e = .returned (.tuple #[v1, v2, .bool true]) ∧ w'.ownsRow w.heap.size 5 1 v1 (putO fr tt r).length (bytesV (putO fr tt r)) ∧ w'.ownsRow w.heap.size 3 1 v2 (putA fr tt r).length (natsV (putA fr tt r))) ∨
    (most < ((putO fr tt r).length : Int) ∧ e = .returned (.tuple #[.slice none 0 0, .slice none 0 0, .bool false]))) ∧ Below w.heap.size w w'

/-- How long it becomes, place by place. -/
def szI (r fr tt : Bs) (k : Nat) : Int := (r.length : Int) + (k : Int) * ((tt.length : Int) - (fr.length : Int))
theorem szI_next (r fr tt : Bs) (k : Nat) : szI r fr tt (k + 1) = szI r fr tt k + ((tt.length : Int) - (fr.length : Int)) := by unfold szI; rw [Int.natCast_add, Int.add_mul]; simp; omega
theorem szI_bound {r fr tt : Bs} {k : Nat} (hl : r.length ≤ 1000000) (hf : fr.length ≤ 1000) (ht : tt.length ≤ 1000) (hk : k ≤ 1000000) : -2000000000 ≤ szI r fr tt k ∧ szI r fr tt k ≤ 2000000000 := by
  unfold szI
  rw [Int.mul_sub]
  have h1 : k * tt.length ≤ 1000000 * 1000 := Nat.mul_le_mul hk ht
  have h2 : k * fr.length ≤ 1000000 * 1000 := Nat.mul_le_mul hk hf
  have e1 : (k : Int) * (tt.length : Int) = ((k * tt.length : Nat) : Int) := by simp
  have e2 : (k : Int) * (fr.length : Int) = ((k * fr.length : Nat) : Int) := by simp
  rw [e1, e2]
  omega
theorem szI_all (fr tt r : Bs) : szI r fr tt (plcs fr r).length = ((putO fr tt r).length : Int) := by
  have h := putO_len fr tt r
  unfold szI
  rw [Int.mul_sub]
  have e1 : ((plcs fr r).length : Int) * (tt.length : Int) = (((plcs fr r).length * tt.length : Nat) : Int) := by simp
  have e2 : ((plcs fr r).length : Int) * (fr.length : Int) = (((plcs fr r).length * fr.length : Nat) : Int) := by simp
  rw [e1, e2]
  omega
theorem boxed_below {w w' : World} {g : Nat} {t : TypeId} {v : Value} (h : Boxed w g t v) (hb : Below w.heap.size w w') : Boxed w' g t v := boxed_on h hb
def sI (w : World) (r fr tt : Bs) (vr : Value) (pre : List Nat) (X : World) : Prop := Boxed X (w.heap.size + 1) 3 (.int .i64 (szI r fr tt pre.length)) ∧ Boxed X w.heap.size 57 vr ∧ Below w.heap.size w X
theorem sI_steady (w : World) (r fr tt : Bs) (vr : Value) (D : Nat) (hD : w.heap.size + 2 ≤ D) (Z : Nat → Prop) (hZ : ∀ k, Z k → k = D ∨ k = D + 1) : Steady Z (sI w r fr tt vr) := by
  rintro pre X Y row ⟨h1, h2, h3⟩ hg hr
  have far : ∀ r, row = some r → r = D ∨ r = D + 1 := fun r e => hZ r (hr r e)
  exact ⟨h1.kept hg fun e => by have := far _ e.symm; omega, h2.kept hg fun e => by have := far _ e.symm; omega, h3.grown hg h3.size fun r e => by have := far r e; omega⟩

/-- What the loop that puts keeps: the bytes so far, where the second prefix was put, and from where on nothing was looked at. -/
structure BJ (w : World) (D1 gm b D : Nat) (vr vn vp : Value) (o : Bs) (al : List Nat) (la : Nat) (X : World) : Prop where
  bn : Boxed X b 57 vn
  on : X.ownsRow w.heap.size 5 1 vn o.length (bytesV o)
  sn : ∀ g, vn.ownBlock = some g → g = gm ∨ D + 2 ≤ g
  bp : Boxed X (b + 1) 27 vp
  op : X.ownsRow w.heap.size 3 1 vp al.length (natsV al)
  sp : ∀ g, vp.ownBlock = some g → D + 2 ≤ g
  last : Boxed X (b + 2) 3 (.int .i64 (la : Int))
  run : Boxed X w.heap.size 57 vr
  low : Below w.heap.size w X
  defd : X.heap[D1]? = some (.deferred (some []))
  lay : w.heap.size + 2 ≤ D1 ∧ D1 + 2 ≤ gm ∧ gm + 1 ≤ b ∧ D = b + 5
/-- What it leaves alone. -/
def bjF (gm b D : Nat) (k : Nat) : Prop := k < D + 2 ∧ k ≠ gm ∧ k ≠ b ∧ k ≠ b + 1 ∧ k ≠ b + 2
theorem BJ.grown {w : World} {D1 gm b D : Nat} {vr vn vp : Value} {o : Bs} {al : List Nat} {la : Nat} {X Y : World} {row : Option Nat} (h : BJ w D1 gm b D vr vn vp o al la X) (hg : X.grownBy Y row) (hr : ∀ r, row = some r → r = D ∨ r = D + 1) : BJ w D1 gm b D vr vn vp o al la Y := by
  obtain ⟨l1, l2, l3, l4⟩ := h.lay
  have hd := (Array.getElem?_eq_some_iff.1 h.defd).1
  exact ⟨h.bn.kept hg fun e => by have := hr _ e.symm; omega, owns_grown h.on hg fun r e e2 => by have := hr r e; have := h.sn r e2; omega, h.sn, h.bp.kept hg fun e => by have := hr _ e.symm; omega, owns_grown h.op hg fun r e e2 => by have := hr r e; have := h.sp r e2; omega, h.sp, h.last.kept hg fun e => by have := hr _ e.symm; omega, h.run.kept hg fun e => by have := hr _ e.symm; omega, h.low.grown hg h.low.size fun r e => by have := hr r e; omega, (hg.block _ hd fun e => by have := hr _ e.symm; omega).trans h.defd, h.lay⟩
theorem BJ.on' {w : World} {D1 gm b D : Nat} {vr vn vp : Value} {o : Bs} {al : List Nat} {la : Nat} {X Y : World} (h : BJ w D1 gm b D vr vn vp o al la X) (hb : Below X.heap.size X Y) : BJ w D1 gm b D vr vn vp o al la Y := h.grown (below_grown hb) fun r e => by cases e
theorem BJ.now {w : World} {D1 gm b D : Nat} {vr vn vp v' : Value} {o o' : Bs} {al : List Nat} {la : Nat} {X Y : World} (h : BJ w D1 gm b D vr vn vp o al la X) (hs : D + 2 ≤ X.heap.size) (hw : Y.ownsRow w.heap.size 5 1 v' o'.length (bytesV o')) (hg : X.grownBy Y vn.ownBlock) (hat : v'.ownBlock = vn.ownBlock ∨ v'.ownBlock = some X.heap.size) :
    BJ w D1 gm b D vr v' vp o' al la (Y.setCell ⟨b, 0, none⟩ v') ∧ Fix (bjF gm b D) X (Y.setCell ⟨b, 0, none⟩ v') ∧ X.heap.size ≤ (Y.setCell ⟨b, 0, none⟩ v').heap.size := by
  obtain ⟨l1, l2, l3, l4⟩ := h.lay
  have hd := (Array.getElem?_eq_some_iff.1 h.defd).1
  have far : ∀ k, k < D + 2 → k ≠ gm → some k ≠ vn.ownBlock := fun k h1 h2 e => by have := h.sn k e.symm; omega
  have hsn : ∀ g, v'.ownBlock = some g → g = gm ∨ D + 2 ≤ g := fun g e => by
    rcases hat with hat | hat
    · exact h.sn g (by rw [← hat]; exact e)
    · rw [hat] at e; cases e; exact .inr hs
  have hgs : Y.grownBy (Y.setCell ⟨b, 0, none⟩ v') (some b) := grownBy_setCell' _ _ _
  refine ⟨⟨(h.bn.kept hg (far _ (by omega) (by omega))).set _, owns_grown hw hgs fun r e e2 => by cases e; have := hsn _ e2; omega, hsn, ((h.bp.kept hg (far _ (by omega) (by omega))).other (by omega) _), owns_grown (owns_grown h.op hg fun r e e2 => own_apart h.op h.on (by decide) r e2 e) hgs fun r e e2 => by cases e; have := h.sp _ e2; omega, h.sp, (h.last.kept hg (far _ (by omega) (by omega))).other (by omega) _, (h.run.kept hg (far _ (by omega) (by omega))).other (by omega) _, (h.low.grown hg h.low.size fun r e => (own_in h.on e).1).setCell (p := ⟨b, 0, none⟩) (by show w.heap.size ≤ b; omega) _, ?_, h.lay⟩, ?_, ?_⟩
  · exact (Below.heap_setCell _ _ _ _ (show D1 ≠ b by omega)).trans ((hg.block _ hd (far _ (by omega) (by omega))).trans h.defd)
  · intro k hk
    obtain ⟨k1, k2, k3, k4, k5⟩ := hk
    exact (Below.heap_setCell _ _ _ _ (show k ≠ b from k3)).trans (hg.block k (by omega) (far _ k1 k2))
  · have := hg.size; simpa using this
theorem BJ.put {w : World} {D1 gm b D : Nat} {vr vn vp v' : Value} {o : Bs} {al al' : List Nat} {la : Nat} {X Y : World} (h : BJ w D1 gm b D vr vn vp o al la X) (hs : D + 2 ≤ X.heap.size) (hw : Y.ownsRow w.heap.size 3 1 v' al'.length (natsV al')) (hg : X.grownBy Y vp.ownBlock) (hat : v'.ownBlock = vp.ownBlock ∨ v'.ownBlock = some X.heap.size) :
    BJ w D1 gm b D vr vn v' o al' la (Y.setCell ⟨b + 1, 0, none⟩ v') ∧ Fix (bjF gm b D) X (Y.setCell ⟨b + 1, 0, none⟩ v') ∧ X.heap.size ≤ (Y.setCell ⟨b + 1, 0, none⟩ v').heap.size := by
  obtain ⟨l1, l2, l3, l4⟩ := h.lay
  have hd := (Array.getElem?_eq_some_iff.1 h.defd).1
  have far : ∀ k, k < D + 2 → some k ≠ vp.ownBlock := fun k h1 e => by have := h.sp k e.symm; omega
  have hsn : ∀ g, v'.ownBlock = some g → D + 2 ≤ g := fun g e => by
    rcases hat with hat | hat
    · exact h.sp g (by rw [← hat]; exact e)
    · rw [hat] at e; cases e; exact hs
  have hgs : Y.grownBy (Y.setCell ⟨b + 1, 0, none⟩ v') (some (b + 1)) := grownBy_setCell' _ _ _
  refine ⟨⟨(h.bn.kept hg (far _ (by omega))).other (by omega) _, owns_grown (owns_grown h.on hg fun r e e2 => own_apart h.on h.op (by decide) r e2 e) hgs fun r e e2 => by cases e; have := h.sn _ e2; omega, h.sn, (h.bp.kept hg (far _ (by omega))).set _, owns_grown hw hgs fun r e e2 => by cases e; have := hsn _ e2; omega, hsn, (h.last.kept hg (far _ (by omega))).other (by omega) _, (h.run.kept hg (far _ (by omega))).other (by omega) _, (h.low.grown hg h.low.size fun r e => (own_in h.op e).1).setCell (p := ⟨b + 1, 0, none⟩) (by show w.heap.size ≤ b + 1; omega) _, ?_, h.lay⟩, ?_, ?_⟩
  · exact (Below.heap_setCell _ _ _ _ (show D1 ≠ b + 1 by omega)).trans ((hg.block _ hd (far _ (by omega))).trans h.defd)
  · intro k hk
    obtain ⟨k1, k2, k3, k4, k5⟩ := hk
    exact (Below.heap_setCell _ _ _ _ (show k ≠ b + 1 from k4)).trans (hg.block k (by omega) (far _ k1))
  · have := hg.size; simpa using this
theorem BJ.setl {w : World} {D1 gm b D : Nat} {vr vn vp : Value} {o : Bs} {al : List Nat} {la : Nat} {X : World} (h : BJ w D1 gm b D vr vn vp o al la X) (la' : Nat) :
    BJ w D1 gm b D vr vn vp o al la' (X.setCell ⟨b + 2, 0, none⟩ (.int .i64 (la' : Int))) ∧ Fix (bjF gm b D) X (X.setCell ⟨b + 2, 0, none⟩ (.int .i64 (la' : Int))) := by
  obtain ⟨l1, l2, l3, l4⟩ := h.lay
  have hgs : X.grownBy (X.setCell ⟨b + 2, 0, none⟩ (.int .i64 (la' : Int))) (some (b + 2)) := grownBy_setCell' _ _ _
  refine ⟨⟨h.bn.other (by omega) _, owns_grown h.on hgs fun r e e2 => by cases e; have := h.sn _ e2; omega, h.sn, h.bp.other (by omega) _, owns_grown h.op hgs fun r e e2 => by cases e; have := h.sp _ e2; omega, h.sp, h.last.set _, h.run.other (by omega) _, h.low.setCell (p := ⟨b + 2, 0, none⟩) (by show w.heap.size ≤ b + 2; omega) _, (Below.heap_setCell _ _ _ _ (show D1 ≠ b + 2 by omega)).trans h.defd, h.lay⟩, fun k hk => Below.heap_setCell _ _ _ _ (show k ≠ b + 2 from hk.2.2.2.2)⟩

theorem own_put {X : World} {B n : Nat} {e : TypeId} {v : Value} {xs : List Value} {r : Nat} {d : Option (List Deferred)} {o : Obj} (h : X.ownsRow B e 1 v n xs) (hr : X.heap[r]? = some (.deferred d)) : (X.putObj r o).ownsRow B e 1 v n xs :=
  owns_grown h (grownBy_putObj' _ _ _) fun r' e1 e2 => by
    cases e1
    rcases h.2 with ⟨rfl, _⟩ | ⟨g, c, cs, rfl, _, h1, _⟩
    · cases e2
    · cases e2
      rw [h1] at hr
      cases hr
/-- 'append(v, x...)' at a step of a region that draws. -/
theorem wp_append_if {op : Oper} {a : Act} {w : World} {K : Act → World → Prop} {Q : Exit → Act → World → Prop} {ops : Array Oper} (hw : Region.wanted op (yielded ops a.tmps) = true) (s x : Operand)
    (ho : op.op = .call { callee := .builtin .append, args := #[s, x], argTypes := #[57, 57] }) (base : Nat) (v vx : Value) (l m : Bs) (hs : a.eval s = v) (hown : w.ownsRow base 5 1 v l.length (bytesV l)) (hx : a.eval x = vx) (hsrc : Rd w vx (bytesV m)) (hnn : ∀ n c, vx ≠ .slice none n c) (hb : base ≤ w.heap.size) (hl : l.length + m.length ≤ 2000000000)
    (h : ∀ v' w', w'.ownsRow base 5 1 v' (l ++ m).length (bytesV (l ++ m)) → w.grownBy w' v.ownBlock → (v'.ownBlock = v.ownBlock ∨ v'.ownBlock = some w.heap.size) → K (a.put op.dst v') w') : if Region.wanted op (yielded ops a.tmps) = true then op.wp Tryd.prog a w K Q else K (a.put op.dst undef) w := by
  rw [if_pos hw]
  obtain ⟨i0, hi, hz0, hz1, hz2⟩ := info_parts info5
  obtain ⟨ad, cap, rfl, hc1, hc2, hn, hc3⟩ := hsrc
  cases ad with
  | none => exact absurd rfl (hnn _ _)
  | some ad =>
    rw [bytesV_len] at hx hc1 hc3
    obtain ⟨v', w', hr, h2, h3, _, h5⟩ := run_append_own_at (P := Tryd.prog) w base 57 op.type 5 i0 (.int .u8 0) 1 1 Tryd.underlying57 hi hz0 hz1 hz2 rfl (by decide) v l.length (bytesV l) hown ad m.length cap (bytesV m) (by rw [bytesV_len, Nat.mul_one]) (fun j u hu => by
      have hlt := (List.getElem?_eq_some_iff.1 hu).1
      rw [bytesV_len] at hlt
      obtain ⟨g, o, e, _, hc⟩ := hc3 (by omega)
      cases e
      rw [addr_add]
      exact hc j u hu) (bytesV_one _) (by unfold maxLen; omega) (by omega) hb
    unfold Oper.wp execOp
    simp only [ho, resolve, invoke, builtin, Sem.run_bind, Sem.run_pure, Result.andThen_ok, List.map_toArray, List.map_cons, List.map_nil, hs, hx, hr]
    rw [← bytesV_app, ← List.length_append] at h2
    exact h v' w' h2 h3 h5

set_option maxRecDepth 100000 in
set_option maxHeartbeats 8000000 in
theorem become_any (bf bt : Nat) (vf vt vr : Value) (fr tt r : Bs) (most : Int) (w : World) (hk : FT bf bt vf vt fr tt w) (hr : Rd w vr (bytesV r)) (hra0 : ∃ ad n c, vr = .slice (some ad) n c) (hf : 1 ≤ fr.length) (ht1 : 0 < tt.length) (hl : r.length ≤ 1000000) (hf2 : fr.length ≤ 1000) (ht2 : tt.length ≤ 1000) (hm : -9223372036854775808 ≤ most ∧ most ≤ 9223372036854775807)
    (hlow : ∀ g, inBlk vr g ∨ inBlk vf g ∨ inBlk vt g → g < w.heap.size) :
    Calls Tryd.prog 48 #[vr, .int .i64 most, .pointer (some ⟨bf, 0, none⟩), .pointer (some ⟨bt, 0, none⟩)] w (BecR fr tt r most w) := by
  obtain ⟨ar, cr, rfl, hr1, hr2, hr3⟩ := hr.shape
  obtain ⟨af, cf, rfl, hf3, hf4, hf5⟩ := hk.rf.shape
  obtain ⟨at', ct, rfl, ht3, ht4, ht5⟩ := hk.rt.shape
  have hra : ∃ ad, ar = some ad := by obtain ⟨ad, _, _, e⟩ := hra0; cases e; exact ⟨ad, rfl⟩
  clear hra0
  have HK := Lib.hid hk
  have HR := Lib.hid hr
  have HLOW := Lib.hid hlow
  have hbf := hk.f.lt
  have hbt := hk.t.lt
  have cf0 := hk.f.cell
  have ct0 := hk.t.cell
  have HPC := Lib.hid (plcs_count fr r hf)
  obtain ⟨W1, hW1⟩ : ∃ z, z = (((w.alloc (.cells #[.slice ar r.length cr] 57)).alloc (.cells #[.int .i64 (r.length : Int)] 3)).alloc (.cells #[.slice ar r.length cr] 57)).alloc (.cells #[.slice af fr.length cf] 57) := ⟨_, rfl⟩
  have hB1 : Below w.heap.size w W1 := by rw [hW1]; exact bch (bch (bch (below_new _ _) (below_new _ _)) (below_new _ _)) (below_new _ _)
  have hs1 : W1.heap.size = w.heap.size + 1 + 1 + 1 + 1 := by rw [hW1]; simp
  have x4 : Boxed W1 w.heap.size 57 (.slice ar r.length cr) := by rw [hW1]; exact (((Boxed.new _ _ _).alloc _).alloc _).alloc _
  have x9 : Boxed W1 (w.heap.size + 1) 3 (.int .i64 (szI r fr tt 0)) := by
    have := ((Boxed.new (w.alloc (.cells #[.slice ar r.length cr] 57)) 3 (.int .i64 (r.length : Int))).alloc (.cells #[.slice ar r.length cr] 57)).alloc (.cells #[.slice af fr.length cf] 57)
    rw [hW1]
    simpa [szI] using this
  have x5 : PK (w.heap.size + 1 + 1) (.slice ar r.length cr) (.slice af fr.length cf) r fr W1 := ⟨by
      have := (Boxed.new ((w.alloc (.cells #[.slice ar r.length cr] 57)).alloc (.cells #[.int .i64 (r.length : Int)] 3)) 57 (.slice ar r.length cr)).alloc (.cells #[.slice af fr.length cf] 57)
      rw [hW1]
      simpa using this, by
      have := Boxed.new (((w.alloc (.cells #[.slice ar r.length cr] 57)).alloc (.cells #[.int .i64 (r.length : Int)] 3)).alloc (.cells #[.slice ar r.length cr] 57)) 57 (.slice af fr.length cf)
      rw [hW1]
      simpa using this, hr.on hB1, hk.rf.on hB1⟩
  have hit := places_hands 4 (by omega) (w.heap.size + 1 + 1) r fr hf (by omega) (by omega) _ _ W1 x5
  have hT1 : ∀ k, plT (w.heap.size + 1 + 1) (.slice ar r.length cr) (.slice af fr.length cf) k → k < w.heap.size ∨ k = w.heap.size + 1 + 1 ∨ k = w.heap.size + 1 + 1 + 1 := fun k h => by
    rcases h with h | h | h | h
    · exact .inr (.inl h)
    · exact .inr (.inr h)
    · exact .inl (hlow k (.inl h))
    · exact .inl (hlow k (.inr (.inl h)))
  have HIT := Lib.hid hit
  have HT1 := Lib.hid hT1
  have HS0 := Lib.hid (show sI w r fr tt (.slice ar r.length cr) [] W1 from ⟨x9, x4, hB1⟩)
  have HS1 := Lib.hid hs1
  have HW1 := Lib.hid hW1
  clear hk hr hlow hr3 hf5 ht5 hit hT1 x4 x9 x5 hB1 hs1 hW1
  refine (callsIn_wide (n := 5)).1 ?_
  refine callsIn_of_wp_marks Tryd.func48 rfl trivial ?_ rfl
  simp only [Tryd.ntmps48, List.size_toArray, List.length_cons, List.length_nil, Nat.reduceAdd, Nat.reduceSub, Array.replicate_succ, Array.replicate_zero, List.push_toArray, List.append_toArray, List.nil_append, List.cons_append]
  gi_wp2_with (refine ⟨trivial, ?_⟩; gi_at_call 31; refine (callsIn_wide.2 (plfn_any _ _ _ _ _ _ _)).mono ?_; rintro e w' ⟨rfl, rfl⟩)
  rw [← HW1.out]
  have hs1 := HS1.out
  refine range_hands rfl (by omega) (gf := 47) (lb := #[.pointer (some ⟨w.heap.size + 1 + 1 + 1, 0, none⟩), .pointer (some ⟨w.heap.size + 1 + 1, 0, none⟩)]) rfl trivial (enters_of Tryd.func47 (by kernel_rfl) rfl)
    (plT (w.heap.size + 1 + 1) (.slice ar r.length cr) (.slice af fr.length cf)) (fun _ => False) W1.heap.size rfl (fun k hk => by have := HT1.out k hk; omega) (fun _ h => h.elim) HIT.out (fun _ => rfl) (sI w r fr tt (.slice ar r.length cr)) (fun _ _ => False)
    (sI_steady w r fr tt _ W1.heap.size (by omega) _ (fun k h => by rcases h with h | h | h; exact h.elim; exact .inl h; exact .inr h)) (fun _ _ _ _ h _ _ => h) HS0.out
    (fun x => { tmps := #[    .slice ar r.length cr, .int .i64 most, .pointer (some ⟨bf, 0, none⟩), .pointer (some ⟨bt, 0, none⟩), .pointer (some ⟨w.heap.size, 0, none⟩), undef, .slice none 0 0, .slice none 0 0, .bool false, .pointer (some ⟨w.heap.size + 1, 0, none⟩), undef, undef, undef, undef, .slice ar r.length cr, .int .i64 (r.length : Int), .slice ar r.length cr, .slice af fr.length cf, .func (.func 47) #[] #[.pointer (some ⟨w.heap.size + 1 + 1 + 1, 0, none⟩), .pointer (some ⟨w.heap.size + 1 + 1, 0, none⟩)], .int .i64 (x : Int), undef, undef, undef, undef, undef, undef, undef, undef, undef, undef, undef, undef, undef, undef, undef, undef, undef, undef, undef, undef, undef, undef, undef, undef, undef, undef, undef, undef, undef, undef, undef, undef, undef, undef, undef, undef, undef, undef, undef, undef, undef], defers := [] }) ?assign ?body ?done ?stop
  case assign =>
    intro l x X K hK
    gi_wp2
    exact hK
  case stop => exact fun _ _ h _ _ => h.elim
  case body =>
    rintro lp pre x X hpre hsX ⟨h1, h2, h3⟩
    have c9 := h1.cell
    have f9 := h1.frozen
    have ctX := (h3.cell (p := ⟨bt, 0, none⟩) hbt).trans ct0
    have cfX := (h3.cell (p := ⟨bf, 0, none⟩) hbf).trans cf0
    have hpl : pre.length + 1 ≤ 1000000 := by
      have := hpre.length_le
      have := HPC.out
      simp at *
      omega
    obtain ⟨s0, hs0⟩ : ∃ s, s = szI r fr tt pre.length := ⟨_, rfl⟩
    obtain ⟨s1, hs1'⟩ : ∃ s, s = szI r fr tt (pre.length + 1) := ⟨_, rfl⟩
    obtain ⟨d, hd⟩ : ∃ d, d = (tt.length : Int) - (fr.length : Int) := ⟨_, rfl⟩
    have e1 := szI_bound (r := r) hl hf2 ht2 (k := pre.length + 1) (by omega)
    have wd : IntKind.i64.wrap ((tt.length : Int) - (fr.length : Int)) = d := by rw [hd]; exact IntWalk.i64_in _ (by omega)
    have ws : IntKind.i64.wrap (s0 + d) = s1 := by
      have := szI_next r fr tt pre.length
      rw [← hs0, ← hs1', ← hd] at this
      rw [← hs1'] at e1
      rw [← this]
      exact IntWalk.i64_in _ (by omega)
    rw [← hs0] at c9
    have HF : Hid (Left (fun k => plT (w.heap.size + 1 + 1) (.slice ar r.length cr) (.slice af fr.length cf) k ∨ k = W1.heap.size ∨ k = W1.heap.size + 1) (sI w r fr tt (.slice ar r.length cr)) (fun _ _ => False) (pre ++ [x]) X .normal { tmps := #[], defers := [] } (X.setCell ⟨w.heap.size + 1, 0, none⟩ (.int .i64 s1))) := Lib.hid (by
      refine ⟨fun k hk => Below.heap_setCell _ _ _ _ (show k ≠ w.heap.size + 1 from ?_), by simp, ?_, h2.other (by omega) _, h3.setCell (p := ⟨w.heap.size + 1, 0, none⟩) (by show w.heap.size ≤ w.heap.size + 1; omega) _⟩
      · rcases hk with hk | hk | hk
        · have := HT1.out k hk; omega
        · omega
        · omega
      · rw [List.length_append, List.length_cons, List.length_nil, ← hs1']
        exact h1.set _)
    clear h1 h2 h3 hpre hsX hs0 hs1' hd hpl e1 hs1
    gi_wp2
    exact HF.out
  case done =>
    rintro X ⟨h1, h2, h3⟩ hdz hd
    obtain ⟨m, hm⟩ : ∃ m, m = (putO fr tt r).length := ⟨_, rfl⟩
    have HM := Lib.hid hm
    rw [szI_all, ← hm] at h1
    have c9 := h1.cell
    have hmb : m ≤ 1001000000 := by
      have h4 := putO_len fr tt r
      have h5 : (plcs fr r).length * tt.length ≤ 1000000 * 1000 := Nat.mul_le_mul (by have := HPC.out; omega) ht2
      omega
    have HD1 := Lib.hid hd
    have H1 := Lib.hid h1
    have H2 := Lib.hid h2
    have H3 := Lib.hid h3
    have HD1s : Hid (W1.heap.size + 2 ≤ X.heap.size) := Lib.hid hdz
    clear h1 h2 h3 hd hdz hm hs1
    by_cases hfit : (m : Int) ≤ most
    · have t1 : decide ((m : Int) > most) = false := decide_eq_false (by omega)
      have t1' : decide (most < (m : Int)) = false := decide_eq_false (by omega)
      have HFIT : Hid (((putO fr tt r).length : Int) ≤ most) := Lib.hid (by rw [← HM.out]; exact hfit)
      clear hfit
      obtain ⟨i0, hi, hz0, hz1, hz2⟩ := info_parts info5
      have c4 := H2.out.cell
      have cf1 := (H3.out.cell (p := ⟨bf, 0, none⟩) hbf).trans cf0
      gi_wp2_with (first
        | (gi_at_make; refine wpListIn_make_own _ rfl _ _ 57 rfl w.heap.size 5 i0 (.int .u8 0) 1 Tryd.underlying57 hi hz0 hz1 .i64 .i64 _ m rfl rfl rfl (by rw [hz2]; omega) (by unfold maxLen; omega) H3.out.size ?_; intro w1 hown hgrow; have HOW := Lib.hid hown; have HG := Lib.hid hgrow; have hb41 := H2.out.kept hgrow (by simp); have p4 := hb41.cell; have l4 := hb41.lt; have hlow1 := H3.out.grown hgrow H3.out.size (fun r e => by cases e); have pf := (hlow1.cell (p := ⟨bf, 0, none⟩) hbf).trans cf0; have lf : bf < w1.heap.size := Nat.lt_of_lt_of_le hbf hlow1.size; have HLO1 := Lib.hid hlow1; have HB41 := Lib.hid hb41; have q4 : (((w1.alloc (.cells #[.slice (some ⟨X.heap.size, 0, none⟩) 0 m] 57)).alloc (.cells #[.slice none 0 0] 27)).alloc (.cells #[.int .i64 0] 3)).cell? ⟨w.heap.size, 0, none⟩ = some (.slice ar r.length cr) := (((hb41.alloc _).alloc _).alloc _).cell; have qf : (((w1.alloc (.cells #[.slice (some ⟨X.heap.size, 0, none⟩) 0 m] 57)).alloc (.cells #[.slice none 0 0] 27)).alloc (.cells #[.int .i64 0] 3)).cell? ⟨bf, 0, none⟩ = some (.slice af fr.length cf) := (((((boxed_below HK.out.f H3.out).kept hgrow (by simp)).alloc _).alloc _).alloc _).cell; clear hown hgrow hb41 hlow1 c4 cf1 p4 pf)
        | (refine ⟨trivial, ?_⟩; gi_at_call 31; refine (callsIn_wide.2 (plfn_any _ _ _ _ _ _ _)).mono ?_; rintro e w' ⟨rfl, rfl⟩))
      obtain ⟨b, hb⟩ : ∃ b, b = w1.heap.size := ⟨_, rfl⟩
      obtain ⟨W2, hW2⟩ : ∃ z, z = ((((w1.alloc (.cells #[.slice (some ⟨X.heap.size, 0, none⟩) 0 m] 57)).alloc (.cells #[.slice none 0 0] 27)).alloc (.cells #[.int .i64 0] 3)).alloc (.cells #[.slice ar r.length cr] 57)).alloc (.cells #[.slice af fr.length cf] 57) := ⟨_, rfl⟩
      rw [← hW2]
      have hsD : W2.heap.size = b + 5 := by rw [hW2, hb]; simp
      have hgm : X.heap.size < b := by rw [hb]; exact (own_in HOW.out rfl).2
      have hB2 : Below w1.heap.size w1 W2 := by rw [hW2]; exact bch (bch (bch (bch (below_new _ _) (below_new _ _)) (below_new _ _)) (below_new _ _)) (below_new _ _)
      have y0 : Boxed W2 b 57 (.slice (some ⟨X.heap.size, 0, none⟩) 0 m) := by rw [hW2, hb]; exact ((((Boxed.new _ _ _).alloc _).alloc _).alloc _).alloc _
      have y1 : Boxed W2 (b + 1) 27 (.slice none 0 0) := by
        have := (((Boxed.new (w1.alloc (.cells #[.slice (some ⟨X.heap.size, 0, none⟩) 0 m] 57)) 27 (.slice none 0 0)).alloc (.cells #[.int .i64 0] 3)).alloc (.cells #[.slice ar r.length cr] 57)).alloc (.cells #[.slice af fr.length cf] 57)
        rw [hW2, hb]; simpa using this
      have y2 : Boxed W2 (b + 2) 3 (.int .i64 ((0 : Nat) : Int)) := by
        have := ((Boxed.new ((w1.alloc (.cells #[.slice (some ⟨X.heap.size, 0, none⟩) 0 m] 57)).alloc (.cells #[.slice none 0 0] 27)) 3 (.int .i64 0)).alloc (.cells #[.slice ar r.length cr] 57)).alloc (.cells #[.slice af fr.length cf] 57)
        rw [hW2, hb]; simpa using this
      have y3 : Boxed W2 (b + 3) 57 (.slice ar r.length cr) := by
        have := (Boxed.new (((w1.alloc (.cells #[.slice (some ⟨X.heap.size, 0, none⟩) 0 m] 57)).alloc (.cells #[.slice none 0 0] 27)).alloc (.cells #[.int .i64 0] 3)) 57 (.slice ar r.length cr)).alloc (.cells #[.slice af fr.length cf] 57)
        rw [hW2, hb]; simpa using this
      have y4 : Boxed W2 (b + 4) 57 (.slice af fr.length cf) := by
        have := Boxed.new ((((w1.alloc (.cells #[.slice (some ⟨X.heap.size, 0, none⟩) 0 m] 57)).alloc (.cells #[.slice none 0 0] 27)).alloc (.cells #[.int .i64 0] 3)).alloc (.cells #[.slice ar r.length cr] 57)) 57 (.slice af fr.length cf)
        rw [hW2, hb]; simpa using this
      have hBW : Below w.heap.size w W2 := HLO1.out.trans (hB2.mono HLO1.out.size)
      have hD1 : W2.heap[W1.heap.size]? = some (.deferred (some [])) := by
        have h1 := HD1.out
        have h2 := HD1s.out
        have h3 := HG.out.size
        exact (hB2.block _ (by omega)).trans ((HG.out.block _ (by omega) (by simp)).trans h1)
      have HBJ : Hid (BJ w W1.heap.size X.heap.size b W2.heap.size (.slice ar r.length cr) (.slice (some ⟨X.heap.size, 0, none⟩) 0 m) (.slice none 0 0) [] [] 0 W2) := Lib.hid ⟨y0, owns_on HOW.out hB2, (fun g e => by cases e; exact .inl rfl), y1, World.ownsRow_nil _ _ _ _, (fun g e => by cases e), y2, boxed_on HB41.out hB2, hBW, hD1, by have := HS1.out; have := HD1s.out; omega⟩
      have HPK : Hid (PK (b + 3) (.slice ar r.length cr) (.slice af fr.length cf) r fr W2) := Lib.hid ⟨y3, y4, HR.out.on hBW, HK.out.rf.on hBW⟩
      have HSD := Lib.hid hsD
      have HGM := Lib.hid hgm
      have HBW := Lib.hid hBW
      have e3 : w1.heap.size + 1 + 1 + 1 = b + 3 := by omega
      have e4 : w1.heap.size + 1 + 1 + 1 + 1 = b + 4 := by omega
      have e2 : w1.heap.size + 1 + 1 = b + 2 := by omega
      have e1 : w1.heap.size + 1 = b + 1 := by omega
      rw [e4, e3, e2, e1, ← hb]
      obtain ⟨gm, hgm2⟩ : ∃ g, g = X.heap.size := ⟨_, rfl⟩
      rw [← hgm2] at HBJ HGM ⊢
      have HGX := Lib.hid hgm2
      obtain ⟨D1, hD12⟩ : ∃ g, g = W1.heap.size := ⟨_, rfl⟩
      rw [← hD12] at HBJ ⊢
      have HDX := Lib.hid hD12
      have HT2 : Hid (∀ k, plT (b + 3) (.slice ar r.length cr) (.slice af fr.length cf) k → k < w.heap.size ∨ k = b + 3 ∨ k = b + 4) := Lib.hid (fun k h => by
        rcases h with h | h | h | h
        · exact .inr (.inl h)
        · exact .inr (.inr h)
        · exact .inl (HLOW.out k (.inl h))
        · exact .inl (HLOW.out k (.inr (.inl h))))
      have hit2 := places_hands 4 (by omega) (b + 3) r fr hf (by omega) (by omega) _ _ W2 HPK.out
      have HIT2 := Lib.hid hit2
      have hws : w.heap.size + 2 ≤ gm := by have := HBJ.out.lay; omega
      have hgb : gm < b := HGM.out
      clear y0 y1 y2 y3 y4 hBW hD1 hB2 hsD hgm e1 e2 e3 e4 hW2 hgm2 hD12 hit2 l4 lf q4 qf hb
      have hsD := HSD.out
      refine range_hands rfl (by omega) (gf := 47) (lb := #[.pointer (some ⟨b + 4, 0, none⟩), .pointer (some ⟨b + 3, 0, none⟩)]) rfl trivial (enters_of Tryd.func47 (by kernel_rfl) rfl)
        (plT (b + 3) (.slice ar r.length cr) (.slice af fr.length cf)) (fun _ => False) W2.heap.size rfl (fun k hk => by have := HT2.out k hk; omega) (fun _ h => h.elim) HIT2.out (fun _ => rfl)
        (fun pre X => ∃ vn vp, BJ w D1 gm b W2.heap.size (.slice ar r.length cr) vn vp (cutF r tt fr.length pre).out (cutF r tt fr.length pre).ats (cutF r tt fr.length pre).last X) (fun _ _ => False)
        ?steady (fun _ _ _ _ h _ _ => h) ⟨_, _, HBJ.out⟩
        (fun x => { tmps := #[.slice ar r.length cr, .int .i64 most, .pointer (some ⟨bf, 0, none⟩), .pointer (some ⟨bt, 0, none⟩), .pointer (some ⟨w.heap.size, 0, none⟩), undef, .slice none 0 0, .slice none 0 0, .bool false, .pointer (some ⟨w.heap.size + 1, 0, none⟩), .pointer (some ⟨b, 0, none⟩), .pointer (some ⟨b + 1, 0, none⟩), .pointer (some ⟨b + 2, 0, none⟩), .int .i64 (x : Int), .slice ar r.length cr, .int .i64 (r.length : Int), .slice ar r.length cr, .slice af fr.length cf, .func (.func 47) #[] #[.pointer (some ⟨w.heap.size + 1 + 1 + 1, 0, none⟩), .pointer (some ⟨w.heap.size + 1 + 1, 0, none⟩)], undef, undef, undef, undef, undef, undef, undef, undef, .int .i64 (m : Int), .int .i64 most, .bool false, .int .i64 (m : Int), .slice (some ⟨gm, 0, none⟩) 0 m, .slice ar r.length cr, .slice af fr.length cf, .func (.func 47) #[] #[.pointer (some ⟨b + 4, 0, none⟩), .pointer (some ⟨b + 3, 0, none⟩)], .int .i64 (x : Int), undef, undef, undef, undef, undef, undef, undef, undef, undef, undef, undef, undef, undef, undef, undef, undef, undef, undef, undef, undef, undef, undef, undef, undef, undef], defers := [] }) ?assign ?body ?done ?stop
      case steady =>
        rintro pre X Y row ⟨vn, vp, h⟩ hg hr
        exact ⟨vn, vp, h.grown hg fun r e => by rcases hr r e with h | h | h; exact h.elim; exact .inl h; exact .inr h⟩
      case assign =>
        intro l x X K hK
        gi_wp2
        exact hK
      case stop => exact fun _ _ h _ _ => h.elim
      case body =>
        rintro lp pre x X2 hpre hsX ⟨vn, vp, h⟩
        obtain ⟨tl, htl⟩ := hpre
        have hk : pre.length < (plcs fr r).length := by rw [← htl]; simp only [List.length_append, List.length_cons, List.length_nil]; omega
        have htk : (plcs fr r).take pre.length = pre := by rw [← htl, List.append_assoc, List.take_left]
        have hgx : (plcs fr r)[pre.length] = x := by
          have e : (plcs fr r)[pre.length]? = some x := by rw [← htl]; simp
          rw [List.getElem?_eq_getElem hk] at e
          exact Option.some.inj e
        obtain ⟨hn1, hn2⟩ := cut_next r tt fr.length (plcs fr r) (plcs_gaps fr r) hk
        obtain ⟨hz1, hz2, hz3⟩ := cut_size r tt fr.length (plcs fr r) (plcs_gaps fr r) pre.length (by omega)
        have hrm := cut_room (n := fr.length) (k := pre.length + 1) (tt := tt) (plcs_gaps fr r) hl ht2 HPC.out (by omega)
        have hst := cut_take r tt fr.length (plcs fr r) hk
        have hsn := cutF_snoc r tt fr.length pre x
        rw [htk, hgx] at hst hn1
        rw [hgx] at hn2
        rw [htk] at hz1 hz2 hz3
        rw [hst] at hrm
        have hcb := HPC.out
        obtain ⟨c, hc⟩ : ∃ c, c = cutF r tt fr.length pre := ⟨_, rfl⟩
        rw [← hc] at h hn1 hz1 hz2 hz3 hsn hrm
        obtain ⟨co, ca, cl⟩ := c
        simp only at h hn1 hz1 hz2 hz3
        have HSNO := Lib.hid hsn
        have HRM : Hid (co.length + (x - cl) + tt.length ≤ 1001000000) := Lib.hid (by
          have := take_len r cl x (by omega)
          simp only [stepC, List.length_append, this] at hrm
          omega)
        have HH := Lib.hid h
        obtain ⟨an, cn, rfl⟩ := own_slice h.on
        obtain ⟨ap, cp, rfl⟩ := own_slice h.op
        have p1 : (0 : Int) ≤ (cl : Int) := by omega
        have p2 : (cl : Int) ≤ (x : Int) := by omega
        have p3 : (x : Int) ≤ (cr : Int) := by omega
        have l0 := h.bn.cell
        have l1 := h.run.cell
        have l2 := h.last.cell
        have l3 := h.bp.cell
        have fz0 := h.bn.frozen
        have fz1 := h.bp.frozen
        have fz2 := h.last.frozen
        have HCA : Hid (ca.length + 1 ≤ 10000000) := Lib.hid (by omega)
        have hxl : x ≤ r.length := by omega
        have hclx : cl ≤ x := hn1
        clear htl hk htk hgx hn1 hz1 hz2 hz3 hrm hst hsn hc h hcb
        gi_wp2
        refine round_still_tail 6 (by kernel_rfl) (by kernel_rfl) (by kernel_rfl) ?_
        simp only [List.take_succ_cons, List.take_zero, List.drop_succ_cons, List.drop_zero]
        repeat still_step
        try refine wpStill_nil ?_
        obtain ⟨q, hq⟩ : ∃ q, q = (r.drop cl).take (x - cl) := ⟨_, rfl⟩
        have HQ := Lib.hid hq
        have hqb : q.length ≤ x - cl := by rw [hq]; exact List.length_take_le _ _
        have hRQ : Rd X2.drew (.slice (if x = cl then ar else ar.map (·.add cl)) (x - cl) (x - cl)) (bytesV q) := by
          rw [hq, bytesV_take, bytesV_drop]
          exact ((HR.out.on HH.out.low).drew).part cl x x hclx hxl (Nat.le_refl _) (by omega)
        generalize hgen : (if x = cl then ar else ar.map (·.add cl)) = a41 at hRQ ⊢
        have HRQ := Lib.hid hRQ
        obtain ⟨o5, ho5⟩ : ∃ o5, o5 = co ++ q := ⟨_, rfl⟩
        have HO5 := Lib.hid ho5
        have HOD : Hid (X2.drew.ownsRow w.heap.size 5 1 (.slice an co.length cn) co.length (bytesV co)) := Lib.hid HH.out.on
        have hD2 : W2.heap.size + 2 ≤ X2.drew.heap.size := hsX
        have HD2 := Lib.hid hD2
        have HN1 : Hid (∀ v' w', w'.ownsRow w.heap.size 5 1 v' o5.length (bytesV o5) → X2.drew.grownBy w' (Value.slice an co.length cn).ownBlock → (v'.ownBlock = (Value.slice an co.length cn).ownBlock ∨ v'.ownBlock = some X2.drew.heap.size) → BJ w D1 gm b W2.heap.size (.slice ar r.length cr) v' (.slice ap ca.length cp) o5 ca cl (w'.setCell ⟨b, 0, none⟩ v') ∧ Fix (bjF gm b W2.heap.size) X2 (w'.setCell ⟨b, 0, none⟩ v') ∧ X2.heap.size ≤ (w'.setCell ⟨b, 0, none⟩ v').heap.size ∧ Boxed w' b 57 (.slice an co.length cn)) := Lib.hid (fun v' w' e1 e2 e3 => by
          have hb := (HH.out.on' (Below.refl _ X2).drew)
          have h1 := hb.now HD2.out e1 e2 e3
          exact ⟨h1.1, h1.2.1, h1.2.2, hb.bn.kept e2 fun e => by have := hb.sn b e.symm; have := hb.lay; omega⟩)
        have HLB : Hid ((co.length + q.length) * 1 ≤ 140737488355328) := Lib.hid (by have := HRM.out; omega)
        have HLC : Hid (o5.length + tt.length ≤ 1001000000) := Lib.hid (by rw [ho5, List.length_append]; have := HRM.out; omega)
        clear hq hqb hD2 hRQ hgen ho5
        go_wp2_with (at_builtin; go_loud (refine wpList_append_at rfl (.tmp 36) (.tmp 41) 57 5 (.int .u8 0) 1 rfl Tryd.underlying57 info5 rfl w.heap.size _ _ (bytesV co) (bytesV q) rfl (own_len HOD.out) rfl HRQ.out (bytesV_one _) (Nat.le_trans HH.out.low.size (Nat.le_refl _)) (by rw [bytesV_len, bytesV_len]; exact HLB.out) (by decide) ?_; intro v5 w5 hown5 hg5 hat5; rw [← bytesV_app, bytesV_len, ← HO5.out] at hown5; obtain ⟨hB5, hF5, hS5, hX5⟩ := HN1.out v5 w5 hown5 hg5 hat5; have xw := hX5.cell; have fw := hX5.frozen; have HB5 := Lib.hid hB5; have HF5 := Lib.hid hF5; have HS5 := Lib.hid hS5; obtain ⟨a5, c5, rfl⟩ := own_slice hB5.on; clear hown5 hg5 hat5 hB5 hF5 hS5 hX5 l0 l1 l2 l3 fz0 fz1 fz2; refine Hid.out ?_))
        refine Lib.hid ?_
        go_wp2
        simp only [Plainly]
        obtain ⟨WA, hWA⟩ : ∃ z, z = w5.setCell ⟨b, 0, none⟩ (.slice a5 o5.length c5) := ⟨_, rfl⟩
        rw [← hWA] at HB5 HF5 HS5 ⊢
        clear hWA xw fw
        have l0 := HB5.out.bn.cell
        have l3 := HB5.out.bp.cell
        have fz1 := HB5.out.bp.frozen
        obtain ⟨n5, hn5⟩ : ∃ n5, n5 = o5.length := ⟨_, rfl⟩
        have HN5 := Lib.hid hn5
        obtain ⟨WB, hWB⟩ : ∃ z, z = WA.alloc (.cells #[.int .i64 (n5 : Int)] 3) := ⟨_, rfl⟩
        have hBB : Below WA.heap.size WA WB := by rw [hWB]; exact below_new _ _
        have HBB := Lib.hid (HB5.out.on' hBB)
        have HNW : Hid (∀ (j : Nat) (u : Value), [i64 n5][j]? = some u → WB.cell? ((⟨WA.heap.size, 0, none⟩ : Addr).add j) = some u) := Lib.hid (fun j u hu => by
          rw [addr_add, Nat.zero_add]
          have hbx : Box WB WA.heap.size 3 #[i64 n5] := by rw [hWB]; exact heap_alloc_new WA _
          exact hbx.cell (by simpa using hu))
        have HWB := Lib.hid hWB
        have HSAB : Hid (WA.heap.size ≤ WB.heap.size) := Lib.hid hBB.size
        have HSB : Hid (w.heap.size ≤ WB.heap.size ∧ W2.heap.size + 2 ≤ WB.heap.size) := Lib.hid (by have := HD2.out; have := HS5.out; have := hBB.size; have := HBB.out.low.size; have : X2.drew.heap.size = X2.heap.size := rfl; omega)
        have HFB := Lib.hid (Fix.below (Z := bjF gm b W2.heap.size) hBB (fun k hk => by have := hk.1; have := HD2.out; have := HS5.out; have : X2.drew.heap.size = X2.heap.size := rfl; omega))
        obtain ⟨i3, hi3, hz30, hz31, hz32⟩ := info_parts info3
        have HP2 : Hid (∀ v' w', w'.ownsRow w.heap.size 3 1 v' (ca.length + 1) (natsV ca ++ [i64 n5]) → WB.grownBy w' (Value.slice ap ca.length cp).ownBlock → (v'.ownBlock = (Value.slice ap ca.length cp).ownBlock ∨ v'.ownBlock = some WB.heap.size) → BJ w D1 gm b W2.heap.size (.slice ar r.length cr) (.slice a5 n5 c5) v' o5 (ca ++ [n5]) cl (w'.setCell ⟨b + 1, 0, none⟩ v') ∧ Fix (bjF gm b W2.heap.size) WB (w'.setCell ⟨b + 1, 0, none⟩ v') ∧ WB.heap.size ≤ (w'.setCell ⟨b + 1, 0, none⟩ v').heap.size ∧ Boxed w' (b + 1) 27 (.slice ap ca.length cp)) := Lib.hid (fun v' w' e1 e2 e3 => by
          have h1 := HBB.out.put (al' := ca ++ [n5]) HSB.out.2 (by rw [natsV_app, List.length_append]; exact e1) e2 e3
          rw [← hn5] at h1
          exact ⟨h1.1, h1.2.1, h1.2.2, HBB.out.bp.kept e2 fun e => by have := HBB.out.sp _ e.symm; have := HBB.out.lay; omega⟩)
        rw [← hn5] at l0 ⊢
        clear hWB hBB hn5
        gi_wp2_with (gi_at_builtin; go_loud (rw [← HWB.out]; refine wpListIn_append_own_at _ rfl _ _ 27 rfl w.heap.size 3 i3 (.int .i64 0) 1 8 Tryd.underlying27 hi3 hz30 hz31 hz32 rfl (by decide) _ _ _ rfl HBB.out.op ⟨WA.heap.size, 0, none⟩ 1 1 [i64 n5] rfl rfl HNW.out (by simp [Value.oneCell', i64]) (by have := HCA.out; unfold maxLen; omega) (by have := HCA.out; omega) HSB.out.1 ?_; intro v6 w6 hown6 hg6 _ hat6; obtain ⟨hB6, hF6, hS6, hX6⟩ := HP2.out v6 w6 hown6 hg6 hat6; have XW6 := Lib.hid hX6; have xw := hX6.cell; have fw := hX6.frozen; have HB6 := Lib.hid hB6; have HF6 := Lib.hid hF6; have HS6 := Lib.hid hS6; obtain ⟨a6, c6, rfl⟩ := own_slice hown6; clear hown6 hg6 hat6 hB6 hF6 hS6 hX6 l0 l3 fz1; refine Hid.out ?_))
        refine Lib.hid ?_
        clear xw fw
        have xw1 := HB6.out.bp
        obtain ⟨WC, hWC⟩ : ∃ z, z = w6.setCell ⟨b + 1, 0, none⟩ (.slice a6 (ca.length + 1) c6) := ⟨_, rfl⟩
        rw [← hWC] at HB6 HF6 HS6
        clear xw1
        have HWC := Lib.hid hWC
        have m0 : (w6.setCell ⟨b + 1, 0, none⟩ (.slice a6 (ca.length + 1) c6)).cell? ⟨b, 0, none⟩ = some (.slice a5 n5 c5) := by rw [← hWC]; exact HB6.out.bn.cell
        have mt : (w6.setCell ⟨b + 1, 0, none⟩ (.slice a6 (ca.length + 1) c6)).cell? ⟨bt, 0, none⟩ = some (.slice at' tt.length ct) := by rw [← hWC]; exact (HB6.out.low.cell (p := ⟨bt, 0, none⟩) hbt).trans ct0
        have xw := XW6.out.cell
        have fw := XW6.out.frozen
        have HRT : Hid (Rd WC (.slice at' tt.length ct) (bytesV tt)) := Lib.hid (HK.out.rt.on HB6.out.low)
        have HOC : Hid (WC.ownsRow w.heap.size 5 1 (.slice a5 n5 c5) n5 (bytesV o5)) := Lib.hid (by have := HB6.out.on; rw [← HN5.out] at this; exact this)
        have HSC : Hid (w.heap.size ≤ WC.heap.size ∧ W2.heap.size + 2 ≤ WC.heap.size) := Lib.hid (by have := HSB.out; have := HS6.out; omega)
        obtain ⟨o7, ho7⟩ : ∃ o7, o7 = o5 ++ tt := ⟨_, rfl⟩
        have HN3 : Hid (∀ v' w', w'.ownsRow w.heap.size 5 1 v' o7.length (bytesV o7) → WC.grownBy w' (Value.slice a5 n5 c5).ownBlock → (v'.ownBlock = (Value.slice a5 n5 c5).ownBlock ∨ v'.ownBlock = some WC.heap.size) → BJ w D1 gm b W2.heap.size (.slice ar r.length cr) v' (.slice a6 (ca.length + 1) c6) o7 (ca ++ [n5]) cl (w'.setCell ⟨b, 0, none⟩ v') ∧ Fix (bjF gm b W2.heap.size) WC (w'.setCell ⟨b, 0, none⟩ v') ∧ WC.heap.size ≤ (w'.setCell ⟨b, 0, none⟩ v').heap.size ∧ Boxed w' b 57 (.slice a5 n5 c5)) := Lib.hid (fun v' w' e1 e2 e3 => by
          have h1 := HB6.out.now HSC.out.2 e1 e2 e3
          exact ⟨h1.1, h1.2.1, h1.2.2, HB6.out.bn.kept e2 fun e => by have := HB6.out.sn b e.symm; have := HB6.out.lay; omega⟩)
        have HO7 := Lib.hid ho7
        have HOAT : Hid (∃ g o, at' = some ⟨g, o, none⟩) := Lib.hid (by
          obtain ⟨_, _, e, _, _, h4⟩ := HK.out.rt.shape
          cases e
          exact h4 ht1)
        obtain ⟨gt, ot, rfl⟩ := HOAT.out
        have HNT : Hid (∀ (j : Nat) (u : Value), (bytesV tt)[j]? = some u → WC.cell? ((⟨gt, ot, none⟩ : Addr).add j) = some u) := Lib.hid (fun j u hu => by
          rw [addr_add]
          exact HRT.out.cellAt hu)
        have wx : IntKind.i64.wrap ((x : Int) + (fr.length : Int)) = (x : Int) + (fr.length : Int) := IntWalk.i64_in _ (by omega)
        obtain ⟨i5, hi5, hz50, hz51, hz52⟩ := info_parts info5
        have HFIN : Hid (∀ (v' : Value) (w' : World), BJ w D1 gm b W2.heap.size (.slice ar r.length cr) v' (.slice a6 (ca.length + 1) c6) o7 (ca ++ [n5]) cl (w'.setCell ⟨b, 0, none⟩ v') → Fix (bjF gm b W2.heap.size) WC (w'.setCell ⟨b, 0, none⟩ v') → WC.heap.size ≤ (w'.setCell ⟨b, 0, none⟩ v').heap.size → Left (fun k => plT (b + 3) (.slice ar r.length cr) (.slice af fr.length cf) k ∨ k = W2.heap.size ∨ k = W2.heap.size + 1) (fun pre X => ∃ vn vp, BJ w D1 gm b W2.heap.size (.slice ar r.length cr) vn vp (cutF r tt fr.length pre).out (cutF r tt fr.length pre).ats (cutF r tt fr.length pre).last X) (fun _ _ => False) (pre ++ [x]) X2 .normal { tmps := #[], defers := [] } ((w'.setCell ⟨b, 0, none⟩ v').setCell ⟨b + 2, 0, none⟩ (.int .i64 ((x : Int) + (fr.length : Int))))) := Lib.hid (fun v' w' h1 h2 h3 => by
          have h4 := h1.setl (x + fr.length)
          have ex : (((x + fr.length : Nat)) : Int) = (x : Int) + (fr.length : Int) := by omega
          rw [ex] at h4
          have hf := ((((HF5.out.trans HFB.out).trans HF6.out).trans h2).trans h4.2)
          refine ⟨fun k hk => hf k ?_, ?_, v', .slice a6 (ca.length + 1) c6, ?_⟩
          · have hlay := h1.lay
            have hsd := HSD.out
            rcases hk with hk | hk | hk
            · have := HT2.out k hk
              refine ⟨by omega, by omega, by omega, by omega, by omega⟩
            · exact ⟨by omega, by omega, by omega, by omega, by omega⟩
            · exact ⟨by omega, by omega, by omega, by omega, by omega⟩
          · have q1 := HS5.out
            have q2 := HS6.out
            have q3 : X2.drew.heap.size = X2.heap.size := rfl
            have q4 := HSAB.out
            simp at h3 ⊢
            omega
          · rw [HSNO.out]
            simp only [stepC]
            rw [← HQ.out, ← HO5.out, ← HO7.out, ← HN5.out]
            exact h4.1)
        clear hWC ho7
        gi_wp2_with (gi_at_builtin; go_loud (rw [← HWC.out]; refine wpListIn_append_own_at _ rfl _ _ 57 rfl w.heap.size 5 i5 (.int .u8 0) 1 1 Tryd.underlying57 hi5 hz50 hz51 hz52 rfl (by decide) _ _ _ rfl HOC.out ⟨gt, ot, none⟩ tt.length ct (bytesV tt) rfl (by rw [bytesV_len, Nat.mul_one]) HNT.out (bytesV_one _) (by have := HLC.out; have := HN5.out; unfold maxLen; omega) (by have := HLC.out; have := HN5.out; omega) HSC.out.1 ?_; intro v7 w7 hown7 hg7 _ hat7; rw [← bytesV_app, ← HO7.out] at hown7; have HE7 : Hid (n5 + tt.length = o7.length) := Lib.hid (by rw [HO7.out, List.length_append, ← HN5.out]); rw [HE7.out] at hown7; obtain ⟨hB7, hF7, hS7, hX7⟩ := HN3.out v7 w7 hown7 hg7 hat7; have xw := hX7.cell; have fw := hX7.frozen; have HB7 := Lib.hid hB7; have HF7 := Lib.hid hF7; have HS7 := Lib.hid hS7; obtain ⟨a7, c7, rfl⟩ := own_slice hB7.on; have m2 := hB7.last.frozen; have mf := (hB7.low.cell (p := ⟨bf, 0, none⟩) hbf).trans cf0; have m3 := hB7.last.cell; clear hown7 hg7 hat7 hB7 hF7 hS7 hX7 m0 mt; refine Hid.out ?_))
        refine Lib.hid ?_
        gi_wp2
        exact HFIN.out _ _ HB7.out HF7.out HS7.out
      case done =>
        rintro X2 ⟨vn, vp, h⟩ hdz hd
        obtain ⟨hz1, hz2, hz3⟩ := cut_size r tt fr.length (plcs fr r) (plcs_gaps fr r) (plcs fr r).length (Nat.le_refl _)
        have hrm := cut_room (n := fr.length) (k := (plcs fr r).length) (tt := tt) (plcs_gaps fr r) hl ht2 HPC.out (Nat.le_refl _)
        rw [List.take_length] at hz1 hz2 hz3 hrm
        have hE : putO fr tt r = (cutF r tt fr.length (plcs fr r)).out ++ r.drop (cutF r tt fr.length (plcs fr r)).last ∧ putA fr tt r = (cutF r tt fr.length (plcs fr r)).ats := ⟨rfl, rfl⟩
        obtain ⟨c, hc⟩ : ∃ c, c = cutF r tt fr.length (plcs fr r) := ⟨_, rfl⟩
        rw [← hc] at h hz1 hz2 hz3 hrm hE
        obtain ⟨co, ca, cl⟩ := c
        simp only at h hz1 hz2 hz3 hrm hE
        obtain ⟨q, hq⟩ : ∃ q, q = r.drop cl := ⟨_, rfl⟩
        have HEF : Hid (putO fr tt r = co ++ q ∧ putA fr tt r = ca) := Lib.hid (by rw [hq]; exact hE)
        have HLF : Hid (co.length + q.length ≤ 1002000000) := Lib.hid (by rw [hq, List.length_drop]; omega)
        have HH := Lib.hid h
        obtain ⟨an, cn, rfl⟩ := own_slice h.on
        obtain ⟨ap, cp, rfl⟩ := own_slice h.op
        obtain ⟨ad, rfl⟩ := hra
        have HOF : Hid (X2.drew.ownsRow w.heap.size 5 1 (.slice an co.length cn) co.length (bytesV co)) := Lib.hid HH.out.on
        have HRF : Hid (Rd X2.drew (.slice (if cr = cl then some ad else (some ad).map (·.add cl)) (r.length - cl) (cr - cl)) (bytesV q)) := Lib.hid (by
          have := ((HR.out.on HH.out.low).drew).part cl r.length cr hz1 (Nat.le_refl _) (by omega) (Nat.le_refl _)
          rw [List.take_of_length_le (by rw [List.length_drop, bytesV_len]; omega), ← bytesV_drop, ← hq] at this
          exact this)
        have HNF : Hid (∀ n c, (Value.slice (if cr = cl then some ad else (some ad).map (·.add cl)) (r.length - cl) (cr - cl)) ≠ .slice none n c) := Lib.hid (fun n c e => by
          injection e with e1
          split at e1 <;> cases e1)
        have HSF : Hid (w.heap.size ≤ X2.drew.heap.size) := Lib.hid HH.out.low.size
        have HDF := Lib.hid hd
        have HAF : Hid (∀ v9 w9, w9.ownsRow w.heap.size 5 1 v9 (co ++ q).length (bytesV (co ++ q)) → X2.drew.grownBy w9 (Value.slice an co.length cn).ownBlock → (Boxed w9 b 57 (.slice an co.length cn) ∧ Boxed w9 (b + 1) 27 (.slice ap ca.length cp) ∧ Boxed w9 (b + 2) 3 (.int .i64 (cl : Int)) ∧ Boxed w9 w.heap.size 57 (.slice (some ad) r.length cr)) ∧ Below w.heap.size w w9 ∧ w9.ownsRow w.heap.size 3 1 (.slice ap ca.length cp) ca.length (natsV ca) ∧ w9.heap[D1]? = some (.deferred (some [])) ∧ w9.heap[W2.heap.size]? = some (.deferred (some []))) := Lib.hid (fun v9 w9 h1 h2 => by
          have hb := (HH.out.on' (Below.refl _ X2).drew)
          have hlay := hb.lay
          have far : ∀ k, k < W2.heap.size + 2 → k ≠ gm → some k ≠ (Value.slice an co.length cn).ownBlock := fun k h3 h4 e => by have := hb.sn k e.symm; omega
          have hd1 := (Array.getElem?_eq_some_iff.1 hb.defd).1
          have hd2 := (Array.getElem?_eq_some_iff.1 HDF.out).1
          exact ⟨⟨hb.bn.kept h2 (far _ (by omega) (by omega)), hb.bp.kept h2 (far _ (by omega) (by omega)), hb.last.kept h2 (far _ (by omega) (by omega)), hb.run.kept h2 (far _ (by omega) (by omega))⟩, hb.low.grown h2 hb.low.size (fun r e => (own_in hb.on e).1), owns_grown hb.op h2 (fun r e e2 => own_apart hb.op hb.on (by decide) r e2 e), (h2.block _ hd1 (far _ (by omega) (by omega))).trans hb.defd, (h2.block _ hd2 (far _ (by omega) (by omega))).trans HDF.out⟩)
        have p1 : (0 : Int) ≤ (cl : Int) := by omega
        have p2 : (cl : Int) ≤ (r.length : Int) := by omega
        have p4 : cl ≤ r.length := hz1
        have hS : Boxed X2.drew b 57 (.slice an co.length cn) ∧ Boxed X2.drew (b + 1) 27 (.slice ap ca.length cp) ∧ Boxed X2.drew (b + 2) 3 (.int .i64 (cl : Int)) ∧ Boxed X2.drew w.heap.size 57 (.slice (some ad) r.length cr) := ⟨h.bn, h.bp, h.last, h.run⟩
        clear hz1 hz2 hz3 hrm hE hc hq hd hdz h
        gi_wp2
        refine region_wide (S := fun W => Boxed W b 57 (.slice an co.length cn) ∧ Boxed W (b + 1) 27 (.slice ap ca.length cp) ∧ Boxed W (b + 2) 3 (.int .i64 (cl : Int)) ∧ Boxed W w.heap.size 57 (.slice (some ad) r.length cr)) (by kernel_rfl) (by kernel_rfl) hS (fun hHeld => ?_)
        refine wpAnyH_take (i := 0) (oi := { dst := some 55, op := Op.load 57 (Operand.tmp 10), type := 57, pos := "move.go:31", after := #[], guard := none }) (v := ?_) rfl (by kernel_rfl) (by kernel_rfl) (by kernel_rfl) (fun _ _ _ h => h) (Or.inl ⟨by rfl, ?_⟩) hHeld ?_
        rotate_left
        · (intro w hSw; have p0 := hSw.1.cell; go_simp; try with_reducible rfl)
        (try simp only [Act.put, List.setIfInBounds_toArray, List.set_cons_zero, List.set_cons_succ])
        refine wpAnyH_take (i := 1) (oi := { dst := some 56, op := Op.load 57 (Operand.tmp 4), type := 57, pos := "move.go:31", after := #[], guard := none }) (v := ?_) rfl (by kernel_rfl) (by kernel_rfl) (by kernel_rfl) (fun _ _ _ h => h) (Or.inl ⟨by rfl, ?_⟩) hHeld ?_
        rotate_left
        · (intro w hSw; have p0 := hSw.2.2.2.cell; go_simp; try with_reducible rfl)
        (try simp only [Act.put, List.setIfInBounds_toArray, List.set_cons_zero, List.set_cons_succ])
        refine wpAnyH_take (i := 2) (oi := { dst := some 57, op := Op.load 3 (Operand.tmp 12), type := 3, pos := "move.go:31", after := #[], guard := none }) (v := ?_) rfl (by kernel_rfl) (by kernel_rfl) (by kernel_rfl) (fun _ _ _ h => h) (Or.inl ⟨by rfl, ?_⟩) hHeld ?_
        rotate_left
        · (intro w hSw; have p0 := hSw.2.2.1.cell; go_simp; try with_reducible rfl)
        (try simp only [Act.put, List.setIfInBounds_toArray, List.set_cons_zero, List.set_cons_succ])
        refine wpAnyH_take (i := 3) (oi := { dst := some 58, op := Op.slice 57 (Operand.tmp 56) (some (Operand.tmp 57)) none none, type := 57, pos := "move.go:31", after := #[{ on := 1, ground := Ground.data }, { on := 2, ground := Ground.data }], guard := none }) (v := ?_) rfl (by kernel_rfl) (by kernel_rfl) (by kernel_rfl) (fun _ _ _ h => h) (Or.inl ⟨by rfl, ?_⟩) hHeld ?_
        rotate_left
        · (intro w hSw; go_simp; try with_reducible rfl)
        (try simp only [Act.put, List.setIfInBounds_toArray, List.set_cons_zero, List.set_cons_succ])
        refine wpAnyH_take (i := 5) (oi := { dst := some 60, op := Op.load 27 (Operand.tmp 11), type := 27, pos := "move.go:31", after := #[{ on := 6, ground := Ground.gcOnly Departure.lateStores }], guard := none }) (v := ?_) rfl (by kernel_rfl) (by kernel_rfl) (by kernel_rfl) (fun _ _ _ h => h) (Or.inl ⟨by rfl, ?_⟩) hHeld ?_
        rotate_left
        · (intro w hSw; have p0 := hSw.2.1.cell; go_simp; try with_reducible rfl)
        (try simp only [Act.put, List.setIfInBounds_toArray, List.set_cons_zero, List.set_cons_succ])
        refine wpAnyH_ready (rs := [4]) (by kernel_rfl) (by simp) (AllReadyH.cons (o := { dst := some 59, op := Op.call { callee := Callee.builtin Builtin.append, args := #[Operand.tmp 55, Operand.tmp 58], argTypes := #[57, 57] }, type := 57, pos := "move.go:31", after := #[{ on := 0, ground := Ground.data }, { on := 3, ground := Ground.data }], guard := none }) rfl (fun K hK => ?_) AllReadyH.nil)
        · refine wp_append_if (by rfl) (.tmp 55) (.tmp 58) rfl w.heap.size _ _ co q rfl HOF.out rfl HRF.out HNF.out HSF.out (by have := HLF.out; omega) ?_
          intro v9 w9 hown9 hg9 hat9
          have HA9 := Lib.hid (HAF.out v9 w9 hown9 hg9)
          clear hg9 hat9
          refine hK _ _ HA9.out.1 (fun hHeld => ?_)
          have HO9 := Lib.hid hown9
          clear hown9
          (try simp only [Act.put, List.setIfInBounds_toArray, List.set_cons_zero, List.set_cons_succ])
          refine wpAnyH_take (i := 6) (oi := { dst := some 6, op := Op.assign (Operand.tmp 59), type := 57, pos := "move.go:31", after := #[{ on := 4, ground := Ground.data }, { on := 4, ground := Ground.chain }, { on := 0, ground := Ground.phase }, { on := 1, ground := Ground.phase }, { on := 2, ground := Ground.phase }, { on := 3, ground := Ground.phase }, { on := 4, ground := Ground.phase }, { on := 5, ground := Ground.textOnly Departure.lateStores }], guard := none }) (v := ?_) rfl (by kernel_rfl) (by kernel_rfl) (by kernel_rfl) (fun _ _ _ h => h) (Or.inl ⟨by rfl, ?_⟩) hHeld ?_
          rotate_left
          · (intro w hSw; go_simp; try with_reducible rfl)
          (try simp only [Act.put, List.setIfInBounds_toArray, List.set_cons_zero, List.set_cons_succ])
          refine wpAnyH_take (i := 7) (oi := { dst := some 7, op := Op.assign (Operand.tmp 60), type := 27, pos := "move.go:31", after := #[{ on := 5, ground := Ground.data }, { on := 6, ground := Ground.chain }, { on := 0, ground := Ground.phase }, { on := 1, ground := Ground.phase }, { on := 2, ground := Ground.phase }, { on := 3, ground := Ground.phase }, { on := 4, ground := Ground.phase }, { on := 5, ground := Ground.phase }, { on := 6, ground := Ground.phase }], guard := none }) (v := ?_) rfl (by kernel_rfl) (by kernel_rfl) (by kernel_rfl) (fun _ _ _ h => h) (Or.inl ⟨by rfl, ?_⟩) hHeld ?_
          rotate_left
          · (intro w hSw; go_simp; try with_reducible rfl)
          (try simp only [Act.put, List.setIfInBounds_toArray, List.set_cons_zero, List.set_cons_succ])
          refine wpAnyH_take (i := 8) (oi := { dst := some 8, op := Op.assign (Operand.const (Value.bool true)), type := 4, pos := "move.go:31", after := #[{ on := 7, ground := Ground.chain }, { on := 0, ground := Ground.phase }, { on := 1, ground := Ground.phase }, { on := 2, ground := Ground.phase }, { on := 3, ground := Ground.phase }, { on := 4, ground := Ground.phase }, { on := 5, ground := Ground.phase }, { on := 6, ground := Ground.phase }, { on := 7, ground := Ground.phase }], guard := none }) (v := ?_) rfl (by kernel_rfl) (by kernel_rfl) (by kernel_rfl) (fun _ _ _ h => h) (Or.inl ⟨by rfl, ?_⟩) hHeld ?_
          rotate_left
          · (intro w hSw; go_simp; try with_reducible rfl)
          (try simp only [Act.put, List.setIfInBounds_toArray, List.set_cons_zero, List.set_cons_succ])
          refine wpAnyH_done (by kernel_rfl) ?_ _
          simp only [Plainly]
          gi_wp2
          all_goals
            refine ⟨by simp, .inl ⟨_, _, rfl, run_takeDeferred (show w9.heap[b + 5]? = _ by rw [← HSD.out]; exact HA9.out.2.2.2.2), ?_⟩⟩
            refine ⟨by simp, .inl ⟨_, _, rfl, run_takeDeferred ((World.putObj_heap_other (by have := HH.out.lay; omega)).trans HA9.out.2.2.2.1), ?_⟩⟩
            refine ⟨.tuple #[v9, .slice ap ca.length cp, .bool true], ?_, ?_⟩
            · simp [results, Tryd.f48, go_sem]
            · have hd2 := HA9.out.2.2.2.2
              rw [HSD.out] at hd2
              have hd1 : (w9.putObj (b + 5) (.deferred none)).heap[D1]? = some (.deferred (some [])) := (World.putObj_heap_other (by have := HH.out.lay; omega)).trans HA9.out.2.2.2.1
              refine ⟨.inl ⟨HFIT.out, _, _, rfl, ?_, ?_⟩, put_below (put_below HA9.out.2.1 (by have := HH.out.lay; omega)) (by have := HH.out.lay; omega)⟩
              · rw [HEF.out.1]
                exact own_put (own_put HO9.out hd2) hd1
              · rw [HEF.out.2]
                exact own_put (own_put HA9.out.2.2.1 hd2) hd1

    · have t1 : decide ((m : Int) > most) = true := decide_eq_true (by omega)
      have t1' : decide (most < (m : Int)) = true := decide_eq_true (by omega)
      have HFIT : Hid (most < ((putO fr tt r).length : Int)) := Lib.hid (by rw [← HM.out]; omega)
      clear hfit
      gi_wp2
      refine ⟨by simp, .inl ⟨_, _, rfl, run_takeDeferred HD1.out, ?_⟩⟩
      refine ⟨.tuple #[.slice none 0 0, .slice none 0 0, .bool false], ?_, ?_⟩
      · simp [results, Tryd.f48, go_sem]
      · exact ⟨.inr ⟨HFIT.out, rfl⟩, put_below H3.out (by have := HS1.out; omega)⟩
end Go.Proofs.YtophihnjlodmjaaDoor
