/- Proved here: what a call of WriteString leaves of a strings.Builder of the caller's own: a row of bytes, and some more of them behind it. In between stands one word, 'Lies': the builder was written to, and its second field is this slice. -/
import Derived.Test.YtjekibhaabkecaaDoorRows
import Derived.Test.YtjekibhaabkecaaDoorShelf
import Derived.Test.YtjekibhaabkecaaDoorMath
import Derived.Lib.UnsafeStr
import Derived.WalkKit
import Derived.Lib.Hide
import Derived.WalkSpells
import Derived.WalkLawsBesides
namespace Go.Proofs.YtjekibhaabkecaaDoor
open Go.RowKit Go.Shelf

def Bld (B b : Nat) (l : Str) (w : World) : Prop := Lib.IsBuilderF 64 5 B b (Lib.byteCells l) w
/-- What a builder's calls leave: below its base all is as it was, and every block but its own and rows of bytes, too. -/
def BStep (B b : Nat) (w w' : World) : Prop := Below B w w' ∧ Lib.OthersKept 5 (some b) w w'
theorem BStep.trans {B b : Nat} {u v w : World} (h : BStep B b u v) (k : BStep B b v w) : BStep B b u w := ⟨h.1.trans k.1, h.2.trans k.2⟩
theorem BStep.rfl' (B b : Nat) (w : World) : BStep B b w w := ⟨Below.refl _ _, Lib.OthersKept.refl _ _ _⟩

/-- Written to: the first field is its own address, the second one this slice, in memory of the call's own that is no part of it. -/
structure Lies (B b : Nat) (v : Value) (l : Str) (w : World) : Prop where
  base : B ≤ b
  at_ : w.heap[b]? = some (.cells #[.pointer (some ⟨b, 0, none⟩), v] 64 (0, 0))
  row : w.ownsRowF B 5 1 v l.length (Lib.byteCells l)
  apart : v.ownBlock ≠ some b
namespace Lies
variable {B b : Nat} {v : Value} {l : Str} {w : World}
theorem lt (h : Lies B b v l w) : b < w.heap.size := (Array.getElem?_eq_some_iff.1 h.at_).1
theorem first (h : Lies B b v l w) : w.cell? ⟨b, 0, none⟩ = some (.pointer (some ⟨b, 0, none⟩)) := by rw [Lib.cell_of_heap h.at_]; rfl
theorem second (h : Lies B b v l w) : w.cell? ⟨b, 1, none⟩ = some v := by rw [Lib.cell_of_heap h.at_]; rfl
theorem free (h : Lies B b v l w) (k : Nat) : w.frozen? ⟨b, k, none⟩ = false := Lib.frozen_of_heap h.at_ k
theorem of (h : Lib.BuilderAtF 64 5 B b (.pointer (some ⟨b, 0, none⟩)) (Lib.byteCells l) w) : ∃ v, Lies B b v l w := by
  obtain ⟨k1, v, k2, k3, k4⟩ := h
  rw [Lib.byteCells_length] at k3
  exact ⟨v, k1, k2, k3, k4⟩
theorem fresh (h : Lies B b v l w) (o : Obj) : Lies B b v l (w.alloc o) := ⟨h.base, (Lib.alloc_old w o b h.lt).trans h.at_, h.row.alloc o, h.apart⟩
/-- The slice behind an append: another one, which goes into the second field. -/
theorem stored {v' : Value} {m : Str} {w' : World} (h : Lies B b v l w) (hg : w.grownBy w' v.ownBlock) (hr : w'.ownsRowF B 5 1 v' (l ++ m).length (Lib.byteCells (l ++ m))) (hB : B ≤ w.heap.size) :
    w'.heap[b]? = some (.cells #[.pointer (some ⟨b, 0, none⟩), v] 64 (0, 0)) ∧ Bld B b (l ++ m) (w'.setCell ⟨b, 1, none⟩ v') ∧ BStep B b w (w'.setCell ⟨b, 1, none⟩ v') := by

  have here : w'.heap[b]? = some (.cells #[.pointer (some ⟨b, 0, none⟩), v] 64 (0, 0)) := by
    rw [← h.at_]
    exact hg.block b h.lt fun e => h.apart e.symm
  have own : ∀ k, v.ownBlock = some k → B ≤ k := fun k hk => (h.row.lt k hk).1
  have kind := Lib.ownsRowF_kind h.row
  rw [← Lib.byteCells_length (l ++ m)] at hr
  have low := (BStep.rfl' B b w).1.grown hg hB own
  have rest := (BStep.rfl' B b w).2.grown hg kind
  exact ⟨here, .inr (Lib.BuilderAtF.put h.base here hr (by decide)), low.setCell (p := ⟨b, 1, none⟩) h.base v', rest.setCell ⟨b, 1, none⟩ rfl v'⟩
end Lies
/-- An own row of bytes that some were put behind is a slice of as many. -/
theorem slice_of {w : World} {B n : Nat} {v : Value} {xs : List Value} (h : w.ownsRowF B 5 1 v n xs) : ∃ a c, v = .slice a n c := by
  rcases h.2 with ⟨e, hn⟩ | ⟨_, c, _, _, e, _⟩
  · subst hn; exact ⟨_, _, e⟩
  · exact ⟨_, c, e⟩

theorem info64 : (Tryd.prog.info? 64).map (·.size) = some 2 := by kernel_rfl
theorem whole64 : liesAt Tryd.prog Tryd.prog.depth 64 (2 / Tryd.prog.cellsOf 64) 0 64 1 = true := by kernel_rfl
theorem info5 : (Tryd.prog.info? 5).map (fun i => (i.zero, i.size, i.bytes)) = some (some (.int .u8 0), 1, 1) := by kernel_rfl

set_option maxHeartbeats 1000000 in
set_option maxRecDepth 100000 in
/-- copyCheck: behind it the builder was written to. -/
theorem copied (B b : Nat) (l : Str) (w : World) (h : Bld B b l w) :
    Calls Tryd.prog 54 #[.pointer (some ⟨b, 0, none⟩)] w fun e w' => e = .returned (.tuple #[]) ∧ (∃ v, Lies B b v l w') ∧ BStep B b w w' := by
  obtain ⟨i64b, hi, hs⟩ := Option.map_eq_some_iff.1 info64
  have big : i64b.size ≠ 0 := by omega
  rcases h with new | used
  · have hc := new.cell0
    have hf := new.frozen0
    have up := Lib.run_to_unsafe w ⟨b, 0, none⟩ Tryd.underlying61 Tryd.underlying100 hi big new.shape (Nat.zero_lt_succ 1)
    have down := Lib.run_from_unsafe w ⟨b, 0, none⟩ Tryd.underlying100 Tryd.underlying61 hi new.shape whole64
    have ext : (callFunc 70 #[.pointer (some ⟨b, 0, none⟩)]).run Tryd.prog w = .ok (.value (.pointer (some ⟨b, 0, none⟩))) w := by
      rw [run_callFunc_extern Tryd.func70 (by kernel_rfl) (by kernel_rfl) (by kernel_rfl) (e := Extern.AbiNoEscape.same) (by kernel_rfl)]
      rfl
    go_enter Tryd.func54, Tryd.ntmps54
    go_wp2
    go_end0
    have st := BStep.rfl' B b w
    exact ⟨rfl, Lies.of (new.used _), st.1.setCell (p := ⟨b, 0, none⟩) new.1 _, st.2.setCell ⟨b, 0, none⟩ rfl _⟩
  · have hc := used.cell0
    have same := Lib.run_neq_ptr_same w ⟨b, 0, none⟩ Tryd.underlying61 hi
    go_enter Tryd.func54, Tryd.ntmps54
    go_wp2
    go_end0
    exact ⟨rfl, Lies.of used, BStep.rfl' B b w⟩

set_option maxHeartbeats 2000000 in
set_option maxRecDepth 100000 in
theorem ws_any (B b : Nat) (l s : Str) (w : World) (h : Bld B b l w) (hlen : l.length + s.length ≤ 140737488355328) (hBw : B ≤ w.heap.size) :
    Calls Tryd.prog 40 #[.pointer (some ⟨b, 0, none⟩), .string ⟨s.toArray⟩] w fun e w' => (∃ v, e = .returned v) ∧ Bld B b (l ++ s) w' ∧ BStep B b w w' := by
  obtain ⟨i5, hi, hz, hs, hy⟩ := info_parts info5
  have len : (⟨s.toArray⟩ : ByteArray).size = s.length := rfl
  go_enter Tryd.func40, Tryd.ntmps40
  go_wp2_with fail
  refine (copied B b l w h).mono ?_
  rintro e w1 ⟨rfl, ⟨v, L⟩, S⟩
  have a0 := L.first
  have a1 := L.second
  have up1 : B ≤ w1.heap.size := Nat.le_trans hBw S.1.size
  have LL := Lib.hid L
  clear L
  go_wp2_with (at_builtin; refine Lib.wpList_append_own_stringF _ rfl _ _ 62 9 rfl B 5 i5 Tryd.underlying62 Tryd.underlying9 hi hz hs hy v l.length _ rfl LL.out.row ⟨s.toArray⟩ rfl (by rw [len]; unfold maxLen; omega) (by rw [len]; exact hlen) up1 ?_; intro v' w2 hr hg _; refine Hid.out ?_)
  refine Lib.hid ?_
  have cells : Lib.strCells ⟨s.toArray⟩ = Lib.byteCells s := rfl
  rw [cells, len] at hr
  obtain ⟨here, done, T2⟩ := LL.out.stored (m := s) hg (by rw [Lib.byteCells_append, List.length_append]; exact hr) up1
  obtain ⟨ao, co, rfl⟩ := slice_of hr
  have d0 : w2.cell? ⟨b, 0, none⟩ = some (.pointer (some ⟨b, 0, none⟩)) := by rw [Lib.cell_of_heap here]; rfl
  have d1 : w2.cell? ⟨b, 1, none⟩ = some v := by rw [Lib.cell_of_heap here]; rfl
  have fr := Lib.frozen_of_heap here 1
  have HD := Lib.hid done
  have HT := Lib.hid (S.trans T2)
  clear done T2 here hr hg
  go_wp2
  go_ret2
  exact ⟨⟨_, rfl⟩, HD.out, HT.out⟩
end Go.Proofs.YtjekibhaabkecaaDoor
