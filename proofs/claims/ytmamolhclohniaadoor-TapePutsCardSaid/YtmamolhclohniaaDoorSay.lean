/- Proved here: say of package tape: what a part says is put behind the row that a builder of the call's own holds. -/
import Derived.Test.YtmamolhclohniaaDoorFormat
import Derived.Lib.UnsafeStr
namespace Go.Proofs.YtmamolhclohniaaDoor
open Go.RowKit Go.Shelf

def encP (p : Part) : List Value := [.bool p.isText, .int .u64 p.num, .string ⟨p.text.toArray⟩]
def aggP (p : Part) : Value := .agg #[.bool p.isText, .int .u64 p.num, .string ⟨p.text.toArray⟩]
def Bld (B b : Nat) (l : Str) (w : World) : Prop := Lib.IsBuilderF 51 5 B b (Lib.byteCells l) w

theorem builderAt_below {T e : TypeId} {B b : Nat} {p : Value} {bs : List Value} {W W' : World} (h : Lib.BuilderAtF T e B b p bs W) (hb : Below W.heap.size W W') : Lib.BuilderAtF T e B b p bs W' := by
  have hlt := h.lt
  obtain ⟨hB, v, hv, hown, hne⟩ := h
  exact ⟨hB, v, (hb.block b hlt).trans hv, hown.kept (row := none) ⟨hb.os, hb.tape, hb.output, hb.size, fun k hk _ => hb.block k hk⟩ (Classical.em _), hne⟩
theorem Bld.below {B b : Nat} {l : Str} {W W' : World} (h : Bld B b l W) (hb : Below W.heap.size W W') : Bld B b l W' :=
  h.elim (fun x => .inl (builderAt_below x hb)) (fun x => .inr (builderAt_below x hb))
theorem Bld.alloc {B b : Nat} {l : Str} {W : World} (h : Bld B b l W) (o : Obj) : Bld B b l (W.alloc o) := Lib.IsBuilderF.alloc h o
theorem Bld.lt {B b : Nat} {l : Str} {W : World} (h : Bld B b l W) : B ≤ b ∧ b < W.heap.size := h.elim (fun x => ⟨x.1, x.lt⟩) (fun x => ⟨x.1, x.lt⟩)

/-- What a builder's calls leave: below its base all is as it was, and every block but its own and rows of bytes, too. -/
def BStep (B b : Nat) (w w' : World) : Prop := Below B w w' ∧ Lib.OthersKept 5 (some b) w w'
theorem BStep.trans {B b : Nat} {u v w : World} (h : BStep B b u v) (k : BStep B b v w) : BStep B b u w := ⟨h.1.trans k.1, h.2.trans k.2⟩
theorem others_below {b : Nat} {w w' : World} (h : Below w.heap.size w w') : Lib.OthersKept 5 (some b) w w' := fun k _ hk _ _ => (h.block k (Array.getElem?_eq_some_iff.1 hk).1).trans hk
theorem BStep.of_below {B b : Nat} {w w' : World} (h : Below w.heap.size w w') (hB : B ≤ w.heap.size) : BStep B b w w' := ⟨h.mono hB, others_below h⟩

theorem wb_any (B b : Nat) (l : Str) (c : UInt8) (w : World) (h : Bld B b l w) (hlen : l.length + 1 ≤ 140737488355328) (hBw : B ≤ w.heap.size) :
    Calls Tryd.prog 30 #[.pointer (some ⟨b, 0, none⟩), .int .u8 (c.toNat : Int)] w fun e w' => e = .returned .nilIface ∧ Bld B b (l ++ [c]) w' ∧ BStep B b w w' := by
  refine (writeByte_k B b (Lib.byteCells l) c.toNat w h (by rw [Lib.byteCells_length]; exact hlen) hBw).mono ?_
  rintro e w' ⟨rfl, h1, h2, h3⟩
  exact ⟨rfl, .inr (by rw [Lib.byteCells_append]; exact h1), h2, h3⟩
theorem ws_any (B b : Nat) (l s : Str) (w : World) (h : Bld B b l w) (hlen : l.length + s.length ≤ 140737488355328) (hBw : B ≤ w.heap.size) :
    Calls Tryd.prog 28 #[.pointer (some ⟨b, 0, none⟩), .string ⟨s.toArray⟩] w fun e w' => (∃ v, e = .returned v) ∧ Bld B b (l ++ s) w' ∧ BStep B b w w' := by
  refine (writeString_k B b (Lib.byteCells l) ⟨s.toArray⟩ w h (by rw [Lib.byteCells_length]; exact hlen) hBw).mono ?_
  rintro e w' ⟨rfl, h1, h2, h3⟩
  exact ⟨⟨_, rfl⟩, .inr (by rw [Lib.byteCells_append]; exact h1), h2, h3⟩

/-- The box of a part that came by value. -/
def PBox (w : World) (k : Nat) (p : Part) : Prop := w.heap[k]? = some (.cells #[.bool p.isText, .int .u64 p.num, .string ⟨p.text.toArray⟩] 29 (0, 0))
theorem PBox.lt {w : World} {k : Nat} {p : Part} (h : PBox w k p) : k < w.heap.size := (Array.getElem?_eq_some_iff.1 h).1
theorem PBox.c0 {w : World} {k : Nat} {p : Part} (h : PBox w k p) : w.cell? ⟨k, 0, none⟩ = some (.bool p.isText) := by rw [Lib.cell_of_heap h]; rfl
theorem PBox.c1 {w : World} {k : Nat} {p : Part} (h : PBox w k p) : w.cell? ⟨k, 1, none⟩ = some (.int .u64 p.num) := by rw [Lib.cell_of_heap h]; rfl
theorem PBox.c2 {w : World} {k : Nat} {p : Part} (h : PBox w k p) : w.cell? ⟨k, 2, none⟩ = some (.string ⟨p.text.toArray⟩) := by rw [Lib.cell_of_heap h]; rfl
theorem PBox.step {w w' : World} {B b k : Nat} {p : Part} (h : PBox w k p) (hs : BStep B b w w') (hk : k ≠ b) : PBox w' k p := hs.2 k _ h (fun e => hk (by cases e; rfl)) (fun c fz e => by cases e)
theorem PBox.below {w w' : World} {k : Nat} {p : Part} (h : PBox w k p) (hs : Below w.heap.size w w') : PBox w' k p := (hs.block k h.lt).trans h

set_option maxRecDepth 100000 in
set_option maxHeartbeats 4000000 in
theorem say_num (B b : Nat) (l : Str) (n : Nat) (t : Str) (w : World) (hn : n < 18446744073709551616) (h : Bld B b l w) (hlen : l.length + (saysL ⟨false, n, t⟩).length ≤ 140737488355328) (hBw : B ≤ w.heap.size) (hT : Tab B w) :
    Calls Tryd.prog 22 #[.pointer (some ⟨b, 0, none⟩), aggP ⟨false, n, t⟩] w fun e w' => e = .returned (.tuple #[]) ∧ Bld B b (l ++ saysL ⟨false, n, t⟩) w' ∧ BStep B b w w' := by
  have HS : Hid (saysL ⟨false, n, t⟩ = Lib.decDigits n ++ [59]) := Lib.hid rfl
  have HL : Hid (l.length + ((Lib.decDigits n).length + 1) ≤ 140737488355328) := Lib.hid (by rw [HS.out] at hlen; simpa using hlen)
  clear hlen
  have hb := h.lt
  have h1 := h.alloc (.cells #[.bool false, .int .u64 n, .string ⟨t.toArray⟩] 29)
  have hst1 : BStep B b w (w.alloc (.cells #[.bool false, .int .u64 n, .string ⟨t.toArray⟩] 29)) := BStep.of_below ((Below.refl _ w).alloc (Nat.le_refl _) _) hBw
  have hT1 : Tab B _ := hT.on hst1.1
  unfold aggP
  rw [HS.out]
  clear HS
  go_enter Tryd.func22, Tryd.ntmps22
  go_wp2_with fail
  refine (fmt_any n hn _ hT1.here).mono ?_
  rintro e w2 ⟨rfl, hb2⟩
  have h2 := h1.below hb2
  have hst2 := hst1.trans (BStep.of_below (b := b) hb2 (by simp; omega))
  have hsz2 := hst2.1.size
  go_wp2_with fail
  refine (ws_any B b l (Lib.decDigits n) _ h2 (by have := HL.out; omega) (by omega)).mono ?_
  rintro e w3 ⟨⟨v3, rfl⟩, h3, hb3⟩
  have hst3 := hst2.trans hb3
  have hsz3 := hst3.1.size
  go_wp2_with fail
  refine (wb_any B b _ 59 _ h3 (by rw [List.length_append]; have := HL.out; omega) (by omega)).mono ?_
  rintro e w4 ⟨rfl, h4, hb4⟩
  go_wp2_with fail
  refine bodyPost_ret (results_none rfl _ _ _) rfl ?_
  rw [List.append_assoc] at h4
  exact ⟨rfl, h4, hst3.trans hb4⟩

set_option maxRecDepth 100000 in
set_option maxHeartbeats 4000000 in
theorem say_text (B b : Nat) (l : Str) (n : Nat) (t : Str) (w : World) (h : Bld B b l w) (hlen : l.length + (saysL ⟨true, n, t⟩).length ≤ 140737488355328) (hBw : B ≤ w.heap.size) (hT : Tab B w) :
    Calls Tryd.prog 22 #[.pointer (some ⟨b, 0, none⟩), aggP ⟨true, n, t⟩] w fun e w' => e = .returned (.tuple #[]) ∧ Bld B b (l ++ saysL ⟨true, n, t⟩) w' ∧ BStep B b w w' := by
  have HS : Hid (saysL ⟨true, n, t⟩ = Lib.decDigits t.length ++ 58 :: t) := Lib.hid rfl
  have HL : Hid (l.length + ((Lib.decDigits t.length).length + (t.length + 1)) ≤ 140737488355328) := Lib.hid (by rw [HS.out] at hlen; simpa using hlen)
  clear hlen
  have ht : t.length ≤ 9223372036854775807 := by have := HL.out; omega
  have hb := h.lt
  have h1 := h.alloc (.cells #[.bool true, .int .u64 n, .string ⟨t.toArray⟩] 29)
  have hst1 : BStep B b w (w.alloc (.cells #[.bool true, .int .u64 n, .string ⟨t.toArray⟩] 29)) := BStep.of_below ((Below.refl _ w).alloc (Nat.le_refl _) _) hBw
  have p1 : PBox (w.alloc (.cells #[.bool true, .int .u64 n, .string ⟨t.toArray⟩] 29)) w.heap.size ⟨true, n, t⟩ := heap_alloc_new w _
  have hT1 : Tab B _ := hT.on hst1.1
  unfold aggP
  rw [HS.out]
  clear HS
  go_enter Tryd.func22, Tryd.ntmps22
  go_wp2_with fail
  refine (itoa_any t.length ht _ hT1.here).mono ?_
  rintro e w2 ⟨rfl, hb2⟩
  have h2 := h1.below hb2
  have p2 := p1.below hb2
  have hst2 := hst1.trans (BStep.of_below (b := b) hb2 (by simp; omega))
  have hsz2 := hst2.1.size
  go_wp2_with fail
  refine (ws_any B b l (Lib.decDigits t.length) _ h2 (by have := HL.out; omega) (by omega)).mono ?_
  rintro e w3 ⟨⟨v3, rfl⟩, h3, hb3⟩
  have hst3 := hst2.trans hb3
  have p3 := p2.step hb3 (by omega)
  have hsz3 := hst3.1.size
  go_wp2_with fail
  refine (wb_any B b _ 58 _ h3 (by rw [List.length_append]; have := HL.out; omega) (by omega)).mono ?_
  rintro e w4 ⟨rfl, h4, hb4⟩
  have hst4 := hst3.trans hb4
  have p4 := p3.step hb4 (by omega)
  have hsz4 := hst4.1.size
  have hc4 := p4.c2
  go_wp2_with fail
  refine (ws_any B b _ t _ h4 (by rw [List.length_append, List.length_append]; have := HL.out; simp; omega) (by omega)).mono ?_
  rintro e w5 ⟨⟨v5, rfl⟩, h5, hb5⟩
  go_wp2_with fail
  go_end0
  refine ⟨rfl, ?_, hst4.trans hb5⟩
  have e : l ++ (Lib.decDigits t.length ++ 58 :: t) = l ++ Lib.decDigits t.length ++ [58] ++ t := by simp
  rw [e]
  exact h5

theorem say_any (B b : Nat) (l : Str) (p : Part) (w : World) (hn : p.num < 18446744073709551616) (h : Bld B b l w) (hlen : l.length + (saysL p).length ≤ 140737488355328) (hBw : B ≤ w.heap.size) (hT : Tab B w) :
    Calls Tryd.prog 22 #[.pointer (some ⟨b, 0, none⟩), aggP p] w fun e w' => e = .returned (.tuple #[]) ∧ Bld B b (l ++ saysL p) w' ∧ BStep B b w w' := by
  obtain ⟨i, n, t⟩ := p
  cases i with
  | true => exact say_text B b l n t w h hlen hBw hT
  | false => exact say_num B b l n t w hn h hlen hBw hT
end Go.Proofs.YtmamolhclohniaaDoor
