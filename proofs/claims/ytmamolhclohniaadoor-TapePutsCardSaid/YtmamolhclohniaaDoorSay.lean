/- Proved here: say of package tape: what a part says is put behind the row that a builder of the call's own holds. -/
import Derived.Test.YtmamolhclohniaaDoorFormat
import Derived.Lib.UnsafeStr
namespace Go.Proofs.YtmamolhclohniaaDoor
open Go.RowKit Go.Shelf

def encP (p : Part) : List Value := [.bool p.isText, .int .u64 p.num, .string ⟨p.text.toArray⟩]
def aggP (p : Part) : Value := .agg #[.bool p.isText, .int .u64 p.num, .string ⟨p.text.toArray⟩]

theorem rowF_below {w w' : World} {B n : Nat} {v : Value} {xs : List Value} (h : w.ownsRowF B 5 1 v n xs) (hb : Below w.heap.size w w') : w'.ownsRowF B 5 1 v n xs := by
  have old := hb.block
  exact h.kept (row := none) { os := hb.os, tape := hb.tape, output := hb.output, size := hb.size, block := fun k hk _ => old k hk } (Classical.em _)
theorem Bld.below {B b : Nat} {l : Str} {W W' : World} (h : Bld B b l W) (hb : Below W.heap.size W W') : Bld B b l W' := by
  have keeps : ∀ p, Lib.BuilderAtF 51 5 B b p (Lib.byteCells l) W → Lib.BuilderAtF 51 5 B b p (Lib.byteCells l) W' := by
    intro p k
    have same := hb.block b k.lt
    obtain ⟨k1, v, k2, k3, k4⟩ := k
    rw [← same] at k2
    exact ⟨k1, v, k2, rowF_below k3 hb, k4⟩
  unfold Bld Lib.IsBuilderF at h ⊢
  exact h.imp (keeps _) (keeps _)
theorem Bld.alloc {B b : Nat} {l : Str} {W : World} (h : Bld B b l W) (o : Obj) : Bld B b l (W.alloc o) := Lib.IsBuilderF.alloc h o
theorem Bld.lt {B b : Nat} {l : Str} {W : World} (h : Bld B b l W) : B ≤ b ∧ b < W.heap.size := h.elim (fun x => ⟨x.1, x.lt⟩) (fun x => ⟨x.1, x.lt⟩)

theorem others_below {b : Nat} {w w' : World} (h : Below w.heap.size w w') : Lib.OthersKept 5 (some b) w w' := fun k _ hk _ _ => (h.block k (Array.getElem?_eq_some_iff.1 hk).1).trans hk
theorem BStep.of_below {B b : Nat} {w w' : World} (h : Below w.heap.size w w') (hB : B ≤ w.heap.size) : BStep B b w w' := ⟨h.mono hB, others_below h⟩

/-- The box of a part that came by value. -/
def PBox (w : World) (k : Nat) (p : Part) : Prop := w.heap[k]? = some (.cells #[.bool p.isText, .int .u64 p.num, .string ⟨p.text.toArray⟩] 29 (0, 0))
theorem PBox.lt {w : World} {k : Nat} {p : Part} (h : PBox w k p) : k < w.heap.size := (Array.getElem?_eq_some_iff.1 h).1
theorem PBox.c0 {w : World} {k : Nat} {p : Part} (h : PBox w k p) : w.cell? ⟨k, 0, none⟩ = some (.bool p.isText) := by rw [Lib.cell_of_heap h]; rfl
theorem PBox.c1 {w : World} {k : Nat} {p : Part} (h : PBox w k p) : w.cell? ⟨k, 1, none⟩ = some (.int .u64 p.num) := by rw [Lib.cell_of_heap h]; rfl
theorem PBox.c2 {w : World} {k : Nat} {p : Part} (h : PBox w k p) : w.cell? ⟨k, 2, none⟩ = some (.string ⟨p.text.toArray⟩) := by rw [Lib.cell_of_heap h]; rfl
theorem PBox.step {w w' : World} {B b k : Nat} {p : Part} (h : PBox w k p) (hs : BStep B b w w') (hk : k ≠ b) : PBox w' k p := hs.2 k _ h (fun e => hk (by cases e; rfl)) (fun c fz e => by cases e)
theorem PBox.below {w w' : World} {k : Nat} {p : Part} (h : PBox w k p) (hs : Below w.heap.size w w') : PBox w' k p := (hs.block k h.lt).trans h

set_option maxRecDepth 100000 in
set_option maxHeartbeats 4000000 in
theorem say_num (B b : Nat) (l : Str) (n : Nat) (t : Str) (w : World) (hn : n < 18446744073709551616) (h : Bld B b l w) (hlen : l.length + (saysL ⟨false, n, t⟩).length ≤ 140737488355328) (hBw : B ≤ w.heap.size) (hT : Tab B w) :
    Calls Tryd.prog 22 #[.pointer (some ⟨b, 0, none⟩), aggP ⟨false, n, t⟩] w fun e w' => e = .returned (.tuple #[]) ∧ Bld B b (l ++ saysL ⟨false, n, t⟩) w' ∧ BStep B b w w' := by
  have HS : Hid (saysL ⟨false, n, t⟩ = Lib.decDigits n ++ [59]) := Lib.hid rfl
  have HL : Hid (l.length + ((Lib.decDigits n).length + 1) ≤ 140737488355328) := Lib.hid (by rw [HS.out] at hlen; simpa using hlen)
  clear hlen
  have hb := h.lt
  have h1 := h.alloc (.cells #[.bool false, .int .u64 n, .string ⟨t.toArray⟩] 29)
  have hst1 : BStep B b w (w.alloc (.cells #[.bool false, .int .u64 n, .string ⟨t.toArray⟩] 29)) := BStep.of_below ((Below.refl _ w).alloc (Nat.le_refl _) _) hBw
  have hT1 : Tab B _ := hT.on hst1.1
  unfold aggP
  rw [HS.out]
  clear HS
  go_enter Tryd.func22, Tryd.ntmps22
  go_wp2_with fail
  refine (fmt_any n hn _ hT1.here).mono ?_
  rintro e w2 ⟨rfl, hb2⟩
  have h2 := h1.below hb2
  have hst2 := hst1.trans (BStep.of_below (b := b) hb2 (by simp; omega))
  have hsz2 := hst2.1.size
  go_wp2_with fail
  refine (ws_any B b l (Lib.decDigits n) _ h2 (by have := HL.out; omega) (by omega)).mono ?_
  rintro e w3 ⟨⟨v3, rfl⟩, h3, hb3⟩
  have hst3 := hst2.trans hb3
  have hsz3 := hst3.1.size
  go_wp2_with fail
  refine (wb_any B b _ 59 _ h3 (by rw [List.length_append]; have := HL.out; omega) (by omega)).mono ?_
  rintro e w4 ⟨rfl, h4, hb4⟩
  go_wp2_with fail
  refine bodyPost_ret (results_none rfl _ _ _) rfl ?_
  rw [List.append_assoc] at h4
  exact ⟨rfl, h4, hst3.trans hb4⟩

set_option maxRecDepth 100000 in
set_option maxHeartbeats 4000000 in
theorem say_text (B b : Nat) (l : Str) (n : Nat) (t : Str) (w : World) (h : Bld B b l w) (hlen : l.length + (saysL ⟨true, n, t⟩).length ≤ 140737488355328) (hBw : B ≤ w.heap.size) (hT : Tab B w) :
    Calls Tryd.prog 22 #[.pointer (some ⟨b, 0, none⟩), aggP ⟨true, n, t⟩] w fun e w' => e = .returned (.tuple #[]) ∧ Bld B b (l ++ saysL ⟨true, n, t⟩) w' ∧ BStep B b w w' := by
  have HS : Hid (saysL ⟨true, n, t⟩ = Lib.decDigits t.length ++ 58 :: t) := Lib.hid rfl
  have HL : Hid (l.length + ((Lib.decDigits t.length).length + (t.length + 1)) ≤ 140737488355328) := Lib.hid (by rw [HS.out] at hlen; simpa using hlen)
  clear hlen
  have ht : t.length ≤ 9223372036854775807 := by have := HL.out; omega
  have hb := h.lt
  have h1 := h.alloc (.cells #[.bool true, .int .u64 n, .string ⟨t.toArray⟩] 29)
  have hst1 : BStep B b w (w.alloc (.cells #[.bool true, .int .u64 n, .string ⟨t.toArray⟩] 29)) := BStep.of_below ((Below.refl _ w).alloc (Nat.le_refl _) _) hBw
  have p1 : PBox (w.alloc (.cells #[.bool true, .int .u64 n, .string ⟨t.toArray⟩] 29)) w.heap.size ⟨true, n, t⟩ := heap_alloc_new w _
  have hT1 : Tab B _ := hT.on hst1.1
  unfold aggP
  rw [HS.out]
  clear HS
  go_enter Tryd.func22, Tryd.ntmps22
  go_wp2_with fail
  refine (itoa_any t.length ht _ hT1.here).mono ?_
  rintro e w2 ⟨rfl, hb2⟩
  have h2 := h1.below hb2
  have p2 := p1.below hb2
  have hst2 := hst1.trans (BStep.of_below (b := b) hb2 (by simp; omega))
  have hsz2 := hst2.1.size
  go_wp2_with fail
  refine (ws_any B b l (Lib.decDigits t.length) _ h2 (by have := HL.out; omega) (by omega)).mono ?_
  rintro e w3 ⟨⟨v3, rfl⟩, h3, hb3⟩
  have hst3 := hst2.trans hb3
  have p3 := p2.step hb3 (by omega)
  have hsz3 := hst3.1.size
  go_wp2_with fail
  refine (wb_any B b _ 58 _ h3 (by rw [List.length_append]; have := HL.out; omega) (by omega)).mono ?_
  rintro e w4 ⟨rfl, h4, hb4⟩
  have hst4 := hst3.trans hb4
  have p4 := p3.step hb4 (by omega)
  have hsz4 := hst4.1.size
  have hc4 := p4.c2
  go_wp2_with fail
  refine (ws_any B b _ t _ h4 (by rw [List.length_append, List.length_append]; have := HL.out; simp; omega) (by omega)).mono ?_
  rintro e w5 ⟨⟨v5, rfl⟩, h5, hb5⟩
  go_wp2_with fail
  go_end0
  refine ⟨rfl, ?_, hst4.trans hb5⟩
  have e : l ++ (Lib.decDigits t.length ++ 58 :: t) = l ++ Lib.decDigits t.length ++ [58] ++ t := by simp
  rw [e]
  exact h5

theorem say_any (B b : Nat) (l : Str) (p : Part) (w : World) (hn : p.num < 18446744073709551616) (h : Bld B b l w) (hlen : l.length + (saysL p).length ≤ 140737488355328) (hBw : B ≤ w.heap.size) (hT : Tab B w) :
    Calls Tryd.prog 22 #[.pointer (some ⟨b, 0, none⟩), aggP p] w fun e w' => e = .returned (.tuple #[]) ∧ Bld B b (l ++ saysL p) w' ∧ BStep B b w w' := by
  obtain ⟨i, n, t⟩ := p
  cases i with
  | true => exact say_text B b l n t w h hlen hBw hT
  | false => exact say_num B b l n t w hn h hlen hBw hT
end Go.Proofs.YtmamolhclohniaaDoor
