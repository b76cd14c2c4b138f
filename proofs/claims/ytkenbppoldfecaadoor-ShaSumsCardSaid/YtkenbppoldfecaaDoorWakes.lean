/- Proved here: wakes of puncheonlaw03 returns true. -/
import Derived.Test.YtkenbppoldfecaaDoorRead
import Derived.Lib.SmallJoins
import Derived.Stop.BytesEq
import Derived.ChangeKeysEq
namespace Go.Proofs.YtkenbppoldfecaaDoor
open Go.RowKit Go.Shelf Go.Joins

theorem eql27 (x y : Bytes) (hx : x.length = 32) (hy : y.length = 32) (W : World) : (binOp .eql 27 (.agg (bytesA x)) (.agg (bytesA y))).run Tryd.prog W = .ok (.bool (x == y)) W :=
  run_eql_bytes W 27 5 32 Tryd.underlying27 Tryd.underlying5 Tryd.sizeOf5 x y hx hy
theorem guard27 : Tryd.prog.eqGuardType Tryd.prog.depth 27 = false := by kernel_rfl
theorem info30 : (Tryd.prog.info? 30).map (fun i => (i.zero, i.size, i.bytes)) = some (some (.int .u32 0), 1, 4) := by kernel_rfl
theorem items_self (cs : Array Value) (h : ∀ v ∈ cs.toList, ∃ x : Wd, v = u x) (js : List Nat) (hj : ∀ j ∈ js, j < cs.size) (W : World) : (Op.eqItems 9999 30 1 cs cs js).run Tryd.prog W = .ok true W := by
  induction js with
  | nil => simp [Op.eqItems]
  | cons j js ih =>
    have hlt := hj j (by simp)
    obtain ⟨x, hx⟩ := h cs[j] (by simp)
    have hp : (Go.part 30 cs (j * 1)).run Tryd.prog W = .ok (u x) W := by
      simp [Go.part, Tryd.isAgg30, hlt, hx]
    have he : (Op.equalIn 9999 30 (u x) (u x)).run Tryd.prog W = .ok true W := by
      rw [show (9999 : Nat) = 9998 + 1 from rfl, run_equalIn_int W 9998 30 .u32 .u32 _ _ Tryd.underlying30]
      simp
    have ih2 := ih (fun i hi => hj i (by simp [hi]))
    simp only [Op.eqItems, Sem.run_bind, hp, he, Result.andThen_ok]
    simpa using ih2
theorem self33 (s : St) (W : World) : (binOp .eql 33 (.agg (stA s)) (.agg (stA s))).run Tryd.prog W = .ok (.bool true) W := by
  obtain ⟨i0, hi, _⟩ := info_parts info30
  have c30 : Tryd.prog.cellsOf 30 = 1 := by kernel_rfl
  rw [run_eql_struct, show (10000 : Nat) = 9999 + 1 from rfl, run_equalIn_array W 9999 _ _ Tryd.underlying33 hi, c30]
  rw [items_self (stA s) (fun v hv => by
    obtain ⟨x, _, rfl⟩ := List.mem_map.1 (show v ∈ (wordsV s) from hv)
    exact ⟨x, rfl⟩) (List.range 8) (fun j hj => by rw [stA_size]; exact List.mem_range.1 hj)]
  rfl
theorem guard33 : Tryd.prog.eqGuardType Tryd.prog.depth 33 = false := by kernel_rfl

def abcT : Bytes := textL abcD
theorem abc_text : abcT = [98, 97, 55, 56, 49, 54, 98, 102, 56, 102, 48, 49, 99, 102, 101, 97, 52, 49, 52, 49, 52, 48, 100, 101, 53, 100, 97, 101, 50, 50, 50, 51, 98, 48, 48, 51, 54, 49, 97, 51, 57, 54, 49, 55, 55, 97, 57, 99, 98, 52, 49, 48, 102, 102, 54, 49, 102, 50, 48, 48, 49, 53, 97, 100] := by decide +kernel
theorem abc_read : readV abcT = (abcD, 0) := by
  have h := readV_good (s := textL abcD) (by rw [textL_len]; rfl) (text_all _)
  rw [bytes_text _ rfl] at h
  exact h

abbrev abcS : ByteArray := ⟨#[98, 97, 55, 56, 49, 54, 98, 102, 56, 102, 48, 49, 99, 102, 101, 97, 52, 49, 52, 49, 52, 48, 100, 101, 53, 100, 97, 101, 50, 50, 50, 51, 98, 48, 48, 51, 54, 49, 97, 51, 57, 54, 49, 55, 55, 97, 57, 99, 98, 52, 49, 48, 102, 102, 54, 49, 102, 50, 48, 48, 49, 53, 97, 100]⟩
theorem abc_S : (⟨abcT.toArray⟩ : ByteArray) = abcS := by rw [abc_text]
theorem abc_readC (W : World) : Calls Tryd.prog 17 #[.string abcS] W fun e w' => e = .returned (.tuple #[.agg (bytesA abcD), .int .i64 0]) ∧ Below W.heap.size W w' := by
  have h := read_any ⟨abcT.toArray⟩ W
  rw [abc_S] at h
  have e : abcS.data.toList = abcT := by rw [abc_text]
  unfold ReadR at h
  rw [e, abc_read] at h
  exact h
theorem abc_textC (W : World) : Calls Tryd.prog 15 #[.agg (bytesA abcD)] W fun e w' => e = .returned (.string abcS) ∧ Below W.heap.size W w' := by
  have h := text_any abcD rfl W
  have e : (⟨(textL abcD).toArray⟩ : ByteArray) = abcS := abc_S
  rw [e] at h
  exact h
theorem eql_abc (W : World) : (binOp .eql 27 (.agg (bytesA abcD)) (.agg (bytesA abcD))).run Tryd.prog W = .ok (.bool true) W := by
  rw [eql27 abcD abcD rfl rfl]
  simp
theorem consts_0 : constsA[0]? = some (.int .u32 1116352408) := rfl
theorem consts_63 : constsA[63]? = some (.int .u32 3329325298) := rfl

/-- A guarded operation that reads a whole array, where its guard says yes. -/
theorem guarded_reads {P : Program} {ops : Array Oper} {rest : List Oper} {o : Oper} {a : Act} {w : World} {Q : Exit → Act → World → Prop} (hw : Region.wanted o (yielded ops a.tmps) = true) (ty : TypeId) (x : Operand) (ho : o.op = .load ty x) (g : Nat) (hx : a.eval x = .pointer (some ⟨g, 0, none⟩)) (t : TypeId) (cs : Array Value) (n : Nat) (e : TypeId) (hg : Box w g t cs) (hu : P.underlying ty = some (.array n e)) (hi : (P.info? ty).map (·.size) = some cs.size)
    (h : wpList P ops Q rest (a.put o.dst (.agg cs)) w) : wpList P ops Q (o :: rest) a w :=
  wpList_step fun K hK => by
    rw [if_pos hw]
    exact wp_load_row ty x ho g hx t cs (0, 0) _ hg hu rfl hi (hK _ _ h)

theorem rd_marked {w : World} {g n : Nat} {t : TypeId} {fr : Nat × Nat} {xs : List Value} (h : w.heap[g]? = some (.cells xs.toArray t fr)) (hn : n = xs.length) (hm : n ≤ maxLen) : Rd w (.slice (some ⟨g, 0, none⟩) n n) xs := by
  subst hn
  refine ⟨some ⟨g, 0, none⟩, xs.length, rfl, Nat.le_refl _, hm, by simp, fun _ => ⟨g, 0, rfl, ?_, fun j x hx => ?_⟩⟩
  · rcases Nat.lt_or_ge g w.heap.size with h' | h'
    · exact h'
    · rw [Array.getElem?_eq_none h'] at h
      cases h
  · rw [Nat.zero_add, cell_of_row w g j _ t fr h, List.getElem?_toArray, hx]

set_option maxRecDepth 100000 in
set_option maxHeartbeats 3000000 in
theorem wakes_any (t : TypeId) (fr : Nat × Nat) (w : World) (hP : Prim t fr w) : Calls Tryd.prog 8 #[] w fun e w' => e = .returned (.bool true) ∧ Below w.heap.size w w' := by
  have HP := Lib.hid hP
  clear hP
  have k1 := run_convert_bytes_const_at (P := Tryd.prog) w 24 5 #[.int .u8 97] 1 1 w.heap.size rfl Tryd.underlying24 Tryd.underlying5
  have k2 := run_convert_bytes_const_at (P := Tryd.prog) (w.alloc (.cells #[.int .u8 97] 5 (1, 2))) 24 5 #[.int .u8 98, .int .u8 99] 2 2 (w.heap.size + 1) (by simp) Tryd.underlying24 Tryd.underlying5
  obtain ⟨W1, hW1⟩ : ∃ x, x = (((w.alloc (.cells #[.int .u8 97] 5 (1, 2))).alloc (.cells #[.int .u8 98, .int .u8 99] 5 (2, 3))).alloc (.cells #[.slice (some ⟨w.heap.size, 0, none⟩) 1 1, .slice (some ⟨w.heap.size + 1, 0, none⟩) 2 2] 24)) := ⟨_, rfl⟩
  have hB1 : Below w.heap.size w W1 := by rw [hW1]; exact (((Below.refl _ _).alloc (Nat.le_refl _) _).alloc (by simp) _).alloc (by simp; omega) _
  have hR : RdR W1 (.slice (some ⟨w.heap.size + 2, 0, none⟩) 2 2) ([[97], [98, 99]].map bytesV) := by
    rw [hW1]
    refine ⟨[.slice (some ⟨w.heap.size, 0, none⟩) 1 1, .slice (some ⟨w.heap.size + 1, 0, none⟩) 2 2], rd_marked (xs := [_, _]) (by have := heap_alloc_new ((w.alloc (.cells #[.int .u8 97] 5 (1, 2))).alloc (.cells #[.int .u8 98, .int .u8 99] 5 (2, 3))) (.cells #[.slice (some ⟨w.heap.size, 0, none⟩) 1 1, .slice (some ⟨w.heap.size + 1, 0, none⟩) 2 2] 24); simp at this; simpa using this) rfl (by unfold maxLen; omega), rfl, fun i x r hx hr => ?_⟩
    rcases (by have := (List.getElem?_eq_some_iff.1 hx).1; simp at this; omega : i = 0 ∨ i = 1) with rfl | rfl
    · cases hx
      cases hr
      refine Rd.on (Rd.on (rd_marked (xs := [.int .u8 97]) (heap_alloc_new w _) rfl (by unfold maxLen; omega)) ((Below.refl _ _).alloc (Nat.le_refl _) _)) ((Below.refl _ _).alloc (Nat.le_refl _) _)
    · cases hx
      cases hr
      refine Rd.on (rd_marked (xs := [.int .u8 98, .int .u8 99]) (heap_alloc2_new w _ _) rfl (by unfold maxLen; omega)) ((Below.refl _ _).alloc (Nat.le_refl _) _)
  have hsum := sum_any [[97], [98, 99]] [97, 98, 99] rfl (.slice (some ⟨w.heap.size + 2, 0, none⟩) 2 2) t fr W1 (HP.out.on hB1) hR (by decide) (by decide)
  rw [sum_abc] at hsum
  have HSUM := Lib.hid hsum
  have HB1 := Lib.hid hB1
  clear hsum hR hB1
  have HW1 := Lib.hid hW1
  clear hW1
  go_enter Tryd.func8, Tryd.ntmps8
  go_wp2_with fail
  rw [← HW1.out]
  refine HSUM.out.mono ?_
  rintro e w1 ⟨rfl, hb1⟩
  have hB2 := bch HB1.out hb1
  have ZL : (part z8 [] 32 0).size = (bytesA abcD).size := zeros32 abcD rfl
  have HZL := Lib.hid ZL
  have X1 : Hid (Box (w1.alloc (.cells (part z8 [] 32 0) 27)) w1.heap.size 27 (part z8 [] 32 0)) := Lib.hid (box_new _ _ _ rfl)
  have X2 : Hid (Box ((w1.alloc (.cells (part z8 [] 32 0) 27)).setRow w1.heap.size (bytesA abcD)) w1.heap.size 27 (bytesA abcD)) := Lib.hid (X1.out.row _)
  have HB2 : Hid (Below w.heap.size w ((w1.alloc (.cells (part z8 [] 32 0) 27)).setRow w1.heap.size (bytesA abcD))) := Lib.hid (below_row (hB2.alloc hB2.size _) hB2.size _)
  have HINF := Lib.hid (info27b abcD rfl)
  clear ZL k1 k2 hb1
  go_wp2_with (first
    | (with_reducible refine wpList_zero rfl 27 rfl (part z8 [] 32 0) (zero27 _) ?_)
    | (refine wpList_store_row rfl 27 (.tmp 1) (.tmp 10) rfl w1.heap.size (bytesA abcD) rfl rfl 27 (part z8 [] 32 0) X1.out HINF.out HZL.out (bytesA_one _) ?_))
  obtain ⟨g1, hg1⟩ : ∃ x, x = w1.heap.size := ⟨_, rfl⟩
  obtain ⟨w2, hw2⟩ : ∃ x, x = (w1.alloc (.cells (part z8 [] 32 0) 27)).setRow w1.heap.size (bytesA abcD) := ⟨_, rfl⟩
  rw [← hw2] at X2 HB2 ⊢
  rw [← hg1] at X2 ⊢
  clear hw2 hg1 X1 hB2
  refine (abc_readC w2).mono ?_
  rintro e w3 ⟨rfl, hb3⟩
  have Y1 : Hid (Box w3 g1 27 (bytesA abcD)) := Lib.hid (X2.out.below hb3 X2.out.lt)
  have HB3 := bch HB2.out hb3
  have l1 := Y1.out.lt
  have X3 : Hid (Box (w3.alloc (.cells (part z8 [] 32 0) 27)) w3.heap.size 27 (part z8 [] 32 0)) := Lib.hid (box_new _ _ _ rfl)
  have X4 : Hid (Box ((w3.alloc (.cells (part z8 [] 32 0) 27)).setRow w3.heap.size (bytesA abcD)) w3.heap.size 27 (bytesA abcD)) := Lib.hid (X3.out.row _)
  have X5 : Hid (Box ((w3.alloc (.cells (part z8 [] 32 0) 27)).setRow w3.heap.size (bytesA abcD)) g1 27 (bytesA abcD)) := Lib.hid ((Y1.out.alloc _).far_row (by omega) _)
  have HB4 : Hid (Below w.heap.size w ((w3.alloc (.cells (part z8 [] 32 0) 27)).setRow w3.heap.size (bytesA abcD))) := Lib.hid (below_row (HB3.alloc HB3.size _) HB3.size _)
  clear hb3 Y1 HB3 X2
  go_wp2_with (first
    | (with_reducible refine wpList_zero rfl 27 rfl (part z8 [] 32 0) (zero27 _) ?_)
    | (refine wpList_store_row rfl 27 (.tmp 2) (.tmp 13) rfl w3.heap.size (bytesA abcD) rfl rfl 27 (part z8 [] 32 0) X3.out HINF.out HZL.out (bytesA_one _) ?_))
  obtain ⟨g2, hg2⟩ : ∃ x, x = w3.heap.size := ⟨_, rfl⟩
  obtain ⟨w4, hw4⟩ : ∃ x, x = (w3.alloc (.cells (part z8 [] 32 0) 27)).setRow w3.heap.size (bytesA abcD) := ⟨_, rfl⟩
  rw [← hw4] at X4 X5 HB4 ⊢
  rw [← hg2] at X4 l1 ⊢
  clear hw4 hg2 X3
  refine (constants_any t fr w4 (HP.out.on HB4.out)).mono ?_
  rintro e w5 ⟨rfl, hb5⟩
  have Y2 : Box w5 g2 27 (bytesA abcD) := X4.out.below hb5 X4.out.lt
  have Y1 : Box w5 g1 27 (bytesA abcD) := X5.out.below hb5 X5.out.lt
  have HB5 := bch HB4.out hb5
  have l2 := Y2.lt
  have X6 : Hid (Box (w5.alloc (.cells (part z32 constsV 64 0) 31)) w5.heap.size 31 (part z32 constsV 64 0)) := Lib.hid (box_new _ _ _ rfl)
  have Z1 : Hid (Box ((w5.alloc (.cells (part z32 constsV 64 0) 31)).setRow w5.heap.size constsA) g1 27 (bytesA abcD)) := Lib.hid ((Y1.alloc _).far_row (by omega) _)
  have Z2 : Hid (Box ((w5.alloc (.cells (part z32 constsV 64 0) 31)).setRow w5.heap.size constsA) g2 27 (bytesA abcD)) := Lib.hid ((Y2.alloc _).far_row (by omega) _)
  have Z3 : Hid (Box ((w5.alloc (.cells (part z32 constsV 64 0) 31)).setRow w5.heap.size constsA) w5.heap.size 31 constsA) := Lib.hid (X6.out.row _)
  have HB6 : Hid (Below w.heap.size w ((w5.alloc (.cells (part z32 constsV 64 0) 31)).setRow w5.heap.size constsA)) := Lib.hid (below_row (HB5.alloc HB5.size _) HB5.size _)
  clear Y1 Y2 HB5 hb5 X4 X5
  go_wp2_with (first
    | (with_reducible refine wpList_zero rfl 31 rfl (part z32 constsV 64 0) (zero31 _) ?_)
    | (refine wpList_store_row rfl 31 (.tmp 4) (.tmp 15) rfl w5.heap.size constsA rfl rfl 31 (part z32 constsV 64 0) X6.out info31 zeros_size consts_one ?_)
    | (refine wpList_load_row rfl 27 (.tmp 1) rfl g1 rfl 27 (bytesA abcD) (0, 0) (.array 32 5) Z1.out Tryd.underlying27 rfl HINF.out ?_))
  obtain ⟨g3, hg3⟩ : ∃ x, x = w5.heap.size := ⟨_, rfl⟩
  obtain ⟨w6, hw6⟩ : ∃ x, x = (w5.alloc (.cells (part z32 constsV 64 0) 31)).setRow w5.heap.size constsA := ⟨_, rfl⟩
  rw [← hw6] at Z1 Z2 Z3 HB6 ⊢
  rw [← hg3] at Z3 l2 ⊢
  clear hw6 hg3 X6
  refine (abc_textC w6).mono ?_
  rintro e w7 ⟨rfl, hb7⟩
  have V1 : Hid (Box w7 g1 27 (bytesA abcD)) := Lib.hid (Z1.out.below hb7 Z1.out.lt)
  have V2 : Hid (Box w7 g2 27 (bytesA abcD)) := Lib.hid (Z2.out.below hb7 Z2.out.lt)
  have V3 : Hid (Box w7 g3 31 constsA) := Lib.hid (Z3.out.below hb7 Z3.out.lt)
  have HB7 := bch HB6.out hb7
  have c0 := V3.out.cell consts_0
  have c63 := V3.out.cell consts_63
  have hgd := guard27
  have heq := eql_abc
  clear Z1 Z2 Z3 HB6 hb7
  go_wp2_with (first
    | (refine guarded_reads rfl 27 (.tmp 1) rfl g1 rfl 27 (bytesA abcD) 32 5 V1.out Tryd.underlying27 HINF.out ?_)
    | (refine guarded_reads rfl 27 (.tmp 2) rfl g2 rfl 27 (bytesA abcD) 32 5 V2.out Tryd.underlying27 HINF.out ?_))
  go_ret
  exact ⟨rfl, HB7⟩
end Go.Proofs.YtkenbppoldfecaaDoor
