/- Proved here: Both of puncheonref03: bytes and others behind them, in memory of its own. -/
import Derived.Test.YtkenbppoldfecaaDoorTakeIn
namespace Go.Proofs.YtkenbppoldfecaaDoor
open Go.RowKit Go.Shelf

theorem own_sl3 {W : World} {B : Nat} {t : TypeId} {s : Nat} {v : Value} {n : Nat} {xs : List Value} (h : W.ownsRow B t s v n xs) : ∃ a c, v = .slice a n c := by
  rcases h.2 with ⟨rfl, rfl⟩ | ⟨g, cap, cur, rfl, _⟩
  · exact ⟨_, _, rfl⟩
  · exact ⟨_, _, rfl⟩

set_option maxHeartbeats 4000000 in
theorem both_any (l r : Bytes) (v v' : Value) (w : World) (hv : Rd w v (bytesV l)) (hv' : Rd w v' (bytesV r)) (hl : l.length + r.length ≤ 1000000000) : Calls Tryd.prog 45 #[v, v'] w fun e w' => ∃ v2, e = .returned v2 ∧ w'.ownsRow w.heap.size 5 1 v2 (l ++ r).length (bytesV (l ++ r)) ∧ Below w.heap.size w w' := by
  obtain ⟨a, c, rfl, hlc, hcm, _⟩ := id hv
  obtain ⟨a', c', rfl, hlc', hcm', _⟩ := id hv'
  unfold maxLen at hcm hcm'
  obtain ⟨n, hn⟩ : ∃ n, n = (bytesV l).length := ⟨_, rfl⟩
  obtain ⟨m, hm⟩ : ∃ m, m = (bytesV r).length := ⟨_, rfl⟩
  have hn2 : n = l.length := by rw [hn, bytesV_len]
  have hm2 : m = r.length := by rw [hm, bytesV_len]
  rw [← hn] at hlc hv ⊢
  rw [← hm] at hlc' hv' ⊢
  obtain ⟨q, hq⟩ : ∃ q, q = n + m := ⟨_, rfl⟩
  have e1 : (n : Int) + (m : Int) = (q : Int) := by omega
  have q1 : q ≤ 1000000000 := by omega
  have w1 : IntKind.i64.wrap (q : Int) = (q : Int) := IntWalk.i64_in _ (by omega)
  obtain ⟨i0, hi, hz0, hzs, hzb⟩ := info_parts info5
  have hmk : ∀ W : World, (Instr.makeSlice 24 (.int .i64 0) (.int .i64 (q : Int))).run Tryd.prog W = .ok (.slice (some ⟨W.heap.size, 0, none⟩) 0 q) (W.alloc (.cells (List.replicate q z8).toArray 5)) := fun W => by
    have h := run_make (P := Tryd.prog) (w := W) 24 5 i0 z8 Tryd.underlying24 hi hz0 .i64 .i64 0 (q : Int) (by omega) (by omega) (by rw [hzb]; omega) (by omega)
    rw [h, hzs, Int.toNat_natCast, Nat.mul_one]
    congr 3
    apply Array.ext'
    apply List.ext_getElem?
    intro j
    simp [madeCells, Value.cells]
    by_cases hj : j < q <;> simp [hj, Nat.mod_one]
  have ho : (w.alloc (.cells (List.replicate q z8).toArray 5)).ownsRow w.heap.size 5 1 (.slice (some ⟨w.heap.size, 0, none⟩) 0 q) 0 [] := by
    have h := own_of_box (base := w.heap.size) (n := 0) (cap := q) (box_new (g := w.heap.size) w 5 (List.replicate q z8).toArray rfl) (Nat.le_refl _) (by omega) (by unfold maxLen; omega) (by simp)
    simpa using h
  have hB0 : Below w.heap.size w (w.alloc (.cells (List.replicate q z8).toArray 5)) := (Below.refl _ _).alloc (Nat.le_refl _) _
  rw [show (List.replicate q z8).toArray = Array.replicate q z8 by simp] at ho hB0
  have HV := Lib.hid (hv.on hB0)
  have HV' := Lib.hid hv'
  have HO := Lib.hid ho
  have HB0 := Lib.hid hB0
  have HN := Lib.hid hn
  have HM := Lib.hid hm
  have HL := Lib.hid hl
  clear hv hv' ho hB0 hn hm hl hi hz0 hzs hzb hn2 hm2 hq
  go_enter Tryd.func45, Tryd.ntmps45
  go_upto_region 2 with fail
  obtain ⟨w2, hw2⟩ : ∃ x, x = w.alloc (.cells (Array.replicate q z8) 5) := ⟨_, rfl⟩
  rw [← hw2] at HO HV HB0 ⊢
  clear hw2 hmk
  go_wp2_with (at_builtin; first
    | (refine wpList_append_rd rfl (.tmp 12) (.tmp 13) 24 5 z8 1 rfl Tryd.underlying24 info5 rfl w.heap.size _ _ [] (bytesV l) rfl HO.out rfl HV.out (bytesV_one l) HB0.out.size (by rw [bytesV_len]; have := HL.out; simp; omega) (by decide) ?_; intro v7 w3 hown3 hb3; have HO3 := Lib.hid hown3; have HB3 := Lib.hid (HB0.out.trans hb3); have HV3 := Lib.hid (HV'.out.on HB3.out); clear hown3 hb3; obtain ⟨a3, c3, rfl⟩ := own_sl3 HO3.out)
    | (refine wpList_append_rd rfl (.tmp 14) (.tmp 15) 24 5 z8 1 rfl Tryd.underlying24 info5 rfl w.heap.size _ _ (bytesV l) (bytesV r) rfl HO3.out rfl HV3.out (bytesV_one r) HB3.out.size (by rw [bytesV_len, bytesV_len]; have := HL.out; omega) (by decide) ?_; intro v8 w4 hown4 hb4; have HO4 := Lib.hid hown4; have HB4 := Lib.hid (HB3.out.trans hb4); clear hown4 hb4))
  go_ret
  refine ⟨_, rfl, ?_, HB4.out⟩
  have := HO4.out
  rw [show bytesV l ++ bytesV r = bytesV (l ++ r) by unfold bytesV; rw [List.map_append]] at this
  rw [bytesV_len] at this
  exact this
end Go.Proofs.YtkenbppoldfecaaDoor
