/- Proved here: valid of package version: whether a version may be. -/
import Derived.Test.YtjekibhaabkecaaDoorTag
namespace Go.Proofs.YtjekibhaabkecaaDoor
open Go.RowKit Go.Shelf

/-- The block is just these cells, none frozen. -/
def Box (w : World) (g : Nat) (t : TypeId) (cs : Array Value) : Prop := w.heap[g]? = some (.cells cs t (0, 0))
theorem Box.lt {w : World} {g : Nat} {t : TypeId} {cs : Array Value} (h : Box w g t cs) : g < w.heap.size := by
  rcases Nat.lt_or_ge g w.heap.size with h' | h'
  · exact h'
  · unfold Box at h
    rw [Array.getElem?_eq_none h'] at h
    cases h
theorem Box.below {w w' : World} {B g : Nat} {t : TypeId} {cs : Array Value} (h : Box w g t cs) (hb : Below B w w') (hg : g < B) : Box w' g t cs := (hb.block g hg).trans h
theorem Box.on {w w' : World} {g : Nat} {t : TypeId} {cs : Array Value} (h : Box w g t cs) (hb : Below w.heap.size w w') : Box w' g t cs := h.below hb h.lt
theorem Box.alloc {w : World} {g : Nat} {t : TypeId} {cs : Array Value} (h : Box w g t cs) (o : Obj) : Box (w.alloc o) g t cs := (Below.heap_alloc w o g h.lt).trans h
theorem Box.set {w : World} {g k : Nat} {t : TypeId} {cs : Array Value} (h : Box w g t cs) (v : Value) : Box (w.setCell ⟨g, k, none⟩ v) g t (cs.setIfInBounds k v) := heap_setCell_same w g k cs t v h
theorem Box.far {w : World} {g : Nat} {t : TypeId} {cs : Array Value} (h : Box w g t cs) {p : Addr} (hp : g ≠ p.block) (v : Value) : Box (w.setCell p v) g t cs := (heap_setCell_other w p g v hp).trans h
theorem Box.cell {w : World} {g : Nat} {t : TypeId} {cs : Array Value} (h : Box w g t cs) {k : Nat} {v : Value} (hv : cs[k]? = some v) : w.cell? ⟨g, k, none⟩ = some v := (cell_of_row w g k cs t (0, 0) h).trans hv
theorem box_new {w : World} {t : TypeId} {cs : Array Value} : Box (w.alloc (.cells cs t)) w.heap.size t cs := heap_alloc_new w _
theorem below_new (w : World) (o : Obj) : Below w.heap.size w (w.alloc o) := (Below.refl _ _).alloc (Nat.le_refl _) _

/-- The cells of a version, one by one. -/
structure VBox (w : World) (g : Nat) (v : Ver) : Prop where
  c0 : w.cell? ⟨g, 0, none⟩ = some (.int .i64 v.n0)
  c1 : w.cell? ⟨g, 1, none⟩ = some (.int .i64 v.n1)
  c2 : w.cell? ⟨g, 2, none⟩ = some (.int .i64 v.n2)
  c3 : w.cell? ⟨g, 3, none⟩ = some (.int .i64 v.n3)
  c4 : w.cell? ⟨g, 4, none⟩ = some (.int .i64 v.many)
  c5 : w.cell? ⟨g, 5, none⟩ = some (.string v.tag)
  c6 : w.cell? ⟨g, 6, none⟩ = some (.int .i64 v.step)
theorem Box.ver {w : World} {g : Nat} {v : Ver} (h : Box w g 26 v.arr) : VBox w g v := ⟨h.cell rfl, h.cell rfl, h.cell rfl, h.cell rfl, h.cell rfl, h.cell rfl, h.cell rfl⟩

theorem run_index_arr {P : Program} {t e n k : Nat} {cs : Array Value} {v : Value} (ht : P.underlying t = some (.array n e)) (ha : ∀ w, (isAgg e).run P w = .ok false w) (hs : ∀ w, (Go.sizeOf e).run P w = .ok 1 w) (hk : k < n) (hv : cs[k]? = some v) (w : World) :
    (Instr.index t (.agg cs) (.int .i64 (k : Int))).run P w = .ok v w := by
  have h0 : (0 : Int) ≤ (k : Int) ∧ (k : Int) < (n : Int) := by omega
  have h1 : ¬ n ≤ k := by omega
  simp [Instr.index, Sem.run_bind, run_underlying ht, asIntOf, h0, h1, hs, Go.part, ha, hv]

theorem isEmpty_yes {l : List UInt8} (h : l = []) : l.isEmpty = true := by rw [h]; rfl

set_option maxRecDepth 100000 in
set_option maxHeartbeats 2000000 in
theorem valid_any (v : Ver) (w : World) : Calls Tryd.prog 29 #[.agg v.arr] w fun e w' => e = .returned (.bool v.ok) ∧ Below w.heap.size w w' := by
  have X : Box (w.alloc (.cells v.arr 26)) w.heap.size 26 v.arr := box_new
  obtain ⟨c0, c1, c2, c3, c4, c5, c6⟩ := X.ver
  have hB := Lib.hid (below_new w (.cells v.arr 26))
  clear X
  by_cases hm : 1 ≤ v.many ∧ v.many ≤ 4
  · have ok1 : v.ok = (v.numsB && v.endB) := by unfold Ver.ok; rw [decide_eq_true hm, Bool.true_and]
    obtain ⟨m1, m2⟩ := hm
    have d1 : decide (v.many < 1) = false := decide_eq_false (by omega)
    have d2 : decide (v.many > 4) = false := decide_eq_false (by omega)
    have OK1 := Lib.hid ok1
    clear ok1
    go_enter Tryd.func29, Tryd.ntmps29
    go_wp2_with fail
    go_loop [3, 4, 15, 16, 17, 18, 19, 20, 21, 22, 23, 24, 25, 26, 27, 28, 29, 30, 31, 32, 33, 34, 35] (fun _ _ i _ _ _ _ _ _ _ _ _ _ _ _ _ _ _ _ _ _ _ _ => ∃ k : Nat, k ≤ 4 ∧ i = .int .i64 k ∧ Hid (∀ j, j < k → numB v.many j (v.num j) = true)) (fun _ _ i _ _ _ _ _ _ _ _ _ _ _ _ _ _ _ _ _ _ _ _ => 4 - (Lib.intOf i).toNat)
    case atStart => exact ⟨0, Nat.zero_le _, rfl, Lib.hid (fun j hj => absurd hj (Nat.not_lt_zero _))⟩
    case round =>
      obtain ⟨k, hk, rfl, HK⟩ := hrel
      by_cases hlt : k < 4
      · have hix := run_index_arr (P := Tryd.prog) Tryd.underlying24 Tryd.isAgg3 Tryd.sizeOf3 hlt (num_get v k hlt)
        have k4 : (k : Int) < 4 := by omega
        by_cases hn : numB v.many k (v.num k) = true
        · have hn' : 0 ≤ v.num k ∧ v.num k ≤ 9999 ∧ ((k : Int) < v.many ∨ v.num k = 0) := of_decide_eq_true hn
          have HN := Lib.hid hn
          generalize v.num k = x at hix hn'
          obtain ⟨x1, x2, x3⟩ := hn'
          have e1 : decide (x < 0) = false := decide_eq_false (by omega)
          have e2 : decide (x > 9999) = false := decide_eq_false (by omega)
          clear hn
          by_cases hkm : (k : Int) < v.many
          · have e3 : decide ((k : Int) ≥ v.many) = false := decide_eq_false (by omega)
            clear x3
            go_wp2_with fail
            go_round
            case rel => exact ⟨k + 1, hlt, by go_num, Lib.hid (fun j hj => by
              rcases Nat.lt_or_ge j k with h | h
              · exact HK.out j h
              · obtain rfl : j = k := by omega
                exact HN.out)⟩
            case measure => simp [Lib.intOf]; omega
          · have e3 : decide ((k : Int) ≥ v.many) = true := decide_eq_true (by omega)
            have e4 : (x != 0) = false := by simp; omega
            clear x3
            go_wp2_with fail
            go_round
            case rel => exact ⟨k + 1, hlt, by go_num, Lib.hid (fun j hj => by
              rcases Nat.lt_or_ge j k with h | h
              · exact HK.out j h
              · obtain rfl : j = k := by omega
                exact HN.out)⟩
            case measure => simp [Lib.intOf]; omega
        · have hn' : ¬ (0 ≤ v.num k ∧ v.num k ≤ 9999 ∧ ((k : Int) < v.many ∨ v.num k = 0)) := fun h => hn (decide_eq_true h)
          have HN : Hid (v.ok = false) := Lib.hid (by rw [OK1.out, nums_no v k hlt (Bool.eq_false_iff.2 hn)]; rfl)
          generalize v.num k = x at hix hn'
          clear hn
          by_cases e1 : x < 0
          · have e1' : decide (x < 0) = true := decide_eq_true e1
            go_wp2_with fail
            go_ret
            exact ⟨ret_bool HN.out.symm, hB.out⟩
          · have e1' : decide (x < 0) = false := decide_eq_false e1
            by_cases e2 : x > 9999
            · have e2' : decide (x > 9999) = true := decide_eq_true e2
              go_wp2_with fail
              go_ret
              exact ⟨ret_bool HN.out.symm, hB.out⟩
            · have e2' : decide (x > 9999) = false := decide_eq_false e2
              have e3 : decide ((k : Int) ≥ v.many) = true := decide_eq_true (by omega)
              have e4 : (x != 0) = true := by simp; omega
              clear hn'
              go_wp2_with fail
              go_ret
              exact ⟨ret_bool HN.out.symm, hB.out⟩
      · obtain rfl : k = 4 := by omega
        have OK2 : Hid (v.ok = v.endB) := Lib.hid (by rw [OK1.out, nums_yes v HK.out, Bool.true_and])
        by_cases ht : v.tag.toList = []
        · have hte := isEmpty_yes ht
          have OK3 : Hid (v.ok = (v.step == 0)) := Lib.hid (by rw [OK2.out]; unfold Ver.endB; rw [if_pos (by rw [← Lib.toList_data]; exact ht)]; rfl)
          clear ht
          go_wp2_with fail
          go_ret
          exact ⟨ret_bool OK3.out.symm, hB.out⟩
        · have hte := isEmpty_no ht
          have OK3 : Hid (v.ok = (tagB v.tag.data.toList && decide (0 ≤ v.step ∧ v.step ≤ 999))) := Lib.hid (by rw [OK2.out]; unfold Ver.endB; rw [if_neg (by rw [← Lib.toList_data]; exact ht)])
          clear ht
          go_wp2_with fail
          refine (vtag_any v.tag _).mono ?_
          rintro e w1 ⟨rfl, hb1⟩
          have r6 := (hb1.cell (p := ⟨w.heap.size, 6, none⟩) (by simp)).trans c6
          have HB1 := Lib.hid (bch hB.out hb1)
          clear c0 c1 c2 c3 c4 c5 c6 hb1 hB
          generalize tagB v.tag.data.toList = tb at OK3
          cases tb with
          | false =>
            go_wp2_with fail
            go_ret
            exact ⟨ret_bool OK3.out.symm, HB1.out⟩
          | true =>
            by_cases s1 : 0 ≤ v.step
            · have d4 : decide (v.step ≥ 0) = true := decide_eq_true s1
              by_cases s2 : v.step ≤ 999
              · have d5 : decide (v.step ≤ 999) = true := decide_eq_true s2
                have OK4 : Hid (v.ok = true) := Lib.hid (by rw [OK3.out, decide_eq_true ⟨s1, s2⟩]; rfl)
                go_wp2_with fail
                go_ret
                exact ⟨ret_bool OK4.out.symm, HB1.out⟩
              · have d5 : decide (v.step ≤ 999) = false := decide_eq_false s2
                have OK4 : Hid (v.ok = false) := Lib.hid (by rw [OK3.out, decide_eq_false (fun h => s2 h.2)]; rfl)
                go_wp2_with fail
                go_ret
                exact ⟨ret_bool OK4.out.symm, HB1.out⟩
            · have d4 : decide (v.step ≥ 0) = false := decide_eq_false s1
              have OK4 : Hid (v.ok = false) := Lib.hid (by rw [OK3.out, decide_eq_false (fun h => s1 h.1)]; rfl)
              go_wp2_with fail
              go_ret
              exact ⟨ret_bool OK4.out.symm, HB1.out⟩
  · have ok1 : v.ok = false := by unfold Ver.ok; rw [decide_eq_false hm]; rfl
    have OK1 := Lib.hid ok1
    clear ok1
    go_enter Tryd.func29, Tryd.ntmps29
    by_cases h1 : v.many < 1
    · have d1 : decide (v.many < 1) = true := decide_eq_true h1
      clear hm
      go_wp2_with fail
      go_ret
      exact ⟨ret_bool OK1.out.symm, hB.out⟩
    · have d1 : decide (v.many < 1) = false := decide_eq_false h1
      have d2 : decide (v.many > 4) = true := decide_eq_true (by omega)
      clear hm
      go_wp2_with fail
      go_ret
      exact ⟨ret_bool OK1.out.symm, hB.out⟩
end Go.Proofs.YtjekibhaabkecaaDoor
