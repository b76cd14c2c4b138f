/- Proved here: say of package version, at a version that may be: its text. -/
import Derived.Test.YtjekibhaabkecaaDoorBuild
import Derived.Test.YtjekibhaabkecaaDoorBehind
import Derived.Lib.AppendIntMem
namespace Go.Proofs.YtjekibhaabkecaaDoor
open Go.RowKit Go.Shelf

/-- The first numbers, a dot between each two. -/
def dotsL (f : Nat → Int) : Nat → Str
  | 0 => []
  | k + 1 => dotsL f k ++ (if k = 0 then [] else [46]) ++ Lib.decDigits (f k).toNat
/-- The text of a version that may be. -/
def Ver.text (v : Ver) : Str := dotsL v.num v.many.toNat ++ (if v.tag.data.toList = [] then [] else 45 :: v.tag.data.toList) ++ (if v.step = 0 then [] else Lib.decDigits v.step.toNat)

def TabW (w : World) : Prop := Lib.TabIs Tryd.prog w "internal/strconv.uint64pow10" .u64 Lib.pow10Tab
theorem TabW.below {w w' : World} (h : TabW w) (hb : Below w.heap.size w w') : TabW w' := Lib.tabBelow_of_tabIs h w' hb
theorem itoa_any (x : Int) (h0 : 0 ≤ x) (h1 : x ≤ 9999) (w : World) (htab : TabW w) : Calls Tryd.prog 41 #[.int .i64 x] w fun e w' => e = .returned (.string ⟨(Lib.decDigits x.toNat).toArray⟩) ∧ Below w.heap.size w w' := by
  refine (Tryd.strconv_Itoa x (by omega) (by omega) w htab).mono ?_
  rintro e w' ⟨rfl, k, os, rfl⟩
  refine ⟨?_, Lib.below_grow _ w (Nat.le_refl _) k os⟩
  obtain ⟨n, rfl⟩ : ∃ n : Nat, x = (n : Int) := ⟨x.toNat, by omega⟩
  rw [Lib.itoa_nonneg]
  rfl
theorem nD_le (n : Nat) (h : n ≤ 9999) : (Lib.decDigits n).length ≤ 4 := by
  rw [Lib.decDigits_length]
  unfold Lib.nDigits
  split
  · omega
  · unfold Lib.nDigits
    split
    · omega
    · unfold Lib.nDigits
      split
      · omega
      · unfold Lib.nDigits
        split <;> omega
theorem dots_len (f : Nat → Int) (k : Nat) (h : ∀ j, j < k → 0 ≤ f j ∧ f j ≤ 9999) : (dotsL f k).length ≤ 5 * k := by
  induction k with
  | zero => simp [dotsL]
  | succ k ih =>
    have h1 := ih (fun j hj => h j (by omega))
    have h2 := h k (by omega)
    have h3 := nD_le (f k).toNat (by omega)
    rw [dotsL, List.length_append, List.length_append]
    split <;> simp <;> omega

theorem rowF_below {w w' : World} {B n : Nat} {v : Value} {xs : List Value} (h : w.ownsRowF B 5 1 v n xs) (hb : Below w.heap.size w w') : w'.ownsRowF B 5 1 v n xs := by
  have old := hb.block
  exact h.kept (row := none) { os := hb.os, tape := hb.tape, output := hb.output, size := hb.size, block := fun k hk _ => old k hk } (Classical.em _)
theorem Bld.below {B b : Nat} {l : Str} {W W' : World} (h : Bld B b l W) (hb : Below W.heap.size W W') : Bld B b l W' := by
  have keeps : ∀ p, Lib.BuilderAtF 64 5 B b p (Lib.byteCells l) W → Lib.BuilderAtF 64 5 B b p (Lib.byteCells l) W' := by
    intro p k
    have same := hb.block b k.lt
    obtain ⟨k1, v, k2, k3, k4⟩ := k
    rw [← same] at k2
    exact ⟨k1, v, k2, rowF_below k3 hb, k4⟩
  unfold Bld Lib.IsBuilderF at h ⊢
  exact h.imp (keeps _) (keeps _)
theorem others_below {b : Nat} {w w' : World} (h : Below w.heap.size w w') : Lib.OthersKept 5 (some b) w w' := fun k _ hk _ _ => (h.block k (Array.getElem?_eq_some_iff.1 hk).1).trans hk
theorem BStep.of_below {B b : Nat} {w w' : World} (h : Below w.heap.size w w') (hB : B ≤ w.heap.size) : BStep B b w w' := ⟨h.mono hB, others_below h⟩
theorem Box.step {w w' : World} {B b k : Nat} {cs : Array Value} (h : Box w k 26 cs) (hs : BStep B b w w') (hk : k ≠ b) : Box w' k 26 cs := hs.2 k _ h (fun e => hk (by cases e; rfl)) (fun c fz e => by cases e)

/-- While the text is put together: the builder holds this much, the version's box stands, all else is as it was. -/
structure Saying (v : Ver) (w : World) (g b : Nat) (l : Str) (W : World) : Prop where
  bld : Bld w.heap.size b l W
  box : Box W g 26 v.arr
  low : Below w.heap.size w W
  ne : g ≠ b
namespace Saying
variable {v : Ver} {w W W' : World} {g b : Nat} {l l' : Str}
theorem put (h : Saying v w g b l W) (hb : Bld w.heap.size b l' W') (hs : BStep w.heap.size b W W') : Saying v w g b l' W' := ⟨hb, h.box.step hs h.ne, h.low.trans hs.1, h.ne⟩
theorem on (h : Saying v w g b l W) (hb : Below W.heap.size W W') : Saying v w g b l W' := ⟨h.bld.below hb, h.box.on hb, bch h.low hb, h.ne⟩
end Saying
theorem ret_str {l m : Str} (h : l = m) : Ending.returned (.string ⟨l.toArray⟩) = .returned (.string ⟨m.toArray⟩) := by rw [h]

theorem ok_end {v : Ver} (h : v.ok = true) : v.endB = true := by
  unfold Ver.ok at h
  simp only [Bool.and_eq_true] at h
  exact h.2
theorem ok_step0 {v : Ver} (h : v.ok = true) (ht : v.tag.data.toList = []) : v.step = 0 := by
  have := ok_end h
  unfold Ver.endB at this
  rw [if_pos ht] at this
  exact of_decide_eq_true this
theorem ok_tag {v : Ver} (h : v.ok = true) (ht : v.tag.data.toList ≠ []) : v.tag.data.toList.length ≤ 6 := by
  have := ok_end h
  unfold Ver.endB tagB at this
  rw [if_neg ht] at this
  simp only [Bool.and_eq_true, decide_eq_true_eq] at this
  exact this.1.1.2
theorem ok_stepb {v : Ver} (h : v.ok = true) (ht : v.tag.data.toList ≠ []) : 0 ≤ v.step ∧ v.step ≤ 999 := by
  have := ok_end h
  unfold Ver.endB at this
  rw [if_neg ht] at this
  simp only [Bool.and_eq_true, decide_eq_true_eq] at this
  exact this.2

set_option maxRecDepth 100000 in
set_option maxHeartbeats 4000000 in
theorem say_any (v : Ver) (hv : v.ok = true) (w : World) (hT : TabW w) : Calls Tryd.prog 30 #[.agg v.arr] w fun e w' => e = .returned (.string ⟨v.text.toArray⟩) ∧ Below w.heap.size w w' := by
  obtain ⟨hm1, hm4⟩ := ok_many hv
  obtain ⟨k, hk⟩ : ∃ k : Nat, v.many = (k : Int) := ⟨v.many.toNat, by omega⟩
  have hnum : ∀ j, j < k → 0 ≤ v.num j ∧ v.num j ≤ 9999 := fun j hj => ok_num hv (by omega)
  have X0 : Box ((w.alloc (.cells v.arr 26)).alloc (.cells #[.pointer none, .slice none 0 0] 64)) w.heap.size 26 v.arr := box_new.alloc _
  have B0 : Below w.heap.size w ((w.alloc (.cells v.arr 26)).alloc (.cells #[.pointer none, .slice none 0 0] 64)) := ((Below.refl w.heap.size w).alloc (Nat.le_refl _) _).alloc (by simp) _
  have hd0 : Bld w.heap.size (w.heap.size + 1) [] ((w.alloc (.cells v.arr 26)).alloc (.cells #[.pointer none, .slice none 0 0] 64)) :=
    Lib.IsBuilderF.of (.inl ⟨Nat.le_succ _, .slice none 0 0, heap_alloc2_new w _ _, World.ownsRow_nil _ _ _ _, by simp [Value.ownBlock]⟩)
  have S0 : Hid (Saying v w w.heap.size (w.heap.size + 1) (dotsL v.num 0) ((w.alloc (.cells v.arr 26)).alloc (.cells #[.pointer none, .slice none 0 0] 64))) := Lib.hid ⟨hd0, X0, B0, by omega⟩
  have c4 := X0.ver.c4
  rw [hk] at c4
  have HT : Hid (TabW w) := Lib.hid hT
  have HNUM := Lib.hid hnum
  have HV := Lib.hid hv
  have HK := Lib.hid hk
  have k1 : (0 : Int) ≤ (k : Int) := by omega
  have k2 : (k : Int) ≤ 4 := by omega
  have HLEN : Hid (∀ j, j ≤ k → (dotsL v.num j).length ≤ 20) := Lib.hid (fun j hj => by
    have := dots_len v.num j (fun i hi => hnum i (by omega))
    omega)
  clear X0 B0 hd0 hT hnum hv hm1 hm4 hk
  go_enter Tryd.func30, Tryd.ntmps30
  go_wp2_with fail
  go_loopw [4, 5, 11, 12, 13, 14, 15, 16, 17, 18, 19, 20, 21, 22] (fun _ _ i _ _ _ _ _ _ _ _ _ _ _ W => ∃ j : Nat, j ≤ k ∧ i = .int .i64 j ∧ Hid (Saying v w w.heap.size (w.heap.size + 1) (dotsL v.num j) W)) (fun _ _ i _ _ _ _ _ _ _ _ _ _ _ _ => k - (Lib.intOf i).toNat)
  case atStart => exact ⟨0, Nat.zero_le _, rfl, S0⟩
  case round =>
    obtain ⟨j, hj, rfl, HS⟩ := hrel
    have hlow := HS.out.low.size
    by_cases hlt : j < k
    · have j1 : (j : Int) < (k : Int) := by omega
      have cj := HS.out.box.ver.num (k := j) (by omega)
      obtain ⟨x, hx⟩ : ∃ x, x = v.num j := ⟨_, rfl⟩
      rw [← hx] at cj
      have hxb := HNUM.out j hlt
      rw [← hx] at hxb
      have HX := Lib.hid hx
      have HXB := Lib.hid hxb
      have hl := HLEN.out j (by omega)
      have hdl := nD_le x.toNat (by omega)
      clear hx hxb
      by_cases h0 : j = 0
      · have HE : Hid (dotsL v.num (j + 1) = dotsL v.num j ++ Lib.decDigits x.toNat) := Lib.hid (by rw [dotsL, if_pos h0, List.append_nil, HX.out])
        subst h0
        go_wp2_with fail
        refine (itoa_any x HXB.out.1 HXB.out.2 wr (HT.out.below HS.out.low)).mono ?_
        rintro e w2 ⟨rfl, hb2⟩
        have S2 := Lib.hid (HS.out.on hb2)
        go_wp2_with fail
        refine (ws_any w.heap.size (w.heap.size + 1) _ (Lib.decDigits x.toNat) w2 S2.out.bld (by omega) S2.out.low.size).mono ?_
        rintro e w3 ⟨⟨u3, rfl⟩, hb3, hst3⟩
        have S3 := Lib.hid (S2.out.put hb3 hst3)
        go_wp2_with fail
        go_roundw
        case rel => exact ⟨1, hlt, rfl, Lib.hid (by rw [HE.out]; exact S3.out)⟩
        case measure => simp [Lib.intOf]; omega
      · have HE : Hid (dotsL v.num (j + 1) = dotsL v.num j ++ [46] ++ Lib.decDigits x.toNat) := Lib.hid (by rw [dotsL, if_neg h0, HX.out])
        have d1 : (j : Int) > 0 := by omega
        have d2 : decide ((j : Int) > 0) = true := decide_eq_true d1
        clear h0
        go_wp2_with fail
        refine (ws_any w.heap.size (w.heap.size + 1) _ [46] wr HS.out.bld (by simp; omega) HS.out.low.size).mono ?_
        rintro e w1 ⟨⟨u1, rfl⟩, hb1, hst1⟩
        have S1 := Lib.hid (HS.out.put hb1 hst1)
        go_wp2_with fail
        refine (itoa_any x HXB.out.1 HXB.out.2 w1 (HT.out.below S1.out.low)).mono ?_
        rintro e w2 ⟨rfl, hb2⟩
        have S2 := Lib.hid (S1.out.on hb2)
        go_wp2_with fail
        refine (ws_any w.heap.size (w.heap.size + 1) _ (Lib.decDigits x.toNat) w2 S2.out.bld (by simp; omega) S2.out.low.size).mono ?_
        rintro e w3 ⟨⟨u3, rfl⟩, hb3, hst3⟩
        have S3 := Lib.hid (S2.out.put hb3 hst3)
        go_wp2_with fail
        go_roundw
        case rel => exact ⟨j + 1, hlt, by go_num, Lib.hid (by rw [HE.out]; exact S3.out)⟩
        case measure => simp [Lib.intOf]; omega
    · have j1 : ¬ ((j : Int) < (k : Int)) := by omega
      have hjk : j = k := by omega
      have S1 : Hid (Saying v w w.heap.size (w.heap.size + 1) (dotsL v.num k) wr) := Lib.hid (by rw [← hjk]; exact HS.out)
      obtain ⟨wq, rfl⟩ : ∃ x, x = wr := ⟨_, rfl⟩
      have c5 := S1.out.box.ver.c5
      clear hjk hlow
      have HDL := HLEN.out k (Nat.le_refl _)
      have hkt : v.many.toNat = k := by have := HK.out; omega
      by_cases ht : v.tag.toList = []
      · have f1 := isEmpty_yes ht
        have hst0 : v.step = 0 := ok_step0 HV.out (by rw [← Lib.toList_data]; exact ht)
        have HTX : Hid (v.text = dotsL v.num k) := Lib.hid (by unfold Ver.text; rw [hkt, if_pos (by rw [← Lib.toList_data]; exact ht), if_pos hst0]; simp)
        have c6 := S1.out.box.ver.c6
        rw [hst0] at c6
        clear ht hst0 hkt
        go_wp2_with fail
        refine (Tryd.Builder_String_any_k w.heap.size (w.heap.size + 1) _ _ S1.out.bld S1.out.low.size).mono ?_
        rintro e wz ⟨rfl, _, hbz, _⟩
        go_wp2_with fail
        go_ret
        exact ⟨ret_str HTX.out.symm, S1.out.low.trans hbz⟩
      · have f1 := isEmpty_no ht
        have htl := ok_tag HV.out (by rw [← Lib.toList_data]; exact ht)
        have HTL := Lib.hid htl
        have HTT : Hid (v.tag.data.toList ≠ []) := Lib.hid (by rw [← Lib.toList_data]; exact ht)
        have HKT := Lib.hid hkt
        clear ht htl hkt
        go_wp2_with fail
        refine (ws_any w.heap.size (w.heap.size + 1) _ [45] wq S1.out.bld (by simp; omega) S1.out.low.size).mono ?_
        rintro e w1 ⟨⟨u1, rfl⟩, hb1, hst1⟩
        have S2 := Lib.hid (S1.out.put hb1 hst1)
        have d5 := S2.out.box.ver.c5
        clear c5
        go_wp2_with fail
        refine (ws_any w.heap.size (w.heap.size + 1) _ v.tag.data.toList w1 S2.out.bld (by have := HTL.out; have hs : v.tag.data.toList.length = v.tag.size := rfl; simp; omega) S2.out.low.size).mono ?_
        rintro e w2 ⟨⟨u2, rfl⟩, hb2, hst2⟩
        have S3 := Lib.hid (S2.out.put hb2 hst2)
        have d6 := S3.out.box.ver.c6
        clear d5
        by_cases h0 : v.step = 0
        · have HTX : Hid (v.text = dotsL v.num k ++ [45] ++ v.tag.data.toList) := Lib.hid (by unfold Ver.text; rw [HKT.out, if_neg HTT.out, if_pos h0]; simp)
          rw [h0] at d6
          clear h0
          go_wp2_with fail
          refine (Tryd.Builder_String_any_k w.heap.size (w.heap.size + 1) _ _ S3.out.bld S3.out.low.size).mono ?_
          rintro e wz ⟨rfl, _, hbz, _⟩
          go_wp2_with fail
          go_ret
          exact ⟨ret_str (by rw [HTX.out]; simp), S3.out.low.trans hbz⟩
        · have hsb := ok_stepb HV.out HTT.out
          have HSB := Lib.hid hsb
          have t6 : (v.step != 0) = true := by simp [h0]
          have HTX : Hid (v.text = dotsL v.num k ++ [45] ++ v.tag.data.toList ++ Lib.decDigits v.step.toNat) := Lib.hid (by unfold Ver.text; rw [HKT.out, if_neg HTT.out, if_neg h0]; simp)
          clear h0 hsb
          go_wp2_with fail
          refine (itoa_any v.step HSB.out.1 (by have := HSB.out; omega) w2 (HT.out.below S3.out.low)).mono ?_
          rintro e w3 ⟨rfl, hb3⟩
          have S4 := Lib.hid (S3.out.on hb3)
          have hdl := nD_le v.step.toNat (by have := HSB.out; omega)
          go_wp2_with fail
          refine (ws_any w.heap.size (w.heap.size + 1) _ (Lib.decDigits v.step.toNat) w3 S4.out.bld (by have := HTL.out; have hs : v.tag.data.toList.length = v.tag.size := rfl; simp; omega) S4.out.low.size).mono ?_
          rintro e w4 ⟨⟨u4, rfl⟩, hb4, hst4⟩
          have S5 := Lib.hid (S4.out.put hb4 hst4)
          clear d6
          go_wp2_with fail
          refine (Tryd.Builder_String_any_k w.heap.size (w.heap.size + 1) _ _ S5.out.bld S5.out.low.size).mono ?_
          rintro e wz ⟨rfl, _, hbz, _⟩
          go_wp2_with fail
          go_ret
          exact ⟨ret_str (by rw [HTX.out]; simp), S5.out.low.trans hbz⟩
end Go.Proofs.YtjekibhaabkecaaDoor
