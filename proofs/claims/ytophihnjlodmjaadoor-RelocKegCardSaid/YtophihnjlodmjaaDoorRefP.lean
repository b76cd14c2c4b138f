/- Proved here: Places of puncheonref14. -/
import Derived.Test.YtophihnjlodmjaaDoorEqn
namespace Go.Proofs.YtophihnjlodmjaaDoor
open Go.RowKit Go.Shelf

/-- A piece of a text, as a text. -/
theorem ext_eq (l : Bs) (a b : Nat) : (⟨l.toArray⟩ : ByteArray).extract a b = ⟨((l.drop a).take (b - a)).toArray⟩ := by
  apply ByteArray.ext
  simp [ByteArray.data_extract]

theorem rd_one (w : World) (t : TypeId) (x : Value) : Rd (w.alloc (.cells #[x] t)) (.slice (some ⟨w.heap.size, 0, none⟩) 1 1) [x] :=
  ⟨_, 1, rfl, Nat.le_refl _, by unfold maxLen; decide, fun e => (by cases e), fun _ => ⟨w.heap.size, 0, rfl, by simp, fun j y hj => by
    match j, hj with
    | 0, hj => cases hj; exact (show Box _ _ _ _ from heap_alloc_new w _).cell rfl⟩⟩
theorem own_len {w : World} {B n : Nat} {e : TypeId} {v : Value} {xs : List Value} (h : w.ownsRow B e 1 v n xs) : w.ownsRow B e 1 v xs.length xs := by
  have e1 : xs.length = n := by have := h.1; omega
  rw [e1]; exact h

set_option maxRecDepth 100000 in
set_option maxHeartbeats 2000000 in
theorem rplaces_any (l p : Bs) (hp : 1 ≤ p.length) (hl : l.length ≤ 1000000000) (hp2 : p.length ≤ 1000000000) (w : World) : Calls Tryd.prog 12 #[.string ⟨l.toArray⟩, .string ⟨p.toArray⟩] w (CollR l p w) := by
  obtain ⟨nl, hnl⟩ : ∃ nl, nl = l.length := ⟨_, rfl⟩
  obtain ⟨np, hnp⟩ : ∃ np, np = p.length := ⟨_, rfl⟩
  have HNL := Lib.hid hnl
  have HNP := Lib.hid hnp
  rw [← hnl] at hl
  rw [← hnp] at hp hp2
  clear hnl hnp
  go_enter Tryd.func12, Tryd.ntmps12
  go_wp2
  go_loopw [5, 6] (fun v i wr => ∃ (a f : Nat) (pre : List Nat), i = .int .i64 (a : Int) ∧ a ≤ nl ∧ Hid (nl < f + a ∧ plcs p l = pre ++ plF p l f a) ∧ Hid (wr.ownsRow w.heap.size 3 1 v pre.length (natsV pre)) ∧ Hid (Below w.heap.size w wr) ∧ Hid (pre.length ≤ a)) (fun _ i _ => nl - (Lib.intOf i).toNat)
  case atStart => exact ⟨0, nl + 1, [], rfl, Nat.zero_le _, Lib.hid ⟨by omega, by rw [HNL.out]; rfl⟩, Lib.hid (World.ownsRow_nil _ _ _ _), Lib.hid (Below.refl _ _), Lib.hid (Nat.zero_le _)⟩
  case round =>
    obtain ⟨a, f, pre, rfl, ha, HX, HO, HB, HPL⟩ := hrel
    have w1 : IntKind.i64.wrap ((a : Int) + (np : Int)) = (a : Int) + (np : Int) := IntWalk.i64_in _ (by omega)
    have w1' : IntKind.i64.wrap ((a : Int) + (p.length : Int)) = ((a + np : Nat) : Int) := by rw [← HNP.out]; rw [w1]; omega
    by_cases hfit : a + np ≤ nl
    · have t1 : decide (((a + np : Nat) : Int) ≤ (l.length : Int)) = true := decide_eq_true (by rw [← HNL.out]; omega)
      have t1' : ((a : Int) + (np : Int) ≤ (l.length : Int)) := by rw [← HNL.out]; omega
      obtain ⟨f', rfl⟩ : ∃ f', f = f' + 1 := ⟨f - 1, by have := HX.out.1; omega⟩
      have hfit' : a + p.length ≤ l.length := by rw [← HNP.out, ← HNL.out]; exact hfit
      by_cases hs : standsB p l a = true
      · have HE : Hid (plcs p l = (pre ++ [a]) ++ plF p l f' (a + np)) := Lib.hid (by
          rw [HX.out.2, plF, if_pos hfit', if_pos hs, List.append_assoc, ← HNP.out]; rfl)
        have he : (⟨l.toArray⟩ : ByteArray).extract a (a + np) = ⟨p.toArray⟩ := by
          have e : (l.drop a).take p.length = p := by simpa [standsB] using hs
          rw [ext_eq, Nat.add_sub_cancel_left, HNP.out, e]
        have t2 : (p == p) = true := by simp
        clear hs hfit'
        obtain ⟨m, hm⟩ : ∃ m, m = pre.length := ⟨_, rfl⟩
        rw [← hm] at HO HPL
        have HM := Lib.hid hm
        clear hm
        obtain ⟨ao, co, rfl⟩ := own_slice HO.out
        have HSZ : Hid (w.heap.size ≤ (wr.alloc (.cells #[.int .i64 (a : Int)] 3)).heap.size) := Lib.hid (by have := HB.out.size; simp; omega)
        have HOW : Hid ((wr.alloc (.cells #[.int .i64 (a : Int)] 3)).ownsRow w.heap.size 3 1 (.slice ao m co) m (natsV pre)) := Lib.hid (owns_on HO.out (below_new _ _))
        have HRD : Hid (Rd (wr.alloc (.cells #[.int .i64 (a : Int)] 3)) (.slice (some ⟨wr.heap.size, 0, none⟩) 1 1) [i64 a]) := Lib.hid (rd_one wr 3 _)
        go_wp2_with (at_builtin; go_loud (refine wpList_append_at rfl (.tmp 23) (.tmp 25) 27 3 (.int .i64 0) 8 rfl Tryd.underlying27 info3 rfl w.heap.size _ _ (natsV pre) [i64 a] rfl (own_len HOW.out) rfl HRD.out (by simp [Value.oneCell']) HSZ.out (by rw [natsV_len, ← HM.out]; have := HPL.out; simp only [List.length_cons, List.length_nil]; omega) (by decide) ?_; intro v' w' hown' hg' _; have HO2 : Hid (w'.ownsRow w.heap.size 3 1 v' (m + 1) (natsV (pre ++ [a]))) := Lib.hid (by rw [natsV_app]; rw [List.length_append, natsV_len, ← HM.out] at hown'; exact hown'); have HB2 : Hid (Below w.heap.size w w') := Lib.hid ((bch HB.out (below_new _ _)).grown hg' HSZ.out (fun k e => (own_in HO.out e).1)); clear hown' hg'; refine Hid.out ?_))
        refine Lib.hid ?_
        go_wp2
        go_roundw
        case rel => exact ⟨a + np, f', pre ++ [a], by go_num, hfit, Lib.hid ⟨by have := HX.out.1; omega, HE.out⟩, by rw [List.length_append, ← HM.out]; exact HO2, HB2, Lib.hid (by rw [List.length_append, ← HM.out]; have := HPL.out; simp only [List.length_cons, List.length_nil]; omega)⟩
        case measure => simp [Lib.intOf]; omega
      · have HE : Hid (plcs p l = pre ++ plF p l f' (a + 1)) := Lib.hid (by
          rw [HX.out.2, plF, if_pos hfit', if_neg hs])
        obtain ⟨q, hq⟩ : ∃ q, q = (l.drop a).take p.length := ⟨_, rfl⟩
        have he : (⟨l.toArray⟩ : ByteArray).extract a (a + np) = ⟨q.toArray⟩ := by
          rw [ext_eq, Nat.add_sub_cancel_left, HNP.out, hq]
        have t2 : (q == p) = false := by
          rw [hq]
          unfold standsB at hs
          simpa using hs
        have w3 : IntKind.i64.wrap ((a : Int) + 1) = (a : Int) + 1 := IntWalk.i64_in _ (by omega)
        clear hs hfit' hq
        go_wp2
        go_roundw
        case rel => exact ⟨a + 1, f', pre, by go_num, by omega, Lib.hid ⟨by have := HX.out.1; omega, HE.out⟩, HO, HB, Lib.hid (by have := HPL.out; omega)⟩
        case measure => simp [Lib.intOf]; omega
    · have t1 : decide ((a : Int) + (np : Int) ≤ (l.length : Int)) = false := decide_eq_false (by rw [← HNL.out]; omega)
      have HE : Hid (plcs p l = pre) := Lib.hid (by
        rw [HX.out.2]
        obtain ⟨f', rfl⟩ : ∃ f', f = f' + 1 := ⟨f - 1, by have := HX.out.1; omega⟩
        rw [plF, if_neg (by rw [← HNP.out, ← HNL.out]; exact hfit), List.append_nil])
      go_wp2
      go_ret
      exact ⟨_, rfl, by rw [HE.out]; exact HO.out, HB.out⟩
end Go.Proofs.YtophihnjlodmjaaDoor
