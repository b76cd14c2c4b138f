/- Proved here: strings.SplitSeq at one byte hands over the pieces of a text, one by one, for texts of at most 140737488355328 bytes. -/
import Derived.Test.YtjekibhaabkecaaDoorSeq
namespace Go.Proofs.YtjekibhaabkecaaDoor
open Go.RowKit Go.Shelf
attribute [local go_sem] Oper.semAt_some

/-- The pieces of a text, cut at a byte. -/
def pcs (c : UInt8) : Nat → ByteArray → List ByteArray
  | 0, s => [s]
  | f + 1, s => if Lib.indexByte s.data.toList c < 0 then [s] else s.extract 0 (Lib.indexByte s.data.toList c).toNat :: pcs c f (s.extract ((Lib.indexByte s.data.toList c).toNat + 1) s.size)
def pieces (c : UInt8) (s : ByteArray) : List ByteArray := pcs c s.size s
theorem index_in (c : UInt8) (l : Str) : Lib.indexByte l c = -1 ∨ ∃ k : Nat, Lib.indexByte l c = (k : Int) ∧ k < l.length := by
  by_cases h : c ∈ l
  · exact .inr ⟨_, index_some c l h, take_lt c l h⟩
  · exact .inl (index_none c l h)
theorem boxed_same {W W' : World} {k : Nat} {t : TypeId} {v : Value} (h : Boxed W k t v) (hb : W'.heap[k]? = W.heap[k]?) : Boxed W' k t v := hb.trans h
def leftAt (k : Nat) (W : World) : Nat := match W.cell? ⟨k, 0, none⟩ with | some (.string r) => r.size | _ => 0
theorem leftAt_of {W : World} {k : Nat} {r : ByteArray} (h : Boxed W k 9 (.string r)) : leftAt k W = r.size := by unfold leftAt; rw [h.cell]

set_option maxRecDepth 100000 in
set_option maxHeartbeats 4000000 in
theorem split1_hands (c : UInt8) (n : Nat) (hn : 1 ≤ n) (B : Nat) (s : ByteArray) (hs : s.size ≤ 140737488355328) (w : World) (b0 : Boxed w B 9 (.string s)) (b1 : Boxed w (B + 1) 9 (.string ⟨#[c]⟩)) (b2 : Boxed w (B + 1 + 1) 3 (.int .i64 0)) :
    Hands Fence.wide n Tryd.prog 82 #[.pointer (some ⟨B + 1, 0, none⟩), .pointer (some ⟨B, 0, none⟩), .pointer (some ⟨B + 1 + 1, 0, none⟩)] B Value.string (pieces c s) w := fun l J Jx W hW hJ hY h0 => by
  have H0 := Lib.hid (hW.box b0 (by omega) (by omega))
  have H1 := Lib.hid (hW.box b1 (by omega) (by omega))
  have H2 := Lib.hid (hW.box b2 (by omega) (by omega))
  have hc0 := H0.out.cell
  have hc1 := H1.out.cell
  have hc2 := H2.out.cell
  have hz : ((1 : Int) == 0) = false := rfl
  clear b0 b1 b2 hW
  refine callsIn_of_wp Tryd.func82 rfl trivial ?_ rfl
  simp only [Tryd.ntmps82, List.size_toArray, List.length_cons, List.length_nil, Nat.reduceAdd, Nat.reduceSub, Array.replicate_succ, Array.replicate_zero, List.push_toArray, List.append_toArray, List.nil_append, List.cons_append]
  gi_wp2
  gi_loopw [7, 8, 29, 30, 31, 32, 33, 34, 35, 36, 37, 38, 39, 40, 41, 42, 43, 44, 45, 46, 47, 48] (fun _ _ _ _ _ _ _ _ _ _ _ _ _ _ _ _ _ _ _ _ _ _ wr => ∃ (r : ByteArray) (f : Nat) (pre : List ByteArray), r.size ≤ s.size ∧ Hid (r.size ≤ f ∧ pieces c s = pre ++ pcs c f r) ∧ J pre wr ∧ Hid (Boxed wr B 9 (.string r)) ∧ Hid (Boxed wr (B + 1) 9 (.string ⟨#[c]⟩)) ∧ Hid (Boxed wr (B + 1 + 1) 3 (.int .i64 0)))
    (fun _ _ _ _ _ _ _ _ _ _ _ _ _ _ _ _ _ _ _ _ _ _ wr => leftAt B wr)
  case atStart => exact ⟨s, s.size, [], Nat.le_refl _, Lib.hid ⟨by omega, rfl⟩, h0, H0, H1, H2⟩
  case round =>
    obtain ⟨r, f, pre, hr, HX, hJs, H3, H4, H5⟩ := hrel
    have hc3 := H3.out.cell
    have hc4 := H4.out.cell
    have hc5 := H5.out.cell
    have hc3f := H3.out.frozen
    clear hc0 hc1 hc2
    rcases index_in c r.data.toList with hi | ⟨k, hi, hk⟩
    · -- no such byte: what is left is the last piece
      have HI := Lib.hid hi
      have HE : Hid (pieces c s = pre ++ [r]) := Lib.hid (by
        rw [HX.out.2]
        cases f with
        | zero => rfl
        | succ f => unfold pcs; rw [if_pos (by rw [hi]; decide)])
      obtain ⟨fn, tmps, assign, body, hy, hR⟩ := hY pre r wr ⟨[], by rw [HE.out, List.append_nil]⟩ hJs
      clear hi
      gi_wp2_with (refine ⟨trivial, ?_⟩; gi_at_call 84; refine (callsIn_wide.2 (Tryd.strings_Index_one _ _ _)).mono ?_; rintro e w' ⟨rfl, rfl⟩; rw [HI.out])
      refine hR.mono ?_
      rintro e2 W3 (⟨rfl, hJ3, hk3⟩ | ⟨rfl, hJx3⟩)
      · gi_wp2
        go_end0
        exact ⟨⟨_, rfl⟩, .inl (by rw [HE.out]; exact hJ3)⟩
      · gi_wp2
        go_end0
        exact ⟨⟨_, rfl⟩, .inr ⟨_, hJx3⟩⟩
    · have HI := Lib.hid hi
      have hsz : r.data.toList.length = r.size := rfl
      rw [hsz] at hk
      obtain ⟨f', rfl⟩ : ∃ f', f = f' + 1 := ⟨f - 1, by have := HX.out.1; omega⟩
      have HE : Hid (pieces c s = pre ++ r.extract 0 k :: pcs c f' (r.extract (k + 1) r.size)) := Lib.hid (by
        rw [HX.out.2, pcs, if_neg (by rw [hi]; omega), hi]
        rfl)
      have d1 : decide ((k : Int) < 0) = false := decide_eq_false (by omega)
      have d2 : (0 : Int) ≤ (k : Int) := by omega
      have d3 : (k : Int) ≤ (r.size : Int) := by omega
      have d4 : IntKind.i64.wrap ((k : Int) + 1) = (k : Int) + 1 := IntWalk.i64_in _ (by omega)
      have d5 : (0 : Int) ≤ (k : Int) + 1 := by omega
      have d6 : (k : Int) + 1 ≤ (r.size : Int) := by omega
      have d7 : ((k : Int) + 1).toNat = k + 1 := by omega
      have d8 : IntKind.i64.wrap (k : Int) = (k : Int) := IntWalk.i64_in _ (by omega)
      obtain ⟨fn, tmps, assign, body, hy, hR⟩ := hY pre (r.extract 0 k) wr ⟨pcs c f' (r.extract (k + 1) r.size), by rw [HE.out, List.append_assoc]; rfl⟩ hJs
      clear hi hsz
      gi_wp2_with (refine ⟨trivial, ?_⟩; gi_at_call 84; refine (callsIn_wide.2 (Tryd.strings_Index_one _ _ _)).mono ?_; rintro e w' ⟨rfl, rfl⟩; rw [HI.out])
      refine hR.mono ?_
      rintro e2 W3 (⟨rfl, hJ3, hk3⟩ | ⟨rfl, hJx3⟩)
      · have g0 := Lib.hid (hk3.box H3.out (by omega) (by omega))
        have g1 := Lib.hid (hk3.box H4.out (by omega) (by omega))
        have g2 := Lib.hid (hk3.box H5.out (by omega) (by omega))
        have q0 := g0.out.cell
        have q1 := g1.out.cell
        have q0f := g0.out.frozen
        clear hk3
        gi_wp2
        go_roundw
        case rel => exact ⟨r.extract (k + 1) r.size, f', pre ++ [r.extract 0 k], by simp; omega, Lib.hid ⟨by simp; have := HX.out.1; omega, by rw [HE.out, List.append_assoc]; rfl⟩, hJ _ _ _ hJ3, Lib.hid (g0.out.set _), Lib.hid (g1.out.other (by omega) _), Lib.hid (g2.out.other (by omega) _)⟩
        case measure =>
          rw [leftAt_of H3.out, leftAt_of (g0.out.set _)]
          simp
          omega
      · gi_wp2
        refine bodyPost_ret (results_none rfl _ _ _) rfl ?_
        exact ⟨⟨_, rfl⟩, .inr ⟨_, hJx3⟩⟩
end Go.Proofs.YtjekibhaabkecaaDoor
