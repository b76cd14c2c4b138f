/- Proved here: what takes of package tape hands out, part by part, whatever the loop over it does, as long as the text stays as it is. -/
import Derived.RangeFuncNested
import Derived.RangeFuncBound
import Derived.RangeFuncCalls
import Derived.RangeFuncLeaves
import Derived.Shelf.Abstract
import Derived.Shelf.RegionOpen
import Derived.OwnWalkIn
import Derived.TacticsInMore
import Derived.LoopNIn
import Derived.LoopIn
import Derived.RangeFuncBox
import Derived.Maps.AppendAt
import Derived.BigGuardPartIn
import Derived.Test.YtmamolhclohniaaDoorEqual
import Derived.Test.YtmamolhclohniaaDoorMath3
namespace Go.Proofs.YtmamolhclohniaaDoor
open Go.RowKit Go.Shelf
attribute [local go_sem] Oper.semAt_some

def encI (x : Item) : Array Value := #[.int .i64 x.1, .agg #[.bool x.2.1.isText, .int .u64 x.2.1.num, .string ⟨x.2.1.text.toArray⟩, .int .i64 x.2.2]]
def keepS (B : Nat) (s : ByteArray) (W W' : World) : Prop := Boxed W B 9 (.string s) → Boxed W' B 9 (.string s)
theorem boxed_below {W W' : World} {B k : Nat} {t : TypeId} {v : Value} (h : Boxed W k t v) (hb : Below B W W') (hk : k < B) : Boxed W' k t v := (hb.block k hk).trans h
theorem grown_of_below {W W' : World} (h : Below W.heap.size W W') : W.grownBy W' none := ⟨h.os, h.tape, h.output, h.size, fun k hk _ => h.block k hk⟩

theorem takes_any (s : ByteArray) (w : World) : Calls Tryd.prog 27 #[.string s] w fun e w' => e = .returned (.func (.func 33) #[] #[.pointer (some ⟨w.heap.size, 0, none⟩)]) ∧ w.alloc (.cells #[.string s] 9) = w' := by
  go_enter Tryd.func27, Tryd.ntmps27
  go_wp2
  go_ret
  exact ⟨rfl, rfl⟩

theorem take_no (s : ByteArray) (n : Nat) (hs : s.size ≤ 140737488355328) (e : Int) (h : takeR (s.data.toList.drop n) = .no e) (w : World) : Calls Tryd.prog 19 #[.string (s.extract n s.size)] w fun e' w' => e' = .returned (.tuple #[.agg #[.bool false, .int .u64 0, .string ⟨#[]⟩], .string ⟨#[]⟩, .int .i64 e]) ∧ Below w.heap.size w w' :=
  (take_any (s.extract n s.size) (by simp; omega) w).mono fun _ _ ⟨he, hb⟩ => ⟨by rw [he, Lib.extract_to_end, h]; rfl, hb⟩
theorem take_ok (s : ByteArray) (n : Nat) (hs : s.size ≤ 140737488355328) (p : Part) (r : Str) (h : takeR (s.data.toList.drop n) = .ok p r) (w : World) : Calls Tryd.prog 19 #[.string (s.extract n s.size)] w fun e' w' => e' = .returned (.tuple #[.agg #[.bool p.isText, .int .u64 p.num, .string ⟨p.text.toArray⟩], .string ⟨r.toArray⟩, .int .i64 0]) ∧ Below w.heap.size w w' :=
  (take_any (s.extract n s.size) (by simp; omega) w).mono fun _ _ ⟨he, hb⟩ => ⟨by rw [he, Lib.extract_to_end, h]; rfl, hb⟩

set_option maxRecDepth 100000 in
set_option maxHeartbeats 2000000 in
theorem takes1_stops (n : Nat) (hn : 1 ≤ n) (B : Nat) (s : ByteArray) (hs : s.size ≤ 140737488355328) (w : World) (hc : Boxed w B 9 (.string s)) :
    SeqStopsK Fence.wide n Tryd.prog 33 #[.pointer (some ⟨B, 0, none⟩)] encI (keepS B s) (fun xs => xs = itL s.data.toList) (fun pre => pre <+: itL s.data.toList) (itL s.data.toList).length w := fun l J Jx W hW hJ hJx hY h0 => by
  have hc' := Lib.hid (boxed_below hc hW hc.lt)
  clear hc hW
  refine callsIn_of_wp Tryd.func33 rfl trivial ?_ rfl
  simp only [Tryd.ntmps33, List.size_toArray, List.length_cons, List.length_nil, Nat.reduceAdd, Nat.reduceSub, Array.replicate_succ, Array.replicate_zero, List.push_toArray, List.append_toArray, List.nil_append, List.cons_append]
  gi_wp2
  gi_loopw [3, 4, 5, 6, 7, 8, 9, 10, 11, 12, 13, 14, 15, 16, 17, 18, 19, 20, 21, 22, 23, 24, 25, 26, 27, 28, 29, 30, 31, 32, 33, 34] (fun a _ _ _ _ _ _ _ _ _ _ _ _ _ _ _ _ _ _ _ _ _ _ _ _ _ _ _ _ _ _ _ wr => ∃ (k f : Nat) (pre : List Item), a = .int .i64 k ∧ k ≤ s.size ∧ Hid (s.size - k ≤ f ∧ itL s.data.toList = pre ++ itF s.size f (s.data.toList.drop k)) ∧ J pre wr ∧ Hid (Boxed wr B 9 (.string s)))
    (fun a _ _ _ _ _ _ _ _ _ _ _ _ _ _ _ _ _ _ _ _ _ _ _ _ _ _ _ _ _ _ _ _ => s.size - (Lib.intOf a).toNat)
  case atStart => exact ⟨0, s.size, [], rfl, Nat.zero_le _, Lib.hid ⟨by omega, rfl⟩, h0, hc'⟩
  case round =>
    obtain ⟨k, f, pre, rfl, hk, HX, hJs, hcb⟩ := hrel
    have hcs := hcb.out.cell
    have hsl : (s.data.toList.drop k).length = s.size - k := by rw [List.length_drop]; rfl
    have HSL := Lib.hid hsl
    clear hsl
    by_cases hlt : k < s.size
    · obtain ⟨f', rfl⟩ : ∃ f', f = f' + 1 := ⟨f - 1, by have := HX.out.1; omega⟩
      have hne : s.data.toList.drop k ≠ [] := List.length_pos_iff.1 (by rw [HSL.out]; omega)
      have hkk : s.size - (s.size - k) = k := by omega
      have c1 : (0 : Int) ≤ (k : Int) := by omega
      have c2 : (k : Int) ≤ (s.size : Int) := by omega
      cases ht : takeR (s.data.toList.drop k) with
      | no e =>
        have HT := Lib.hid ht
        have HI : Hid (itL s.data.toList = pre ++ [(k, part0, e)]) := Lib.hid (by rw [HX.out.2, itF_cons_no _ _ _ _ hne ht, HSL.out, hkk])
        have hlen : pre.length < (itL s.data.toList).length := by rw [HI.out]; simp
        have he : e = 7 ∨ e = 120 := takeR_err _ _ ht
        have hen : (e == 0) = false := by rw [beq_eq_false_iff_ne]; omega
        have hen2 : (e != 0) = true := by rw [bne, hen]; rfl
        clear ht hne hkk he
        gi_wp2_with (refine ⟨trivial, ?_⟩; gi_at_call 19; refine (callsIn_wide.2 (take_no s k hs e HT.out _)).mono ?_; rintro e' w1 ⟨rfl, hb⟩; refine Hid.out ?_)
        refine Lib.hid ?_
        have hJ1 := hJ pre wr w1 none hJs (grown_of_below hb) (fun r e => by cases e)
        have hJ2 := hJ pre w1 (w1.alloc (.cells #[.bool false, .int .u64 0, .string ⟨#[]⟩] 29)) none hJ1 (World.grownBy_alloc _ _ none) (fun r e => by cases e)
        obtain ⟨fn, tmps, assign, body, hy, hR⟩ := hY pre (k, part0, e) (w1.alloc (.cells #[.bool false, .int .u64 0, .string ⟨#[]⟩] 29)) hJ2 hlen
        have hy2 : (Instr.yield l #[.int .i64 k, .agg #[.bool false, .int .u64 0, .string ⟨#[]⟩, .int .i64 e]]).run Tryd.prog (w1.alloc (.cells #[.bool false, .int .u64 0, .string ⟨#[]⟩] 29)) = _ := hy
        clear hy
        gi_wp2
        refine hR.mono ?_
        rintro e2 W3 (⟨rfl, hJ3, hk3⟩ | ⟨rfl, hJx3⟩)
        · gi_wp2
          refine bodyPost_ret (results_none rfl _ _ _) rfl ?_
          exact ⟨⟨_, rfl⟩, .inl ⟨_, HI.out.symm, hJ3⟩⟩
        · gi_wp2
          refine bodyPost_ret (results_none rfl _ _ _) rfl ?_
          exact ⟨⟨_, rfl⟩, .inr ⟨_, by rw [HI.out]; exact List.prefix_rfl, hJx3⟩⟩
      | ok p r =>
        have HT := Lib.hid ht
        have hless := takeR_less _ _ _ ht
        rw [HSL.out] at hless
        have HI : Hid (itL s.data.toList = pre ++ (k, p, 0) :: itF s.size f' r) := Lib.hid (by rw [HX.out.2, itF_cons_ok _ _ _ _ _ hne ht, HSL.out, hkk])
        have HRR : Hid (s.data.toList.drop (s.size - r.length) = r) := Lib.hid (by
          have h1 := takeR_rest _ _ _ ht
          rw [List.drop_drop, HSL.out] at h1
          rw [← h1]
          congr 2
          · rw [h1]; omega
          )
        have hlen : pre.length < (itL s.data.toList).length := by rw [HI.out]; simp
        have c3 : (r.length : Int) ≤ (s.size : Int) := by omega
        clear ht hne hkk
        gi_wp2_with (refine ⟨trivial, ?_⟩; gi_at_call 19; refine (callsIn_wide.2 (take_ok s k hs p r HT.out _)).mono ?_; rintro e' w1 ⟨rfl, hb⟩; refine Hid.out ?_)
        refine Lib.hid ?_
        have hJ1 := hJ pre wr w1 none hJs (grown_of_below hb) (fun r e => by cases e)
        have hJ2 := hJ pre w1 (w1.alloc (.cells #[.bool p.isText, .int .u64 p.num, .string ⟨p.text.toArray⟩] 29)) none hJ1 (World.grownBy_alloc _ _ none) (fun r e => by cases e)
        obtain ⟨fn, tmps, assign, body, hy, hR⟩ := hY pre (k, p, 0) (w1.alloc (.cells #[.bool p.isText, .int .u64 p.num, .string ⟨p.text.toArray⟩] 29)) hJ2 hlen
        have hy2 : (Instr.yield l #[.int .i64 k, .agg #[.bool p.isText, .int .u64 p.num, .string ⟨p.text.toArray⟩, .int .i64 0]]).run Tryd.prog (w1.alloc (.cells #[.bool p.isText, .int .u64 p.num, .string ⟨p.text.toArray⟩] 29)) = _ := hy
        have hcs1 : w1.cell? ⟨B, 0, none⟩ = some (.string s) := (boxed_below hcb.out hb hcb.out.lt).cell
        clear hy
        gi_wp2
        refine hR.mono ?_
        rintro e2 W3 (⟨rfl, hJ3, hk3⟩ | ⟨rfl, hJx3⟩)
        · have hb3 := Lib.hid (hk3 ((boxed_below hcb.out hb hcb.out.lt).alloc _))
          have hcs3 := hb3.out.cell
          clear hk3
          gi_wp2
          go_roundw
          case rel => exact ⟨s.size - r.length, f', pre ++ [(k, p, 0)], congrArg _ (by omega), by omega, Lib.hid ⟨by have := HX.out.1; omega, by rw [HI.out, HRR.out]; simp⟩, hJ3, hb3⟩
          case measure => simp [Lib.intOf]; omega
        · gi_wp2
          refine bodyPost_ret (results_none rfl _ _ _) rfl ?_
          exact ⟨⟨_, rfl⟩, .inr ⟨_, ⟨itF s.size f' r, by rw [HI.out]; simp⟩, hJx3⟩⟩
    · have HE : Hid (itL s.data.toList = pre) := Lib.hid (by
        have e : s.data.toList.drop k = [] := List.eq_nil_of_length_eq_zero (by rw [HSL.out]; omega)
        rw [HX.out.2, e, itF_nil, List.append_nil])
      gi_wp2
      go_end0
      exact ⟨⟨_, rfl⟩, .inl ⟨pre, HE.out.symm, hJs⟩⟩
end Go.Proofs.YtmamolhclohniaaDoor
