/- Proved here: What parts of package path hands out, part by part, whatever the loop over it does: the parts between the slashes, in order, or a first row of them. -/
import Derived.RangeFuncNested
import Derived.RangeFuncBound
import Derived.RangeFuncCalls
import Derived.RangeFuncLeaves
import Derived.Shelf.Abstract
import Derived.Shelf.RegionOpen
import Derived.OwnWalkIn
import Derived.TacticsInMore
import Derived.LoopNIn
import Derived.LoopIn
import Derived.RangeFuncBox
import Derived.Maps.AppendAt
import Derived.Test.YtgmplpfbhcdofaaGreatPCut
namespace Go.Proofs.YtgmplpfbhcdofaaGreat.Pt
open Go.RowKit Go.Shelf
attribute [local go_sem] Oper.semAt_some

def encS (l : Str) : Value := .string ⟨l.toArray⟩
theorem only_drewN {a w : World} {row : Option Nat} (h : a.grownBy w row) (n : Nat) : a.grownBy (w.drewN n) row := ⟨h.os, h.tape, h.output, h.size, h.block⟩
theorem cutl_any (l : Str) (w : World) (hs : l.length ≤ 140737488355328) : Calls Tryz.prog 125 #[.string ⟨l.toArray⟩, .string ⟨#[47]⟩] w fun e w' => e = .returned (.tuple #[.string ⟨(cut1 l).1.toArray⟩, .string ⟨(cut1 l).2.1.toArray⟩, .bool (cut1 l).2.2]) ∧ ∃ n, w' = w.drewN n :=
  cut_any ⟨l.toArray⟩ w (by simpa [ByteArray.size] using hs)
theorem grown_drewN (w : World) (n : Nat) (row : Option Nat) : w.grownBy (w.drewN n) row := only_drewN (World.grownBy.refl w row) n
def anyK (_ _ : World) : Prop := True

set_option maxRecDepth 100000 in
set_option maxHeartbeats 1000000 in
theorem parts1_stops (n : Nat) (hn : 1 ≤ n) (B : Nat) (s : ByteArray) (hs : s.size ≤ 140737488355328) (w : World) (hB : B < w.heap.size) (hc : w.cell? ⟨B, 0, none⟩ = some (.string s)) :
    SeqStopsK Fence.wide n Tryz.prog 150 #[.pointer (some ⟨B, 0, none⟩)] (fun x : Str => #[.string ⟨x.toArray⟩]) anyK (fun xs => xs = cutP s.data.toList) (fun pre => pre <+: cutP s.data.toList) (cutP s.data.toList).length w := fun l J Jx W hW hJ hJx hY h0 => by
  have hc' : W.cell? ⟨B, 0, none⟩ = some (.string s) := (hW.cell (p := ⟨B, 0, none⟩) hB).trans hc
  clear hc hW hB
  refine callsIn_of_wp Tryz.func150 rfl trivial ?_ rfl
  simp only [Tryz.ntmps150, List.size_toArray, List.length_cons, List.length_nil, Nat.reduceAdd, Nat.reduceSub, Array.replicate_succ, Array.replicate_zero, List.push_toArray, List.append_toArray, List.nil_append, List.cons_append]
  gi_wp2_with (refine ⟨trivial, ?_⟩; gi_at_call 125; refine (callsIn_wide.2 (cut_any _ _ hs)).mono ?_; rintro e w' ⟨rfl, q, rfl⟩)
  gi_loopw [3, 4, 5] (fun a b c wr => ∃ (pre : List Str) (part rest : Str) (more : Bool), a = .string ⟨part.toArray⟩ ∧ b = .string ⟨rest.toArray⟩ ∧ c = .bool more ∧ cutP s.data.toList = pre ++ tail1 part rest more ∧ rest.length ≤ 140737488355328 ∧ J pre wr)
    (fun _ b c _ => msr b c)
  case atStart => exact ⟨[], _, _, _, rfl, rfl, rfl, tail1_start _, cut1_snd_le _ _ hs, hJ [] W _ none h0 (grown_drewN _ _ _) (fun r e => by cases e)⟩
  case round =>
    obtain ⟨pre, part, rest, more, rfl, rfl, rfl, hx, hr, hJs⟩ := hrel
    have HX := Lib.hid hx
    have hlen : pre.length < (cutP s.data.toList).length := by rw [hx]; simp [tail1]
    clear hx
    obtain ⟨fn, tmps, assign, body, hy, hR⟩ := hY pre part wr hJs hlen
    clear hlen
    gi_wp2
    refine hR.mono ?_
    rintro e W3 (⟨rfl, hJ3, hk3⟩ | ⟨rfl, hJx3⟩)
    · cases more with
      | true =>
        gi_wp2_with (refine ⟨trivial, ?_⟩; gi_at_call 125; refine (callsIn_wide.2 (cutl_any _ _ hr)).mono ?_; rintro e w' ⟨rfl, q, rfl⟩)
        go_roundw
        case rel => exact ⟨pre ++ [part], _, _, _, rfl, rfl, rfl, by rw [HX.out, tail1_more]; simp, cut1_snd_le _ _ hr, hJ _ W3 _ none hJ3 (grown_drewN _ _ _) (fun r e => by cases e)⟩
        case measure => exact msr_lt rest
      | false =>
        gi_wp2
        go_end0
        exact ⟨⟨_, rfl⟩, .inl ⟨pre ++ [part], by rw [HX.out]; rfl, hJ3⟩⟩
    · gi_wp2
      go_end0
      exact ⟨⟨_, rfl⟩, .inr ⟨pre ++ [part], ⟨if more = true then cutP rest else [], by rw [HX.out]; simp [tail1]⟩, hJx3⟩⟩
end Go.Proofs.YtgmplpfbhcdofaaGreat.Pt
