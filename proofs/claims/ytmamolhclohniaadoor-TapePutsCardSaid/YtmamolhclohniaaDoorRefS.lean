/- Proved here: Says and Row of puncheonref02, at parts whose texts have at most 300 bytes. -/
import Derived.Test.YtmamolhclohniaaDoorRefP
import Derived.Deep.RegionWith
namespace Go.Proofs.YtmamolhclohniaaDoor
open Go.RowKit Go.Shelf

set_option maxRecDepth 100000 in
set_option maxHeartbeats 2000000 in
theorem rsays_num (n : Nat) (t : Str) (hn : n < 18446744073709551616) (w : World) : Calls Tryd.prog 24 #[aggP ⟨false, n, t⟩] w fun e w' => e = .returned (.string ⟨(saysL ⟨false, n, t⟩).toArray⟩) ∧ Below w.heap.size w w' := by
  have HD : Hid ((⟨(saysL ⟨false, n, t⟩).toArray⟩ : ByteArray) = ⟨(Lib.decDigits n).toArray⟩ ++ ⟨#[59]⟩) := Lib.hid (by
    have := cat_eq (Lib.decDigits n) [59]
    rw [this]
    rfl)
  rw [HD.out]
  have hl := dec_len n hn
  have hb0 := bal (Below.refl _ w) (.cells #[.bool false, .int .u64 n, .string ⟨t.toArray⟩] 29)
  unfold aggP
  go_enter Tryd.func24, Tryd.ntmps24
  go_wp2_with fail
  refine (rdigits_any n hn _).mono ?_
  rintro e w1 ⟨rfl, hb1⟩
  go_wp2_with fail
  go_ret
  exact ⟨rfl, bch hb0 hb1⟩

set_option maxRecDepth 100000 in
set_option maxHeartbeats 2000000 in
theorem rsays_text (n : Nat) (t : Str) (ht : t.length ≤ 300) (w : World) : Calls Tryd.prog 24 #[aggP ⟨true, n, t⟩] w fun e w' => e = .returned (.string ⟨(saysL ⟨true, n, t⟩).toArray⟩) ∧ Below w.heap.size w w' := by
  have HD : Hid ((⟨(saysL ⟨true, n, t⟩).toArray⟩ : ByteArray) = (⟨(Lib.decDigits t.length).toArray⟩ ++ ⟨#[58]⟩) ++ ⟨t.toArray⟩) := Lib.hid (by
    have h1 := cat_eq (Lib.decDigits t.length) [58]
    have h2 := cat_eq (Lib.decDigits t.length ++ [58]) t
    rw [h1, h2]
    simp [saysL])
  rw [HD.out]
  have hl := dec_len t.length (by omega)
  have hcs : ((⟨(Lib.decDigits t.length).toArray⟩ : ByteArray) ++ ⟨#[58]⟩).size ≤ 21 := by
    have h1 := cat_eq (Lib.decDigits t.length) [58]
    rw [h1]
    show (Lib.decDigits t.length ++ [58]).length ≤ 21
    simp
    omega
  have hb0 : Below w.heap.size w ((w.alloc (.cells #[.bool true, .int .u64 n, .string ⟨t.toArray⟩] 29)).drew) := (bal (Below.refl _ w) (.cells #[.bool true, .int .u64 n, .string ⟨t.toArray⟩] 29)).drew
  have p0 : PBox ((w.alloc (.cells #[.bool true, .int .u64 n, .string ⟨t.toArray⟩] 29)).drew) w.heap.size ⟨true, n, t⟩ := heap_alloc_new w _
  have hlt : t.length < 18446744073709551616 := by omega
  have HLT := Lib.hid hlt
  have hwr : IntKind.u64.wrap (t.length : Int) = (t.length : Int) := by rw [IntKind.wrap_u64]; omega
  clear hlt
  unfold aggP
  go_enter Tryd.func24, Tryd.ntmps24
  go_wp2_with fail
  go_region_with (go_at_call 32; refine (rdigits_any t.length HLT.out _).mono ?_; rintro e w1 ⟨rfl, hb1⟩; have p1 := p0.below hb1; have c2 := p1.c2; have hb2 := bch hb0 hb1)
  all_goals first | (go_wp2; go_ret; exact ⟨rfl, hb2⟩) | (exfalso; omega) | trace_state
end Go.Proofs.YtmamolhclohniaaDoor
