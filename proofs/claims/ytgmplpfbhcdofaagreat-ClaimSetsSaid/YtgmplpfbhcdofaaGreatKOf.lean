/- Proved here: Of of package claim: the claims of rows. -/
import Derived.Test.YtgmplpfbhcdofaaGreatKColl
namespace Go.Proofs.YtgmplpfbhcdofaaGreat
open Go.RowKit Go.Shelf Go.Lib
attribute [local go_sem] Oper.semAt_some

theorem claimsfn_any (a : Option Addr) (n c : Nat) (w : World) : Calls Tryz.prog 38 #[.slice a n c] w fun e w' => e = .returned (.func (.func 64) #[] #[.pointer (some ⟨w.heap.size, 0, none⟩)]) ∧ w.alloc (.cells #[.slice a n c] 29) = w' := by
  go_enter Tryz.func38, Tryz.ntmps38
  go_wp2
  go_ret
  exact ⟨rfl, rfl⟩
/-- The claims of rows, in memory of their own. -/
def ClsAt (l : List (List Lf)) (B : Nat) (v : Value) (w : World) : Prop :=
  ∃ z : Nat × (Bs → Value), OwnsC (plsL l) B B z w ∧ w.ownsRow B 44 3 v (clsL l).length (flatC z.2 (clsL l)) ∧ ∀ g, v.ownBlock = some g → z.1 ≤ g
theorem ClsAt.mono {l : List (List Lf)} {B B' : Nat} {v : Value} {w : World} (h : ClsAt l B v w) (hB : B' ≤ B) : ClsAt l B' v w := by
  obtain ⟨z, h1, h2, h3⟩ := h
  refine ⟨z, ⟨fun p => own_mono (h1.row p) hB, fun p g hg => by have := h1.at_ p g hg; omega, h1.apart, by have := h1.le; omega⟩, ⟨h2.1, h2.2.imp id ?_⟩, h3⟩
  rintro ⟨g, cap, cur, r1, r2, r3⟩
  exact ⟨g, cap, cur, r1, Nat.le_trans hB r2, r3⟩
theorem ClsAt.on {l : List (List Lf)} {B : Nat} {v : Value} {w w' : World} (h : ClsAt l B v w) (hb : Below w.heap.size w w') : ClsAt l B v w' := by
  obtain ⟨z, h1, h2, h3⟩ := h
  exact ⟨z, h1.grown (below_grown hb) (fun r e => by cases e), own_on h2 hb, h3⟩
set_option maxRecDepth 100000 in
set_option maxHeartbeats 2000000 in
theorem ccollect_any (bl : Nat) (l : List (List Lf)) (v : Value) (w : World) (hok : okRs l) (hbl : Box w bl 29 #[v]) (hv : RdRs w v l) :
    Calls Tryz.prog 37 #[.func (.func 64) #[] #[.pointer (some ⟨bl, 0, none⟩)]] w fun e w' => ∃ v, e = .returned v ∧ ClsAt l w.heap.size v w' ∧ Below w.heap.size w w' := by
  have HA := Lib.hid (cappend_any bl l v w hok hbl hv)
  clear hok hbl hv
  go_enter Tryz.func37, Tryz.ntmps37
  go_wp2_with fail
  refine HA.out.mono ?_
  rintro e w1 ⟨v, z, rfl, h1, h2, hb, h3⟩
  have HB := Lib.hid hb
  have HC : Hid (ClsAt l w.heap.size v w1) := Lib.hid ⟨z, h1, h2, h3⟩
  clear hb h1 h2 h3
  go_wp2_with fail
  go_ret
  exact ⟨v, rfl, HC.out, HB.out⟩
def OfR (l : List (List Lf)) (w : World) (e : Ending) (w' : World) : Prop := ∃ v, e = .returned (.tuple #[v, .int .i64 (chkR l)]) ∧ Below w.heap.size w w' ∧ (chkR l ≠ 0 → v = .slice none 0 0) ∧ (chkR l = 0 → ClsAt l w.heap.size v w')
set_option maxRecDepth 100000 in
set_option maxHeartbeats 2000000 in
theorem of_any (l : List (List Lf)) (v : Value) (w : World) (hv : RdRs w v l) : Calls Tryz.prog 11 #[v] w (OfR l w) := by
  have HV := Lib.hid hv
  have HC := Lib.hid (check_any l v w hv)
  obtain ⟨a, c, rfl, _⟩ := hv
  obtain ⟨n, hn⟩ : ∃ n, n = l.length := ⟨_, rfl⟩
  rw [← hn] at HV HC ⊢
  clear hn
  by_cases hz : chkR l = 0
  · have HK := Lib.hid ((chkR_iff l).1 hz)
    have HZ := Lib.hid hz
    clear hz
    go_enter Tryz.func11, Tryz.ntmps11
    go_upto_region 4 with (go_at_call 36; refine HC.out.mono ?_; rintro e w1 ⟨rfl, hb⟩; rw [HZ.out]; have HB1 := Lib.hid hb; clear hb)
    obtain ⟨w2, hw2⟩ : ∃ z, z = w1.alloc (.cells #[.slice a n c] 29) := ⟨_, rfl⟩
    have hb2 : Below w1.heap.size w1 w2 := by rw [hw2]; exact below_new _ _
    have X2 : Box w2 w1.heap.size 29 #[.slice a n c] := by rw [hw2]; exact box_new
    have HW2 := Lib.hid hw2
    have HB2 := Lib.hid (bch HB1.out hb2)
    have HCC := Lib.hid (ccollect_any w1.heap.size l _ w2 HK.out X2 (HV.out.on HB2.out))
    clear hw2 hb2 X2
    go_wp2_with (first
      | (go_at_call 38; refine (claimsfn_any a n c _).mono ?_; rintro e w' ⟨rfl, rfl⟩; rw [← HW2.out])
      | (go_at_call 37; refine HCC.out.mono ?_; rintro e w3 ⟨v3, rfl, hc, hb⟩; have HC3 := Lib.hid hc; have HB3 := Lib.hid hb; clear hc hb))
    go_ret2
    exact ⟨v3, by rw [HZ.out]; rfl, bch HB2.out HB3.out, fun h => absurd HZ.out h, fun _ => HC3.out.mono HB2.out.size⟩
  · have t1 : (chkR l != 0) = true := by simpa using hz
    have HZ := Lib.hid hz
    clear hz
    go_enter Tryz.func11, Tryz.ntmps11
    go_wp2_with (go_at_call 36; refine HC.out.mono ?_; rintro e w1 ⟨rfl, hb⟩; have HB1 := Lib.hid hb; clear hb)
    go_ret2
    exact ⟨_, rfl, HB1.out, fun _ => rfl, fun h => absurd h HZ.out⟩
end Go.Proofs.YtgmplpfbhcdofaaGreat
