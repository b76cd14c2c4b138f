/- Proved here: slices.Collect of what places of package reloc hands out, and Places. -/
import Derived.Test.YtophihnjlodmjaaDoorRound
import Derived.Test.YtophihnjlodmjaaDoorSmall
import Derived.Maps.OwnIn
namespace Go.Proofs.YtophihnjlodmjaaDoor
open Go.RowKit Go.Shelf
attribute [local go_sem] Oper.semAt_some

theorem own_slice {w : World} {B n : Nat} {e : TypeId} {v : Value} {xs : List Value} (h : w.ownsRow B e 1 v n xs) : ∃ a c, v = .slice a n c := by
  rcases h.2 with ⟨h1, h0⟩ | ⟨g, cap, cur, h1, _⟩
  · exact ⟨none, 0, by rw [h1, h0]⟩
  · exact ⟨_, _, h1⟩
theorem own_in {w : World} {B n : Nat} {e : TypeId} {v : Value} {xs : List Value} (h : w.ownsRow B e 1 v n xs) {g : Nat} (hg : v.ownBlock = some g) : B ≤ g ∧ g < w.heap.size := by
  have := h.lt g hg
  exact ⟨this.1, this.2⟩

theorem put_below {w X : World} {r : Nat} {o : Obj} (h : Below w.heap.size w X) (hr : w.heap.size ≤ r) : Below w.heap.size w (X.putObj r o) :=
  ⟨h.os, h.tape, h.output, by simpa using h.size, fun k hk => (World.putObj_heap_other (by omega)).trans (h.block k hk)⟩
/-- What the gathering loop keeps. -/
def aI (w : World) (D : Nat) (pre : List Nat) (X : World) : Prop := ∃ v, Boxed X w.heap.size 27 v ∧ X.ownsRow w.heap.size 3 1 v pre.length (natsV pre) ∧ (∀ g, v.ownBlock = some g → D + 2 ≤ g) ∧ Below w.heap.size w X
theorem aI_steady (w : World) (D : Nat) (hD : w.heap.size < D) (Z : Nat → Prop) (hZ : ∀ k, Z k → k = D ∨ k = D + 1) : Steady Z (aI w D) := by
  rintro pre X Y row ⟨v, h1, h2, h3, h4⟩ hg hr
  have far : ∀ r, row = some r → r = D ∨ r = D + 1 := fun r e => hZ r (hr r e)
  refine ⟨v, h1.kept hg (fun e => ?_), owns_grown h2 hg (fun r e e2 => ?_), h3, h4.grown hg h4.size (fun r e => ?_)⟩
  · have := far _ e.symm; omega
  · have := far r e; have := h3 r e2; omega
  · have := far r e; omega

set_option maxRecDepth 100000 in
set_option maxHeartbeats 2000000 in
theorem appseq_any (B : Nat) (l p : Bs) (hp : 1 ≤ p.length) (hl : l.length ≤ 1000000000) (hp2 : p.length ≤ 1000000000) (vd vp : Value) (w : World) (hk : PK B vd vp l p w) (hT : ∀ k, plT B vd vp k → k < w.heap.size) :
    Calls Tryd.prog 46 #[.slice none 0 0, .func (.func 47) #[] #[.pointer (some ⟨B + 1, 0, none⟩), .pointer (some ⟨B, 0, none⟩)]] w fun e w' => ∃ v, e = .returned v ∧ w'.ownsRow w.heap.size 3 1 v (plcs p l).length (natsV (plcs p l)) ∧ Below w.heap.size w w' := by
  obtain ⟨w0, hw0⟩ : ∃ z, z = w.alloc (.cells #[.slice none 0 0] 27) := ⟨_, rfl⟩
  have hB0 : Below w.heap.size w w0 := by rw [hw0]; exact below_new _ _
  have hs0 : w0.heap.size = w.heap.size + 1 := by rw [hw0]; simp
  have h0 : aI w w0.heap.size [] w0 := ⟨.slice none 0 0, by rw [hw0]; exact Boxed.new _ _ _, World.ownsRow_nil _ _ _ _, (fun g e => by cases e), hB0⟩
  have hit := places_hands 4 (by omega) B l p hp hl hp2 vd vp w0 (hk.kept (Fix.below hB0 hT))
  have hcnt : (plcs p l).length ≤ 1000000000 := by
    have := (plcs_gaps p l).count
    have h2 : (plcs p l).length * 1 ≤ (plcs p l).length * p.length := Nat.mul_le_mul_left _ hp
    omega
  have HCN := Lib.hid hcnt
  have HIT := Lib.hid hit
  have H0 := Lib.hid h0
  have HT := Lib.hid hT
  have HW0 := Lib.hid hw0
  clear hit h0 hk hcnt
  refine (callsIn_wide (n := 5)).1 ?_
  refine callsIn_of_wp_marks Tryd.func46 rfl trivial ?_ rfl
  simp only [Tryd.ntmps46, List.size_toArray, List.length_cons, List.length_nil, Nat.reduceAdd, Nat.reduceSub, Array.replicate_succ, Array.replicate_zero, List.push_toArray, List.append_toArray, List.nil_append, List.cons_append]
  gi_wp2
  rw [← HW0.out]
  refine range_hands rfl (by omega) (gf := 47) (lb := #[.pointer (some ⟨B + 1, 0, none⟩), .pointer (some ⟨B, 0, none⟩)]) rfl trivial (enters_of Tryd.func47 (by kernel_rfl) rfl)
    (plT B vd vp) (fun _ => False) w0.heap.size rfl (fun k hk => by have := HT.out k hk; omega) (fun _ h => h.elim) HIT.out (fun _ => rfl) (aI w w0.heap.size) (fun _ _ => False)
    (aI_steady w _ (by omega) _ (fun k h => by rcases h with h | h | h; exact h.elim; exact .inl h; exact .inr h)) (fun _ _ _ _ h _ _ => h) H0.out
    (fun x => { tmps := #[.slice none 0 0, .func (.func 47) #[] #[.pointer (some ⟨B + 1, 0, none⟩), .pointer (some ⟨B, 0, none⟩)], .pointer (some ⟨w.heap.size, 0, none⟩), undef, .slice none 0 0, .int .i64 (x : Int), .func (.func 47) #[] #[.pointer (some ⟨B + 1, 0, none⟩), .pointer (some ⟨B, 0, none⟩)], .int .i64 (x : Int), undef, undef, undef, undef, undef], defers := [] }) ?assign ?body ?done ?stop
  case assign =>
    intro l x X K hK
    gi_wp2
    exact hK
  case body =>
    rintro lp pre x X hpre hsX ⟨v, hX, hO, hN, hB⟩
    obtain ⟨a1, c1, rfl⟩ := own_slice hO
    have c0 := hX.cell
    have HPL : Hid (pre.length + 1 ≤ 1000000000) := Lib.hid (by
      have := hpre.length_le
      have := HCN.out
      simp at *
      omega)
    obtain ⟨i0, hi, hz0, hz1, hz2⟩ := info_parts info3
    obtain ⟨X7, hX7⟩ : ∃ z, z = X.alloc (.cells #[.int .i64 (x : Int)] 3) := ⟨_, rfl⟩
    have hB7 : Below X.heap.size X X7 := by rw [hX7]; exact below_new _ _
    have HOW := Lib.hid (owns_on hO hB7)
    have HNW : Hid (∀ (j : Nat) (u : Value), [i64 x][j]? = some u → X7.cell? ((⟨X.heap.size, 0, none⟩ : Addr).add j) = some u) := Lib.hid (fun j u hu => by
      rw [addr_add, Nat.zero_add]
      have hbx : Box X7 X.heap.size 3 #[i64 x] := by rw [hX7]; exact heap_alloc_new X _
      exact hbx.cell (by simpa using hu))
    have HSZ7 : Hid (w.heap.size ≤ X7.heap.size) := Lib.hid (Nat.le_trans hB.size hB7.size)
    have HXE := Lib.hid (boxed_on hX hB7)
    have HNG : Hid (some w.heap.size ≠ (Value.slice a1 pre.length c1).ownBlock) := Lib.hid (fun e => by have := hN _ e.symm; omega)
    have HFIN : Hid (∀ v' w', w'.ownsRow w.heap.size 3 1 v' (pre.length + 1) (natsV pre ++ [i64 x]) → X7.grownBy w' (Value.slice a1 pre.length c1).ownBlock → (v'.ownBlock = (Value.slice a1 pre.length c1).ownBlock ∨ v'.ownBlock = some X7.heap.size) →
        Left (fun k => plT B vd vp k ∨ k = w0.heap.size ∨ k = w0.heap.size + 1) (aI w w0.heap.size) (fun _ _ => False) (pre ++ [x]) X .normal { tmps := #[], defers := [] } (w'.setCell ⟨w.heap.size, 0, none⟩ v')) := Lib.hid (fun v' w' h1 h2 h3 => by
      have hsz := h2.size
      have hsz7 := hB7.size
      have hb := HXE.out.kept h2 HNG.out
      have hnew : ∀ g, v'.ownBlock = some g → w0.heap.size + 2 ≤ g := fun g e => by
        rcases h3 with h3 | h3
        · exact hN g (by rw [← h3]; exact e)
        · rw [h3] at e; cases e; omega
      refine ⟨fun k hk => ?_, by simp; omega, v', hb.set _, ?_, hnew, ?_⟩
      · have hkl : k < w.heap.size ∨ k = w0.heap.size ∨ k = w0.heap.size + 1 := by
          rcases hk with hk | hk | hk
          · exact .inl (HT.out k hk)
          · exact .inr (.inl hk)
          · exact .inr (.inr hk)
        rw [Below.heap_setCell _ _ _ _ (show k ≠ w.heap.size by omega), h2.block k (by omega) (fun e => by have := hN k e.symm; have := (own_in hO e.symm).1; omega), hB7.block k (by omega)]
      · rw [natsV_app, List.length_append]
        exact owns_grown h1 (grownBy_setCell' _ _ _) (fun r e e2 => by cases e; have := hnew _ e2; omega)
      · exact ((hB.trans (hB7.mono hB.size)).grown h2 (Nat.le_trans hB.size hB7.size) (fun k e => (own_in hO e).1)).setCell (p := ⟨w.heap.size, 0, none⟩) (Nat.le_refl _) _)
    have HX7 := Lib.hid hX7
    obtain ⟨m, hm⟩ : ∃ m, m = pre.length := ⟨_, rfl⟩
    rw [← hm] at c0 HOW HXE HNG HFIN HPL
    clear hX hO hN hB hB7 hX7 hm hpre hsX
    gi_wp2_with (gi_at_builtin; go_loud (rw [← HX7.out]; refine wpListIn_append_own_at _ rfl _ _ 27 rfl w.heap.size 3 i0 (.int .i64 0) 1 8 Tryd.underlying27 hi hz0 hz1 hz2 rfl (by decide) _ _ _ rfl HOW.out ⟨X.heap.size, 0, none⟩ 1 1 [i64 x] rfl rfl HNW.out (by simp [Value.oneCell', i64]) (by have := HPL.out; unfold maxLen; omega) (by have := HPL.out; omega) HSZ7.out ?_; intro v' w' hown' hgrow _ hat; have HXw := Lib.hid (HXE.out.kept hgrow HNG.out); have HM := Lib.hid (HFIN.out v' w' hown' hgrow hat); have xw := HXw.out.cell; have fw := HXw.out.frozen; obtain ⟨aq, cq, rfl⟩ := own_slice hown'; clear hown' hgrow hat c0; refine Hid.out ?_))
    refine Lib.hid ?_
    gi_wp2
    exact HM.out
  case done =>
    rintro X ⟨v, hX, hO, hN, hB⟩ _ hd
    obtain ⟨a1, c1, rfl⟩ := own_slice hO
    have c0 := hX.cell
    have HD := Lib.hid hd
    have HO := Lib.hid hO
    have HN := Lib.hid hN
    have HB := Lib.hid hB
    obtain ⟨m, hm⟩ : ∃ m, m = (plcs p l).length := ⟨_, rfl⟩
    rw [← hm] at c0 HO HN
    have HM := Lib.hid hm
    clear hX hO hN hB hd hm
    gi_wp2
    refine ⟨by simp, .inl ⟨_, _, rfl, run_takeDeferred HD.out, ?_⟩⟩
    refine ⟨.slice a1 m c1, ?_, ?_⟩
    · simp [results, Tryd.f46, go_sem]
    · refine ⟨_, rfl, ?_, put_below HB.out (by omega)⟩
      rw [← HM.out]
      exact owns_grown HO.out (grownBy_putObj' _ _ _) (fun r e e2 => by cases e; have := HN.out _ e2; omega)
  case stop => exact fun _ _ h _ _ => h.elim

def CollR (l p : Bs) (w : World) (e : Ending) (w' : World) : Prop := ∃ v, e = .returned v ∧ w'.ownsRow w.heap.size 3 1 v (plcs p l).length (natsV (plcs p l)) ∧ Below w.heap.size w w'

set_option maxRecDepth 100000 in
theorem collect_any (B : Nat) (l p : Bs) (hp : 1 ≤ p.length) (hl : l.length ≤ 1000000000) (hp2 : p.length ≤ 1000000000) (vd vp : Value) (w : World) (hk : PK B vd vp l p w) (hT : ∀ k, plT B vd vp k → k < w.heap.size) :
    Calls Tryd.prog 30 #[.func (.func 47) #[] #[.pointer (some ⟨B + 1, 0, none⟩), .pointer (some ⟨B, 0, none⟩)]] w (CollR l p w) := by
  have HA := Lib.hid (appseq_any B l p hp hl hp2 vd vp w hk hT)
  clear hk hT
  go_enter Tryd.func30, Tryd.ntmps30
  go_wp2_with fail
  refine HA.out.mono ?_
  rintro e w1 ⟨v, rfl, ho, hb⟩
  have HO := Lib.hid ho
  have HB := Lib.hid hb
  clear ho hb
  go_wp2_with fail
  go_ret
  exact ⟨v, rfl, HO.out, HB.out⟩
end Go.Proofs.YtophihnjlodmjaaDoor
