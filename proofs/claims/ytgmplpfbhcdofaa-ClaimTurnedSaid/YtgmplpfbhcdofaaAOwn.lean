/- Proved here: own of puncheonlaw16: rows cut to what is looked at, in memory of their own; slices.IsSorted of what is in order. -/
import Derived.Test.YtgmplpfbhcdofaaAMath
import Derived.Test.YtgmplpfbhcdofaaKWakes
namespace Go.Proofs.Ytgmplpfbhcdofaa
open Go.RowKit Go.Shelf Go.Lib
attribute [local go_sem] Oper.semAt_some

theorem int_at' {w : World} {a : Option Addr} {n c : Nat} {l : List Int} (h : Rd w (.slice a n c) (intsV l)) (j : Nat) (hj : j < l.length) : ∃ g o, a = some ⟨g, o, none⟩ ∧ w.cell? ⟨g, o + j, none⟩ = some (.int .i64 (l[j])) := by
  obtain ⟨a', cap, e, h1, h2, h3, h4⟩ := h
  cases e
  obtain ⟨g, o, e, hg, hc⟩ := h4 (by rw [intsV_len]; omega)
  exact ⟨g, o, e, hc j _ (by unfold intsV; rw [List.getElem?_map, List.getElem?_eq_getElem hj]; rfl)⟩
def cutR (l : List (List Lf)) : List (List Lf) := (l.take 17).map (·.take 17)
/-- Rows of leaves in memory of the call's own. -/
def OwnR (w : World) (B : Nat) (v : Value) (l : List (List Lf)) : Prop :=
  ∃ xs, w.ownsRow B 33 1 v l.length xs ∧ ∀ (j : Nat) (r : List Lf), l[j]? = some r → ∃ x, xs[j]? = some x ∧ w.ownsRow B 35 3 x r.length (flatL r)
theorem OwnR.rd {w : World} {B : Nat} {v : Value} {l : List (List Lf)} (h : OwnR w B v l) : RdRs w v l := by
  obtain ⟨xs, h1, h2⟩ := h
  exact RdRs.of_own h1 rfl (fun j r hr => by
    obtain ⟨x, h3, h4⟩ := h2 j r hr
    exact ⟨x, h3, RdX.of_own h4⟩)
theorem OwnR.nil (w : World) (B : Nat) : OwnR w B (.slice none 0 0) [] := ⟨[], World.ownsRow_nil _ _ _ _, fun j r h => by simp at h⟩
theorem OwnR.on {w w' : World} {B : Nat} {v : Value} {l : List (List Lf)} (h : OwnR w B v l) (hb : Below w.heap.size w w') : OwnR w' B v l := by
  obtain ⟨xs, h1, h2⟩ := h
  refine ⟨xs, own_on h1 hb, fun j r hr => ?_⟩
  obtain ⟨x, h3, h4⟩ := h2 j r hr
  exact ⟨x, h3, own_on h4 hb⟩
theorem OwnR.slice {w : World} {B : Nat} {v : Value} {l : List (List Lf)} (h : OwnR w B v l) : ∃ a c, v = .slice a l.length c := by
  obtain ⟨xs, h1, _⟩ := h
  exact own_slice h1
theorem types_far {w : World} {B B' n n' s s' : Nat} {e e' : TypeId} {v v' : Value} {xs xs' : List Value} (h : w.ownsRow B e s v n xs) (h' : w.ownsRow B' e' s' v' n' xs') (hne : e ≠ e') {g : Nat} (hg : v.ownBlock = some g) : v'.ownBlock ≠ some g := by
  intro k
  obtain ⟨c1, h1⟩ := own_cells h hg
  obtain ⟨c2, h2⟩ := own_cells h' k
  rw [h1] at h2
  cases h2
  exact hne rfl
theorem info33 : (Try.prog.info? 33).map (fun i => (i.zero, i.size, i.bytes)) = some (some (.slice none 0 0), 1, 24) := by kernel_rfl

set_option maxRecDepth 100000 in
set_option maxHeartbeats 4000000 in
theorem own_any (l : List (List Lf)) (v : Value) (w : World) (hv : RdRs w v l) : Calls Try.prog 9 #[v] w fun e w' => ∃ v', e = .returned v' ∧ OwnR w' w.heap.size v' (cutR l) ∧ Below w.heap.size w w' := by
  have HV := Lib.hid hv
  obtain ⟨a, c, rfl, hlc, hcm, _⟩ := hv
  obtain ⟨n0, hn0⟩ : ∃ n, n = l.length := ⟨_, rfl⟩
  rw [← hn0] at HV hlc ⊢
  obtain ⟨n, hn⟩ : ∃ n, n = min n0 17 := ⟨_, rfl⟩
  have p1 : min (n0 : Int) 17 = (n : Int) := by omega
  have p2 : (0 : Int) ≤ (n : Int) := by omega
  have p3 : (n : Int) ≤ (c : Int) := by omega
  have h17 : n ≤ 17 := by omega
  have hnn : n ≤ n0 := by omega
  have HCL : Hid ((cutR l).length = n) := Lib.hid (by unfold cutR; rw [List.length_map, List.length_take]; omega)
  have HCA : Hid (∀ (k : Nat) (r : List Lf), k < n → l[k]? = some r → (cutR l)[k]? = some (r.take 17)) := Lib.hid (fun k r hk hr => by
    unfold cutR
    rw [List.getElem?_map, List.getElem?_take_of_lt (by omega), hr]
    rfl)
  have HN0 := Lib.hid hn0
  unfold maxLen at hcm
  clear hn hn0
  obtain ⟨i0, hi, hz0, hz1, hz2⟩ := info_parts info33
  go_enter Try.func9, Try.ntmps9
  go_wp2_with fail
  go_loopw [3, 12] (fun out i W => ∃ k : Nat, k ≤ n ∧ i = .int .i64 (k : Int) ∧ Hid (OwnR W w.heap.size out ((cutR l).take k)) ∧ Hid (Below w.heap.size w W)) (fun _ i _ => n - (Lib.intOf i).toNat)
  case atStart => exact ⟨0, Nat.zero_le _, rfl, Lib.hid (OwnR.nil _ _), Lib.hid (Below.refl _ _)⟩
  case round =>
    obtain ⟨k, hk, rfl, HO, HB⟩ := hrel
    obtain ⟨wq, hwq⟩ : ∃ q, q = wr := ⟨_, rfl⟩
    rw [← hwq] at HO HB ⊢
    clear hwq
    by_cases hlt : k < n
    · obtain ⟨r, hr⟩ : ∃ r, l[k]? = some r := ⟨_, List.getElem?_eq_getElem (by rw [← HN0.out]; omega)⟩
      obtain ⟨a', c', e, z1, z2, hc⟩ := HV.out.on HB.out
      clear z1 z2
      rw [← HN0.out] at e
      cases e
      obtain ⟨g, o, rfl, hg, hd⟩ := hc (by rw [← HN0.out]; omega)
      obtain ⟨x, q0, hl⟩ := hd k r hr
      obtain ⟨a2, c2, rfl, hlc2, hcm2, _⟩ := id hl
      have k1 : (k : Int) < (n : Int) := by omega
      have k1' : (k : Int) < (n0 : Int) := by omega
      have k2 : (0 : Int) ≤ (k : Int) := by omega
      have k4 : IntKind.i64.wrap ((k : Int) + 1) = (k : Int) + 1 := IntWalk.i64_in _ (by omega)
      obtain ⟨m0, hm0⟩ : ∃ m, m = r.length := ⟨_, rfl⟩
      obtain ⟨m, hm⟩ : ∃ m, m = min m0 17 := ⟨_, rfl⟩
      rw [← hm0] at q0 hl hlc2
      unfold maxLen at hcm2
      have m1 : min (m0 : Int) 17 = (m : Int) := by omega
      have m2 : (0 : Int) ≤ (m : Int) := by omega
      have m3 : (m : Int) ≤ (c2 : Int) := by omega
      have et : r.take 17 = r.take m := by
        rw [List.take_eq_take_iff]
        omega
      have HLT := Lib.hid (RdL.take hm0 hl m (by omega))
      have HTL : Hid ((r.take m).length = m) := Lib.hid (by rw [List.length_take]; omega)
      have HCLN := Lib.hid (lclone_any (r.take m) _ wq HLT.out (by rw [HTL.out]; omega))
      have HCK : Hid ((cutR l).take (k + 1) = (cutR l).take k ++ [r.take m]) := Lib.hid (by
        rw [List.take_add_one, HCA.out k r hlt hr, et]
        rfl)
      obtain ⟨av, cv, rfl⟩ := HO.out.slice
      have HTK : Hid (((cutR l).take k).length = k) := Lib.hid (by rw [List.length_take, HCL.out]; omega)
      rw [HTK.out] at HO ⊢
      rw [HTL.out] at HCLN
      clear hc hd hr hl hm hm0 et HCA HLT
      go_wp2_with (first
        | (go_at_call 22; refine HCLN.out.mono ?_; rintro e w5 ⟨x', rfl, ho, hb⟩; have HB5 := Lib.hid hb; have HX5 := Lib.hid ho; obtain ⟨a5, c5, rfl⟩ := own_slice ho
           obtain ⟨w6, hw6⟩ : ∃ q, q = w5.alloc (.cells #[.slice a5 m c5] 33) := ⟨_, rfl⟩
           have hb6 : Below w5.heap.size w5 w6 := by rw [hw6]; exact below_new _ _
           have HO6 := Lib.hid ((HO.out.on hb).on hb6)
           have HX6 := Lib.hid (own_on HX5.out hb6)
           have HNW : Hid (∀ (j : Nat) (u : Value), [Value.slice a5 m c5][j]? = some u → w6.cell? ((⟨w5.heap.size, 0, none⟩ : Addr).add j) = some u) := Lib.hid (fun j u hu => by
             rw [addr_add, Nat.zero_add]
             have hbx : Box w6 w5.heap.size 33 #[.slice a5 m c5] := by rw [hw6]; exact heap_alloc_new w5 _
             exact hbx.cell (by simpa using hu))
           have HB6 : Hid (Below w.heap.size w w6) := Lib.hid (bch (bch HB.out hb) hb6)
           obtain ⟨xs, hxs, hrows⟩ := HO6.out
           have hxs' : w6.ownsRow w.heap.size 33 1 (.slice av k cv) k xs := by rw [HTK.out] at hxs; exact hxs
           have HXS := Lib.hid hxs'
           have HFIN : Hid (∀ v' w', w'.ownsRow w.heap.size 33 1 v' (k + 1) (xs ++ [Value.slice a5 m c5]) → w6.grownBy w' (Value.slice av k cv).ownBlock → OwnR w' w.heap.size v' ((cutR l).take (k + 1)) ∧ Below w.heap.size w w') := Lib.hid (fun v' w' j1 j2 => by
             refine ⟨⟨xs ++ [Value.slice a5 m c5], ?_, fun j r' hr' => ?_⟩, HB6.out.grown j2 HB6.out.size (fun q hq => (own_in HXS.out hq).1)⟩
             · rw [HCK.out, List.length_append, HTK.out]; exact j1
             · have hlx : xs.length = k := by have := HXS.out.1; omega
               rw [HCK.out] at hr'
               rcases Nat.lt_or_ge j k with hj | hj
               · rw [List.getElem?_append_left (by rw [HTK.out]; exact hj)] at hr'
                 obtain ⟨y, hy1, hy2⟩ := hrows j r' hr'
                 exact ⟨y, by rw [List.getElem?_append_left (by omega)]; exact hy1, own_grown hy2 j2 (fun q e k' => types_far hy2 HXS.out (by decide) k' e)⟩
               · rw [List.getElem?_append_right (by rw [HTK.out]; exact hj), HTK.out] at hr'
                 have hj2 : j - k = 0 := by
                   have := (List.getElem?_eq_some_iff.1 hr').1
                   simp at this
                   omega
                 rw [hj2] at hr'
                 cases hr'
                 refine ⟨.slice a5 m c5, by rw [List.getElem?_append_right (by omega), hlx, hj2]; rfl, ?_⟩
                 have h6 := HX6.out
                 rw [HTL.out]
                 refine own_low (own_grown h6 j2 (fun q e k' => types_far h6 HXS.out (by decide) k' e)) HB.out.size)
           have HW6 := Lib.hid hw6
           clear ho hb hw6 hb6 hxs hrows hxs')
        | (at_builtin; go_loud (rw [← HW6.out]; refine wpList_append_own_at _ rfl _ _ 25 rfl w.heap.size 33 i0 (.slice none 0 0) 1 24 Try.underlying25 hi hz0 hz1 hz2 rfl (by decide) _ _ _ rfl HXS.out ⟨w5.heap.size, 0, none⟩ 1 1 [Value.slice a5 m c5] rfl rfl HNW.out (by simp [Value.oneCell']) (by unfold maxLen; omega) (by omega) (HB6.out.size) ?_; intro v' w7 hown hgrow _ hat; have HF7 := Lib.hid (HFIN.out v' w7 hown hgrow); clear hown hgrow hat; refine Hid.out ?_)))
      refine Lib.hid ?_
      go_wp2_with fail
      go_roundw
      case rel => exact ⟨k + 1, by omega, by go_num, Lib.hid HF7.out.1, Lib.hid HF7.out.2⟩
      case measure => simp [Lib.intOf]; omega
    · have k1 : ¬ ((k : Int) < (n : Int)) := by omega
      have HE : Hid ((cutR l).take k = cutR l) := Lib.hid (List.take_of_length_le (by rw [HCL.out]; omega))
      rw [HE.out] at HO
      go_wp2_with fail
      go_ret
      exact ⟨_, rfl, HO.out, HB.out⟩

theorem nan_any (x : Int) (w : World) : Calls Try.prog 40 #[.int .i64 x] w fun e w' => e = .returned (.bool false) ∧ w = w' := by
  have t : (x != x) = false := by simp
  go_enter Try.func40, Try.ntmps40
  go_wp2
  go_ret
  exact ⟨rfl, rfl⟩
theorem less_any (x y : Int) (w : World) : Calls Try.prog 26 #[.int .i64 x, .int .i64 y] w fun e w' => e = .returned (.bool (decide (x < y))) ∧ w = w' := by
  go_enter Try.func26, Try.ntmps26
  go_wp2_with (go_at_call 40; refine (nan_any _ _).mono ?_; rintro e w' ⟨rfl, rfl⟩)
  go_ret
  exact ⟨rfl, rfl⟩
set_option maxRecDepth 100000 in
set_option maxHeartbeats 4000000 in
theorem issorted_any (l : List Int) (v : Value) (w : World) (hv : Rd w v (intsV l)) (hs : l.Pairwise (· ≤ ·)) : Calls Try.prog 14 #[v] w fun e w' => e = .returned (.bool true) ∧ Below w.heap.size w w' := by
  have HV := Lib.hid hv
  have hsh := hv.short
  obtain ⟨a, c, rfl, hlc, hcm, _⟩ := hv
  rw [intsV_len] at hsh hlc
  rw [intsV_len] at HV ⊢
  have HS := Lib.hid hs
  obtain ⟨n, hn⟩ : ∃ n, n = l.length := ⟨_, rfl⟩
  rw [← hn] at HV hsh hlc ⊢
  have HN := Lib.hid hn
  unfold maxLen at hcm
  clear hn hs
  have n1 : IntKind.i64.wrap ((n : Int) - 1) = (n : Int) - 1 := IntWalk.i64_in _ (by omega)
  go_enter Try.func14, Try.ntmps14
  go_wp2_with fail
  go_loopw [3] (fun i W => ∃ k : Int, k < n ∧ -1 ≤ k ∧ i = .int .i64 k ∧ Hid (Below w.heap.size w W)) (fun i _ => (Lib.intOf i + 1).toNat)
  case atStart => exact ⟨(n : Int) - 1, by omega, by omega, rfl, Lib.hid (Below.refl _ _)⟩
  case round =>
    obtain ⟨k, hk1, hk2, rfl, HB⟩ := hrel
    obtain ⟨wq, hwq⟩ : ∃ q, q = wr := ⟨_, rfl⟩
    rw [← hwq] at HB ⊢
    clear hwq
    by_cases h0 : 0 < k
    · obtain ⟨j, rfl⟩ : ∃ j : Nat, k = (j : Int) + 1 := ⟨(k - 1).toNat, by omega⟩
      have hj1 : j + 1 < l.length := by rw [← HN.out]; omega
      have t0 : decide ((j : Int) + 1 > 0) = true := decide_eq_true (by omega)
      obtain ⟨g, o, rfl, c1⟩ := int_at' (HV.out.on HB.out) (j + 1) hj1
      obtain ⟨g', o', e, c0⟩ := int_at' (HV.out.on HB.out) j (by omega)
      cases e
      have hle := List.pairwise_iff_getElem.1 HS.out j (j + 1) (by omega) hj1 (by omega)
      obtain ⟨x1, hx1⟩ : ∃ z, z = l[j + 1] := ⟨_, rfl⟩
      obtain ⟨x0, hx0⟩ : ∃ z, z = l[j] := ⟨_, rfl⟩
      rw [← hx1] at c1 hle
      rw [← hx0] at c0 hle
      have t1 : decide (x1 < x0) = false := decide_eq_false (by omega)
      have j1 : (0 : Int) ≤ (j : Int) + 1 := by omega
      have j2 : (j : Int) + 1 < (n : Int) := by omega
      have j3 : IntKind.i64.wrap ((j : Int) + 1 - 1) = (j : Int) := by rw [IntWalk.i64_in _ (by omega)]; omega
      have j3' : IntKind.i64.wrap (j : Int) = (j : Int) := IntWalk.i64_in _ (by omega)
      have j4 : (0 : Int) ≤ (j : Int) := by omega
      have j5 : (j : Int) < (n : Int) := by omega
      have j6 : ((j : Int) + 1).toNat = j + 1 := by omega
      have HBD : Hid (∀ w3, w3 = wq.drew → Below w.heap.size w w3) := Lib.hid (fun w3 h => by rw [h]; exact below_drewN HB.out 1)
      clear hx1 hx0 hle
      go_upto_region 4 with fail
      go_still_tail 9, (by kernel_rfl)
      go_wp2_with (go_at_call 26; refine (less_any x1 x0 _).mono ?_; rintro e w3 ⟨rfl, rfl⟩; rw [t1])
      go_roundw
      case rel => exact ⟨(j : Int), by omega, by omega, by go_num, Lib.hid (HBD.out _ rfl)⟩
      case measure => simp [Lib.intOf]; omega
    · have t0 : decide (k > 0) = false := decide_eq_false (by omega)
      go_wp2_with fail
      go_ret
      exact ⟨rfl, HB.out⟩
end Go.Proofs.Ytgmplpfbhcdofaa
