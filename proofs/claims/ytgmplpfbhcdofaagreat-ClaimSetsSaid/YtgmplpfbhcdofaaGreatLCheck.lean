/- Proved here: CheckLeaves of package pack: which rows of leaves may be. -/
import Derived.Test.YtgmplpfbhcdofaaGreatLPack
namespace Go.Proofs.YtgmplpfbhcdofaaGreat
open Go.RowKit Go.Shelf
attribute [local go_sem] Oper.semAt_some

set_option maxRecDepth 100000 in
set_option maxHeartbeats 4000000 in
theorem vleaves_any (l : List Lf) (v : Value) (w : World) (hv : RdL w v l) : Calls Tryz.prog 85 #[v] w fun e w' => e = .returned (.bool (okLs l)) ∧ Below w.heap.size w w' := by
  have HV := Lib.hid hv
  obtain ⟨a, c, rfl, hlc, hcm, hcc⟩ := hv.open
  obtain ⟨n, hn⟩ : ∃ n, n = l.length := ⟨_, rfl⟩
  rw [← hn] at HV hlc ⊢
  have HN := Lib.hid hn
  clear hv hn hcc
  unfold maxLen at hcm
  by_cases h16 : n ≤ 16
  · have t16 : decide ((n : Int) > 16) = false := decide_eq_false (by omega)
    go_enter Tryz.func85, Tryz.ntmps85
    go_wp2_with fail
    clear t16
    go_loopw [10] (fun i W => ∃ k : Nat, k ≤ n ∧ i = .int .i64 (k : Int) ∧ Hid (∀ (j : Nat) (x : Lf), j < k → l[j]? = some x → validLf x = true ∧ inDirB x l = true) ∧ Hid (Below w.heap.size w W)) (fun i _ => n - (Lib.intOf i).toNat)
    case atStart => exact ⟨0, Nat.zero_le _, rfl, Lib.hid (fun j x h => absurd h (Nat.not_lt_zero _)), Lib.hid (Below.refl _ _)⟩
    case round =>
      obtain ⟨k, hk, rfl, HLo, HB⟩ := hrel
      obtain ⟨wq, hwq⟩ : ∃ q, q = wr := ⟨_, rfl⟩
      rw [← hwq] at HB ⊢
      clear hwq
      by_cases hlt : k < n
      · obtain ⟨x, hx⟩ : ∃ x, l[k]? = some x := ⟨_, List.getElem?_eq_getElem (by rw [← HN.out]; exact hlt)⟩
        have HVQ := Lib.hid (HV.out.on HB.out)
        obtain ⟨a', c', e, z1, z2, hc⟩ := HVQ.out.open
        clear z1 z2
        rw [← HN.out] at e
        cases e
        obtain ⟨g, o, rfl, hg, hd⟩ := hc (by rw [← HN.out]; omega)
        obtain ⟨q0, q1, q2⟩ := hd k x hx
        have k1 : (k : Int) < (n : Int) := by omega
        have k2 : (0 : Int) ≤ (k : Int) := by omega
        have k4 : IntKind.i64.wrap ((k : Int) + 1) = (k : Int) + 1 := IntWalk.i64_in _ (by omega)
        obtain ⟨w5, hw5⟩ : ∃ q, q = wq.alloc (.cells #[.string ⟨x.p.toArray⟩, .bool x.dir, .string ⟨x.d.toArray⟩] 63) := ⟨_, rfl⟩
        have X5 : Hid (Box w5 wq.heap.size 63 x.arr) := Lib.hid (by rw [hw5]; exact box_new)
        have hb5 : Below wq.heap.size wq w5 := by rw [hw5]; exact below_new _ _
        have HB5 : Hid (Below w.heap.size w w5) := Lib.hid (bch HB.out hb5)
        have HX := Lib.hid hx
        clear hc hd hx hb5
        go_upto_region 6 with fail
        obtain ⟨b7, hb7⟩ : ∃ q, q = wq.heap.size := ⟨_, rfl⟩
        rw [← hb7] at X5 ⊢
        rw [← hw5]
        clear hw5 hb7 q0 q1 q2
        have d0 : w5.cell? ⟨b7, 0, none⟩ = some (.string ⟨x.p.toArray⟩) := X5.out.cell (k := 0) rfl
        have d1 : w5.cell? ⟨b7, 1, none⟩ = some (.bool x.dir) := X5.out.cell (k := 1) rfl
        have d2 : w5.cell? ⟨b7, 2, none⟩ = some (.string ⟨x.d.toArray⟩) := X5.out.cell (k := 2) rfl
        cases h1 : validLf x with
        | false =>
          have HR : Hid (okLs l = false) := Lib.hid (okLs_no fun h => by
            have := (h.2.1 x (List.mem_of_getElem? HX.out)).1
            rw [h1] at this; cases this)
          have HV1 := Lib.hid h1
          clear h1
          go_wp2_with (go_at_call 116; refine (leaf_any x _).mono ?_; rintro e w6 ⟨rfl, hb⟩; have HB6 := Lib.hid (bch HB5.out hb); rw [HV1.out]; clear hb)
          go_ret
          exact ⟨by rw [HR.out]; rfl, HB6.out⟩
        | true =>
          have HV1 := Lib.hid h1
          have HPX : Hid (x.p.length ≤ 140737488355328) := Lib.hid (by have := ((validLf_iff x).1 h1).2.1; omega)
          have HLL : Hid (l.length ≤ 1000000) := Lib.hid (by rw [← HN.out]; omega)
          clear h1
          cases h2 : inDirB x l with
          | false =>
            have HR : Hid (okLs l = false) := Lib.hid (okLs_no fun h => by
              have := (h.2.1 x (List.mem_of_getElem? HX.out)).2
              rw [h2] at this; cases this)
            have HV2 := Lib.hid h2
            clear h2
            go_wp2_with (first
              | (go_at_call 116; refine (leaf_any x _).mono ?_; rintro e w6 ⟨rfl, hb⟩; have HB6 := Lib.hid (bch HB5.out hb); have X6 := Lib.hid (X5.out.on hb); rw [HV1.out]; clear hb d0 d1 d2; have d0 : w6.cell? ⟨b7, 0, none⟩ = some (.string ⟨x.p.toArray⟩) := X6.out.cell (k := 0) rfl; have d1 : w6.cell? ⟨b7, 1, none⟩ = some (.bool x.dir) := X6.out.cell (k := 1) rfl; have d2 : w6.cell? ⟨b7, 2, none⟩ = some (.string ⟨x.d.toArray⟩) := X6.out.cell (k := 2) rfl)
              | (go_at_call 117; refine (indir_any x l _ _ (HV.out.on HB6.out) HLL.out HPX.out).mono ?_; rintro e w8 ⟨rfl, hb⟩; have HB8 := Lib.hid (bch HB6.out hb); rw [HV2.out]; clear hb))
            go_ret
            exact ⟨by rw [HR.out]; rfl, HB8.out⟩
          | true =>
            have HLo2 : Hid (∀ (j : Nat) (y : Lf), j < k + 1 → l[j]? = some y → validLf y = true ∧ inDirB y l = true) := Lib.hid (fun j y hj hy => by
              rcases Nat.lt_or_ge j k with h | h
              · exact HLo.out j y h hy
              · obtain rfl : j = k := by omega
                rw [HX.out] at hy; cases hy
                exact ⟨HV1.out, h2⟩)
            have HV2 := Lib.hid h2
            clear h2
            go_wp2_with (first
              | (go_at_call 116; refine (leaf_any x _).mono ?_; rintro e w6 ⟨rfl, hb⟩; have HB6 := Lib.hid (bch HB5.out hb); have X6 := Lib.hid (X5.out.on hb); rw [HV1.out]; clear hb d0 d1 d2; have d0 : w6.cell? ⟨b7, 0, none⟩ = some (.string ⟨x.p.toArray⟩) := X6.out.cell (k := 0) rfl; have d1 : w6.cell? ⟨b7, 1, none⟩ = some (.bool x.dir) := X6.out.cell (k := 1) rfl; have d2 : w6.cell? ⟨b7, 2, none⟩ = some (.string ⟨x.d.toArray⟩) := X6.out.cell (k := 2) rfl)
              | (go_at_call 117; refine (indir_any x l _ _ (HV.out.on HB6.out) HLL.out HPX.out).mono ?_; rintro e w8 ⟨rfl, hb⟩; have HB8 := Lib.hid (bch HB6.out hb); rw [HV2.out]; clear hb))
            go_roundw
            case rel => exact ⟨k + 1, by omega, by go_num, HLo2, HB8⟩
            case measure => simp [Lib.intOf]; omega
      · have k1 : ¬ ((k : Int) < (n : Int)) := by omega
        have HALL : Hid (∀ x ∈ l, validLf x = true ∧ inDirB x l = true) := Lib.hid (fun x hx => by
          obtain ⟨j, hj⟩ := List.mem_iff_getElem?.1 hx
          exact HLo.out j x (by have := (List.getElem?_eq_some_iff.1 hj).1; rw [← HN.out] at this; omega) hj)
        have HR : Hid (okLs l = riseB l) := Lib.hid (by
          rw [Bool.eq_iff_iff, okLs_iff, riseB_iff]
          exact ⟨fun h => h.2.2, fun h => ⟨by rw [← HN.out]; exact h16, HALL.out, h⟩⟩)
        have HC : Hid (∀ W : World, RdL W (.slice a n c) l → Calls Tryz.prog 118 #[.slice a n c, .func (.func 119) #[] #[]] W fun e w' => e = .returned (.bool (okLs l)) ∧ Below W.heap.size W w') := Lib.hid (fun W hW => by
          rw [HR.out]
          exact rise_any l _ W hW (by rw [← HN.out]; omega) (fun x hx => by
            have := ((validLf_iff x).1 (HALL.out x hx).1).2.1
            omega))
        go_wp2_with (go_at_call 118; refine (HC.out _ (HV.out.on HB.out)).mono ?_; rintro e w6 ⟨rfl, hb⟩; have HB6 := Lib.hid (bch HB.out hb); clear hb)
        go_ret
        exact ⟨rfl, HB6.out⟩
  · have t16 : decide ((n : Int) > 16) = true := decide_eq_true (by omega)
    have HR : Hid (okLs l = false) := Lib.hid (okLs_no fun h => h16 (by rw [HN.out]; exact h.1))
    clear h16
    go_enter Tryz.func85, Tryz.ntmps85
    go_wp2
    go_ret
    exact ⟨by rw [HR.out]; rfl, Below.refl _ _⟩

theorem unless_any (b : Bool) (w : World) : Calls Tryz.prog 84 #[.bool b] w fun e w' => e = .returned (.int .i64 (if b = true then 0 else 190)) ∧ w = w' := by
  cases b
  all_goals
    go_enter Tryz.func84, Tryz.ntmps84
    go_wp2
    go_ret
    exact ⟨rfl, rfl⟩
noncomputable def chkLs (l : List Lf) : Int := if okLs l = true then 0 else 190
theorem chkls_any (l : List Lf) (v : Value) (w : World) (hv : RdL w v l) : Calls Tryz.prog 62 #[v] w fun e w' => e = .returned (.int .i64 (chkLs l)) ∧ Below w.heap.size w w' := by
  have HC := Lib.hid (vleaves_any l v w hv)
  obtain ⟨a, c, rfl, _, _, _⟩ := hv.open
  obtain ⟨z, hz⟩ : ∃ z, z = chkLs l := ⟨_, rfl⟩
  have HU : Hid (∀ W : World, Calls Tryz.prog 84 #[.bool (okLs l)] W fun e w' => e = .returned (.int .i64 z) ∧ W = w') := Lib.hid (fun W => by rw [hz]; exact unless_any _ W)
  rw [← hz]
  clear hv hz
  go_enter Tryz.func62, Tryz.ntmps62
  go_wp2_with (first
    | (go_at_call 85; refine HC.out.mono ?_; rintro e w6 ⟨rfl, hb⟩; have HB6 := Lib.hid hb; clear hb)
    | (go_at_call 84; refine (HU.out _).mono ?_; rintro e w' ⟨rfl, rfl⟩))
  go_ret
  exact ⟨rfl, HB6.out⟩
end Go.Proofs.YtgmplpfbhcdofaaGreat
