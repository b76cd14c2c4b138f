/- Proved here: RelocLeaves of the laws of package reloc answers true. | Proved here: RightLeaves of puncheonref09: which rows of leaves may be. | Proved here: Leaves of puncheonref14: leaf by leaf, where each may be moved. | Proved here: == and != of leaves, slices.Equal of two rows of them. -/
import Derived.Test.YtophihnjlodmjaaDoorML1
import Derived.Test.YtophihnjlodmjaaDoorMP2
import Derived.Test.YtophihnjlodmjaaDoorRefM
import Derived.Laws.StructEq
import Derived.RegionTactic
namespace Go.Proofs.YtophihnjlodmjaaDoor
open Go.RowKit Go.Shelf
attribute [local go_sem] Oper.semAt_some

theorem rfind_lit (l : List Lf) (v : Value) (p : Bs) (w : World) (hv : RdL w v l) (hl : l.length ≤ 1000000) {y : Lf} {b : Bool} (hy : findL l p = (y, b)) : Calls Tryd.prog 40 #[v, .string ⟨p.toArray⟩] w fun e w' => e = .returned (.tuple #[.agg #[.string ⟨y.p.toArray⟩, .bool y.dir, .string ⟨y.d.toArray⟩], .bool b]) ∧ Below w.heap.size w w' :=
  (rfind_any l v ⟨p.toArray⟩ w hv hl).mono (by
    rintro e w' ⟨h, hb⟩
    refine ⟨?_, hb⟩
    rw [h]
    show Ending.returned (.tuple #[.agg (findL l p).1.arr, .bool (findL l p).2]) = _
    rw [hy]; rfl)
/-- What has been looked at so far. -/
def SoFar (l : List Lf) (k : Nat) : Prop := (∀ (j : Nat) (x : Lf), j < k → l[j]? = some x → validLf x = true ∧ inDirB x l = true) ∧ ∀ (j : Nat) (x y : Lf), j + 1 < k → l[j]? = some x → l[j + 1]? = some y → Pt.cmpL x.p y.p < 0
theorem SoFar.next {l : List Lf} {k : Nat} (h : SoFar l k) {x : Lf} (hx : l[k]? = some x) (h1 : validLf x = true) (h2 : inDirB x l = true) (h3 : ∀ (j : Nat) (y : Lf), j + 1 = k → l[j]? = some y → Pt.cmpL y.p x.p < 0) : SoFar l (k + 1) := by
  refine ⟨fun j y hj hy => ?_, fun j y z hj hy hz => ?_⟩
  · rcases Nat.lt_or_ge j k with h' | h'
    · exact h.1 j y h' hy
    · obtain rfl : j = k := by omega
      rw [hx] at hy; cases hy
      exact ⟨h1, h2⟩
  · rcases Nat.lt_or_ge (j + 1) k with h' | h'
    · exact h.2 j y z h' hy hz
    · have e : j + 1 = k := by omega
      subst e
      rw [hx] at hz; cases hz
      exact h3 j y rfl hy
theorem SoFar.all {l : List Lf} (h : SoFar l l.length) : okLs l = decide (l.length ≤ 16) := by
  have hr : OkLs l ↔ l.length ≤ 16 := by
    refine ⟨fun k => k.1, fun k => ⟨k, fun x hx => ?_, fun i a b ha hb => h.2 i a b (List.getElem?_eq_some_iff.1 hb).1 ha hb⟩⟩
    obtain ⟨j, hj⟩ := List.mem_iff_getElem?.1 hx
    exact h.1 j x (List.getElem?_eq_some_iff.1 hj).1 hj
  rw [Bool.eq_iff_iff, okLs_iff, hr, decide_eq_true_iff]

set_option maxRecDepth 100000 in
set_option maxHeartbeats 8000000 in
theorem rrightls_any (l : List Lf) (v : Value) (w : World) (hv : RdL w v l) (hl : l.length ≤ 1000000) (hp : ∀ x ∈ l, x.p.length ≤ 2000000) : Calls Tryd.prog 22 #[v] w fun e w' => e = .returned (.bool (okLs l)) ∧ Below w.heap.size w w' := by
  have HV := Lib.hid hv
  have HP := Lib.hid hp
  have HLL := Lib.hid hl
  obtain ⟨a, c, rfl, hlc, hcm, hcc⟩ := hv.open
  obtain ⟨n, hn⟩ : ∃ n, n = l.length := ⟨_, rfl⟩
  rw [← hn] at HV hlc hl ⊢
  have HN := Lib.hid hn
  clear hv hn hcc hp
  unfold maxLen at hcm
  go_enter Tryd.func22, Tryd.ntmps22
  go_wp2_with fail
  go_loopw [10] (fun i W => ∃ k : Nat, k ≤ n ∧ i = .int .i64 (k : Int) ∧ Hid (SoFar l k) ∧ Hid (Below w.heap.size w W)) (fun i _ => n - (Lib.intOf i).toNat)
  case atStart => exact ⟨0, Nat.zero_le _, rfl, Lib.hid ⟨fun j x h => absurd h (Nat.not_lt_zero _), fun j x y h => absurd h (Nat.not_lt_zero _)⟩, Lib.hid (Below.refl _ _)⟩
  case round =>
    obtain ⟨k, hk, rfl, HLo, HB⟩ := hrel
    obtain ⟨wq, hwq⟩ : ∃ q, q = wr := ⟨_, rfl⟩
    rw [← hwq] at HB ⊢
    clear hwq
    by_cases hlt : k < n
    · obtain ⟨x, hx⟩ : ∃ x, l[k]? = some x := ⟨_, List.getElem?_eq_getElem (by rw [← HN.out]; exact hlt)⟩
      have HVQ := Lib.hid (HV.out.on HB.out)
      obtain ⟨a', c', e, z1, z2, hc⟩ := HVQ.out.open
      clear z1 z2
      rw [← HN.out] at e
      cases e
      obtain ⟨g, o, rfl, hg, hd⟩ := hc (by rw [← HN.out]; omega)
      obtain ⟨q0, q1, q2⟩ := hd k x hx
      have k1 : (k : Int) < (n : Int) := by omega
      have k2 : (0 : Int) ≤ (k : Int) := by omega
      have k4 : IntKind.i64.wrap ((k : Int) + 1) = (k : Int) + 1 := IntWalk.i64_in _ (by omega)
      obtain ⟨w5, hw5⟩ : ∃ q, q = wq.alloc (.cells #[.string ⟨x.p.toArray⟩, .bool x.dir, .string ⟨x.d.toArray⟩] 41) := ⟨_, rfl⟩
      have X5 : Hid (Box w5 wq.heap.size 41 x.arr) := Lib.hid (by rw [hw5]; exact box_new)
      have hb5 : Below wq.heap.size wq w5 := by rw [hw5]; exact below_new _ _
      have HB5 : Hid (Below w.heap.size w w5) := Lib.hid (bch HB.out hb5)
      have HX := Lib.hid hx
      have HPX := Lib.hid (HP.out x (List.mem_of_getElem? hx))
      have HNO : Hid (validLf x = false → okLs l = false) := Lib.hid (fun h => okLs_no fun k => by
        have := (k.2.1 x (List.mem_of_getElem? HX.out)).1
        rw [h] at this; cases this)
      have HNO2 : Hid (inDirB x l = false → okLs l = false) := Lib.hid (fun h => okLs_no fun k => by
        have := (k.2.1 x (List.mem_of_getElem? HX.out)).2
        rw [h] at this; cases this)
      obtain ⟨vb, hvb⟩ : ∃ b, b = Pt.validB x.p := ⟨_, rfl⟩
      have HRI : Hid (∀ W : World, Calls Tryd.prog 37 #[.string ⟨x.p.toArray⟩] W fun e w' => e = .returned (.bool vb) ∧ Below W.heap.size W w') := Lib.hid (fun W => by rw [hvb]; exact Pt.rright_any ⟨x.p.toArray⟩ HPX.out W)
      have HQ5 := Lib.hid hb5
      clear hc hx hb5
      go_upto_region 4 with fail
      obtain ⟨b7, hb7⟩ : ∃ q, q = wq.heap.size := ⟨_, rfl⟩
      rw [← hb7] at X5 ⊢
      rw [← hw5]
      clear hw5 hb7 q0 q1 q2
      have d0 : w5.cell? ⟨b7, 0, none⟩ = some (.string ⟨x.p.toArray⟩) := X5.out.cell (k := 0) rfl
      have d1 : w5.cell? ⟨b7, 1, none⟩ = some (.bool x.dir) := X5.out.cell (k := 1) rfl
      have d2 : w5.cell? ⟨b7, 2, none⟩ = some (.string ⟨x.d.toArray⟩) := X5.out.cell (k := 2) rfl
      cases hb : vb with
      | false =>
        have HRI2 := HRI
        have hvv : validLf x = false := by unfold validLf; rw [← hvb, hb]; simp
        have HR : Hid (okLs l = false) := Lib.hid (HNO.out hvv)
        clear hvv hvb
        subst hb
        go_wp2_with (go_at_call 37; refine (HRI.out _).mono ?_; rintro e w6 ⟨rfl, hb⟩; have HB6 := Lib.hid (bch HB5.out hb); have HQ6 := Lib.hid (bch HQ5.out hb); have X6 := Lib.hid (X5.out.on hb); clear hb d0 d1 d2; have d0 : w6.cell? ⟨b7, 0, none⟩ = some (.string ⟨x.p.toArray⟩) := X6.out.cell (k := 0) rfl; have d1 : w6.cell? ⟨b7, 1, none⟩ = some (.bool x.dir) := X6.out.cell (k := 1) rfl; have d2 : w6.cell? ⟨b7, 2, none⟩ = some (.string ⟨x.d.toArray⟩) := X6.out.cell (k := 2) rfl)
        go_ret
        exact ⟨by rw [HR.out]; rfl, HB6.out⟩
      | true =>
        subst hb
        by_cases hr : x.p = [47]
        · have t1 : (x.p == [47]) = true := by simp [hr]
          have HR : Hid (okLs l = false) := Lib.hid (HNO.out (by unfold validLf; simp [hr]))
          clear hr hvb
          go_wp2_with (go_at_call 37; refine (HRI.out _).mono ?_; rintro e w6 ⟨rfl, hb⟩; have HB6 := Lib.hid (bch HB5.out hb); have HQ6 := Lib.hid (bch HQ5.out hb); have X6 := Lib.hid (X5.out.on hb); clear hb d0 d1 d2; have d0 : w6.cell? ⟨b7, 0, none⟩ = some (.string ⟨x.p.toArray⟩) := X6.out.cell (k := 0) rfl; have d1 : w6.cell? ⟨b7, 1, none⟩ = some (.bool x.dir) := X6.out.cell (k := 1) rfl; have d2 : w6.cell? ⟨b7, 2, none⟩ = some (.string ⟨x.d.toArray⟩) := X6.out.cell (k := 2) rfl)
          go_ret
          exact ⟨by rw [HR.out]; rfl, HB6.out⟩
        · have t1 : (x.p == [47]) = false := by simp [hr]
          by_cases hl6 : x.p.length ≤ 60
          · have t2 : decide ((x.p.length : Int) > 60) = false := decide_eq_false (by omega)
            by_cases hd2 : x.d.length ≤ 200
            · have t3 : decide ((x.d.length : Int) > 200) = false := decide_eq_false (by omega)
              cases hdir : x.dir with
              | false =>
                have HV1 : Hid (validLf x = true) := Lib.hid ((validLf_iff x).2 ⟨hr, hl6, hvb.symm, (fun h => by rw [hdir] at h; cases h), (fun _ => hd2)⟩)
                have HD := Lib.hid hdir
                rw [hdir] at d1
                clear hr hl6 hvb hd2 hdir
                go_upto_region 6 with (go_at_call 37; refine (HRI.out _).mono ?_; rintro e w6 ⟨rfl, hb⟩; have HB6 := Lib.hid (bch HB5.out hb); have HQ6 := Lib.hid (bch HQ5.out hb); have X6 := Lib.hid (X5.out.on hb); clear hb d0 d1 d2; have d0 : w6.cell? ⟨b7, 0, none⟩ = some (.string ⟨x.p.toArray⟩) := X6.out.cell (k := 0) rfl; have d1 : w6.cell? ⟨b7, 1, none⟩ = some (.bool false) := (by rw [X6.out.cell (k := 1) (v := .bool x.dir) rfl, HD.out]); have d2 : w6.cell? ⟨b7, 2, none⟩ = some (.string ⟨x.d.toArray⟩) := X6.out.cell (k := 2) rfl)
                obtain ⟨u, hu⟩ : ∃ u, u = Pt.upL x.p := ⟨_, rfl⟩
                have HUP : Hid (∀ W : World, Calls Tryd.prog 39 #[.string ⟨x.p.toArray⟩] W fun e w' => e = .returned (.string ⟨u.toArray⟩) ∧ Below W.heap.size W w') := Lib.hid (fun W => by rw [hu]; exact Pt.rup_any ⟨x.p.toArray⟩ HPX.out W)
                have HIN : Hid (inDirB x l = (u == [47] || ((findL l u).2 && (findL l u).1.dir))) := Lib.hid (by rw [hu]; rfl)
                clear hu
                rcases Nat.eq_zero_or_pos k with hk0 | hk0
                · subst hk0
                  clear hd
                  have HRS : Hid (∀ (j : Nat) (y : Lf), j + 1 = 0 → l[j]? = some y → Pt.cmpL y.p x.p < 0) := Lib.hid (fun j y h => by omega)
                  go_region
                  obtain ⟨w8, hw8⟩ : ∃ q, q = w6.drew := ⟨_, rfl⟩
                  rw [← hw8]
                  have HB8 : Hid (Below w.heap.size w w8) := Lib.hid (by rw [hw8]; exact below_drewN HB6.out 1)
                  have X8 : Hid (Box w8 b7 41 x.arr) := Lib.hid (by rw [hw8]; exact X6.out)
                  clear d0 d1 d2 hw8
                  have d0 : w8.cell? ⟨b7, 0, none⟩ = some (.string ⟨x.p.toArray⟩) := X8.out.cell (k := 0) rfl
                  obtain ⟨y2, fb, hf⟩ : ∃ y2 fb, findL l u = (y2, fb) := ⟨_, _, rfl⟩
                  rw [hf] at HIN
                  have HFI : Hid (∀ W : World, Below w.heap.size w W → Calls Tryd.prog 40 #[.slice (some ⟨g, o, none⟩) n c, .string ⟨u.toArray⟩] W fun e w' => e = .returned (.tuple #[.agg #[.string ⟨y2.p.toArray⟩, .bool y2.dir, .string ⟨y2.d.toArray⟩], .bool fb]) ∧ Below W.heap.size W w') := Lib.hid (fun W hW => rfind_lit l _ u W (HV.out.on hW) HLL.out hf)
                  clear hf
                  go_upto_region 9 with (go_at_call 39; refine (HUP.out _).mono ?_; rintro e w9 ⟨rfl, hb⟩; have HB9 := Lib.hid (bch HB8.out hb); clear hb)
                  clear d0
                  go_upto_region 10 with (go_at_call 40; refine (HFI.out _ HB9.out).mono ?_; rintro e wa ⟨rfl, hb⟩; have HBa := Lib.hid (bch HB9.out hb); clear hb)
                  obtain ⟨wb, hwb⟩ : ∃ q, q = wa.alloc (.cells #[.string ⟨y2.p.toArray⟩, .bool y2.dir, .string ⟨y2.d.toArray⟩] 41) := ⟨_, rfl⟩
                  have Xb : Box wb wa.heap.size 41 y2.arr := by rw [hwb]; exact box_new
                  have HBb : Hid (Below w.heap.size w wb) := Lib.hid (by rw [hwb]; exact bch HBa.out (below_new _ _))
                  rw [← hwb]
                  obtain ⟨b9, hb9⟩ : ∃ q, q = wa.heap.size := ⟨_, rfl⟩
                  rw [← hb9] at Xb ⊢
                  have yd : wb.cell? ⟨b9, 1, none⟩ = some (.bool y2.dir) := Xb.cell (k := 1) rfl
                  have XB := Lib.hid Xb
                  clear hwb hb9 Xb
                  by_cases hr : u = [47]
                  · have t1 : (u == [47]) = true := by simp [hr]
                    have t2 : (u != [47]) = false := by simp [hr]
                    have HI1 : Hid (inDirB x l = true) := Lib.hid (by rw [HIN.out, t1]; rfl)
                    have HNX := Lib.hid (HLo.out.next HX.out HV1.out HI1.out HRS.out)
                    clear hr
                    go_wp2
                    go_roundw
                    case rel => exact ⟨_, hlt, by go_num, HNX, HBb⟩
                    case measure => simp [Lib.intOf]; omega
                  · have t1 : (u == [47]) = false := by simp [hr]
                    have t2 : (u != [47]) = true := by simp [hr]
                    clear hr
                    cases fb with
                    | false =>
                      have HR : Hid (okLs l = false) := Lib.hid (HNO2.out (by rw [HIN.out, t1]; rfl))
                      go_wp2
                      go_ret
                      exact ⟨by rw [HR.out]; rfl, HBb.out⟩
                    | true =>
                      cases hyd : y2.dir with
                      | false =>
                        have HR : Hid (okLs l = false) := Lib.hid (HNO2.out (by rw [HIN.out, t1, hyd]; rfl))
                        rw [hyd] at yd
                        clear hyd
                        go_wp2
                        go_ret
                        exact ⟨by rw [HR.out]; rfl, HBb.out⟩
                      | true =>
                        have HI1 : Hid (inDirB x l = true) := Lib.hid (by rw [HIN.out, t1, hyd]; rfl)
                        have HNX := Lib.hid (HLo.out.next HX.out HV1.out HI1.out HRS.out)
                        rw [hyd] at yd
                        clear hyd
                        go_wp2
                        go_roundw
                        case rel => exact ⟨_, hlt, by go_num, HNX, HBb⟩
                        case measure => simp [Lib.intOf]; omega
                · obtain ⟨j, rfl⟩ : ∃ j, k = j + 1 := ⟨k - 1, by omega⟩
                  clear hk0
                  obtain ⟨y, hy⟩ : ∃ y, l[j]? = some y := ⟨_, List.getElem?_eq_getElem (by rw [← HN.out]; omega)⟩
                  have HY := Lib.hid hy
                  have HPY := Lib.hid (HP.out y (List.mem_of_getElem? hy))
                  have q0 : w6.cell? ⟨g, o + j * 3, none⟩ = some (.string ⟨y.p.toArray⟩) := ((hd j y hy).on hg HQ6.out).c0
                  have k5 : IntKind.i64.wrap ((j : Int) + 1 - 1) = (j : Int) := by rw [IntWalk.i64_in _ (by omega)]; omega
                  have k6 : IntKind.i64.wrap (j : Int) = (j : Int) := IntWalk.i64_in _ (by omega)
                  have k7 : (j : Int) < (n : Int) := by omega
                  have k8 : (0 : Int) ≤ (j : Int) := by omega
                  have k9 : (0 : Int) < (j : Int) + 1 := by omega
                  have k10 : decide ((j : Int) + 1 > 0) = true := decide_eq_true (by omega)
                  obtain ⟨z, hz⟩ : ∃ z, z = Pt.cmpL y.p x.p := ⟨_, rfl⟩
                  have HCM : Hid (∀ W : World, Calls Tryd.prog 38 #[.string ⟨y.p.toArray⟩, .string ⟨x.p.toArray⟩] W fun e w' => e = .returned (.int .i64 z) ∧ Below W.heap.size W w') := Lib.hid (fun W => by rw [hz]; exact Pt.rcmp_any ⟨y.p.toArray⟩ ⟨x.p.toArray⟩ HPY.out HPX.out W)
                  have HBW : Hid (∀ w3, Below w6.heap.size w6.drew w3 → Below w.heap.size w w3 ∧ Box w3 b7 41 x.arr) := Lib.hid (fun w3 h => ⟨bch (below_drewN HB6.out 1) h, (show Box w6.drew b7 41 x.arr from X6.out).below h X6.out.lt⟩)
                  clear hd hy
                  by_cases hz0 : z < 0
                  · have tz : decide (z ≥ 0) = false := decide_eq_false (by omega)
                    have HRS : Hid (∀ (i : Nat) (y : Lf), i + 1 = j + 1 → l[i]? = some y → Pt.cmpL y.p x.p < 0) := Lib.hid (fun i y' he hy' => by
                      obtain rfl : i = j := by omega
                      rw [HY.out] at hy'; cases hy'
                      rw [← hz]; exact hz0)
                    clear hz hz0
                    go_still_tail 11, (by kernel_rfl)
                    go_upto_region 8 with (go_at_call 38; refine (HCM.out _).mono ?_; rintro e w8 ⟨rfl, hb⟩; have HB8 := Lib.hid (HBW.out _ hb).1; have X8 := Lib.hid (HBW.out _ hb).2; clear hb)
                    clear d0 d1 d2
                    have d0 : w8.cell? ⟨b7, 0, none⟩ = some (.string ⟨x.p.toArray⟩) := X8.out.cell (k := 0) rfl
                    obtain ⟨y2, fb, hf⟩ : ∃ y2 fb, findL l u = (y2, fb) := ⟨_, _, rfl⟩
                    rw [hf] at HIN
                    have HFI : Hid (∀ W : World, Below w.heap.size w W → Calls Tryd.prog 40 #[.slice (some ⟨g, o, none⟩) n c, .string ⟨u.toArray⟩] W fun e w' => e = .returned (.tuple #[.agg #[.string ⟨y2.p.toArray⟩, .bool y2.dir, .string ⟨y2.d.toArray⟩], .bool fb]) ∧ Below W.heap.size W w') := Lib.hid (fun W hW => rfind_lit l _ u W (HV.out.on hW) HLL.out hf)
                    clear hf
                    go_upto_region 9 with (go_at_call 39; refine (HUP.out _).mono ?_; rintro e w9 ⟨rfl, hb⟩; have HB9 := Lib.hid (bch HB8.out hb); clear hb)
                    clear d0
                    go_upto_region 10 with (go_at_call 40; refine (HFI.out _ HB9.out).mono ?_; rintro e wa ⟨rfl, hb⟩; have HBa := Lib.hid (bch HB9.out hb); clear hb)
                    obtain ⟨wb, hwb⟩ : ∃ q, q = wa.alloc (.cells #[.string ⟨y2.p.toArray⟩, .bool y2.dir, .string ⟨y2.d.toArray⟩] 41) := ⟨_, rfl⟩
                    have Xb : Box wb wa.heap.size 41 y2.arr := by rw [hwb]; exact box_new
                    have HBb : Hid (Below w.heap.size w wb) := Lib.hid (by rw [hwb]; exact bch HBa.out (below_new _ _))
                    rw [← hwb]
                    obtain ⟨b9, hb9⟩ : ∃ q, q = wa.heap.size := ⟨_, rfl⟩
                    rw [← hb9] at Xb ⊢
                    have yd : wb.cell? ⟨b9, 1, none⟩ = some (.bool y2.dir) := Xb.cell (k := 1) rfl
                    have XB := Lib.hid Xb
                    clear hwb hb9 Xb
                    by_cases hr : u = [47]
                    · have t1 : (u == [47]) = true := by simp [hr]
                      have t2 : (u != [47]) = false := by simp [hr]
                      have HI1 : Hid (inDirB x l = true) := Lib.hid (by rw [HIN.out, t1]; rfl)
                      have HNX := Lib.hid (HLo.out.next HX.out HV1.out HI1.out HRS.out)
                      clear hr
                      go_wp2
                      go_roundw
                      case rel => exact ⟨_, hlt, by go_num, HNX, HBb⟩
                      case measure => simp [Lib.intOf]; omega
                    · have t1 : (u == [47]) = false := by simp [hr]
                      have t2 : (u != [47]) = true := by simp [hr]
                      clear hr
                      cases fb with
                      | false =>
                        have HR : Hid (okLs l = false) := Lib.hid (HNO2.out (by rw [HIN.out, t1]; rfl))
                        go_wp2
                        go_ret
                        exact ⟨by rw [HR.out]; rfl, HBb.out⟩
                      | true =>
                        cases hyd : y2.dir with
                        | false =>
                          have HR : Hid (okLs l = false) := Lib.hid (HNO2.out (by rw [HIN.out, t1, hyd]; rfl))
                          rw [hyd] at yd
                          clear hyd
                          go_wp2
                          go_ret
                          exact ⟨by rw [HR.out]; rfl, HBb.out⟩
                        | true =>
                          have HI1 : Hid (inDirB x l = true) := Lib.hid (by rw [HIN.out, t1, hyd]; rfl)
                          have HNX := Lib.hid (HLo.out.next HX.out HV1.out HI1.out HRS.out)
                          rw [hyd] at yd
                          clear hyd
                          go_wp2
                          go_roundw
                          case rel => exact ⟨_, hlt, by go_num, HNX, HBb⟩
                          case measure => simp [Lib.intOf]; omega
                  · have tz : decide (z ≥ 0) = true := decide_eq_true (by omega)
                    have HR : Hid (okLs l = false) := Lib.hid (okLs_no fun h => hz0 (by rw [hz]; exact h.2.2 j y x HY.out HX.out))
                    clear hz hz0
                    go_still_tail 11, (by kernel_rfl)
                    go_wp2_with (go_at_call 38; refine (HCM.out _).mono ?_; rintro e w8 ⟨rfl, hb⟩; have HB8 := Lib.hid (HBW.out _ hb).1; clear hb)
                    go_ret
                    exact ⟨by rw [HR.out]; rfl, HB8.out⟩
              | true =>
                have HD := Lib.hid hdir
                by_cases he : x.d = []
                · have t4 : x.d.isEmpty = true := by simp [he]
                  have t5 : (x.d != []) = false := by simp [he]
                  have HV1 : Hid (validLf x = true) := Lib.hid ((validLf_iff x).2 ⟨hr, hl6, hvb.symm, (fun _ => he), (fun h => by rw [hdir] at h; cases h)⟩)
                  rw [hdir] at d1
                  clear hr hl6 hvb hd2 hdir he
                  go_upto_region 6 with (go_at_call 37; refine (HRI.out _).mono ?_; rintro e w6 ⟨rfl, hb⟩; have HB6 := Lib.hid (bch HB5.out hb); have HQ6 := Lib.hid (bch HQ5.out hb); have X6 := Lib.hid (X5.out.on hb); clear hb d0 d1 d2; have d0 : w6.cell? ⟨b7, 0, none⟩ = some (.string ⟨x.p.toArray⟩) := X6.out.cell (k := 0) rfl; have d1 : w6.cell? ⟨b7, 1, none⟩ = some (.bool true) := (by rw [X6.out.cell (k := 1) (v := .bool x.dir) rfl, HD.out]); have d2 : w6.cell? ⟨b7, 2, none⟩ = some (.string ⟨x.d.toArray⟩) := X6.out.cell (k := 2) rfl)
                  obtain ⟨u, hu⟩ : ∃ u, u = Pt.upL x.p := ⟨_, rfl⟩
                  have HUP : Hid (∀ W : World, Calls Tryd.prog 39 #[.string ⟨x.p.toArray⟩] W fun e w' => e = .returned (.string ⟨u.toArray⟩) ∧ Below W.heap.size W w') := Lib.hid (fun W => by rw [hu]; exact Pt.rup_any ⟨x.p.toArray⟩ HPX.out W)
                  have HIN : Hid (inDirB x l = (u == [47] || ((findL l u).2 && (findL l u).1.dir))) := Lib.hid (by rw [hu]; rfl)
                  clear hu
                  rcases Nat.eq_zero_or_pos k with hk0 | hk0
                  · subst hk0
                    clear hd
                    have HRS : Hid (∀ (j : Nat) (y : Lf), j + 1 = 0 → l[j]? = some y → Pt.cmpL y.p x.p < 0) := Lib.hid (fun j y h => by omega)
                    go_region
                    obtain ⟨w8, hw8⟩ : ∃ q, q = w6.drew := ⟨_, rfl⟩
                    rw [← hw8]
                    have HB8 : Hid (Below w.heap.size w w8) := Lib.hid (by rw [hw8]; exact below_drewN HB6.out 1)
                    have X8 : Hid (Box w8 b7 41 x.arr) := Lib.hid (by rw [hw8]; exact X6.out)
                    clear d0 d1 d2 hw8
                    have d0 : w8.cell? ⟨b7, 0, none⟩ = some (.string ⟨x.p.toArray⟩) := X8.out.cell (k := 0) rfl
                    obtain ⟨y2, fb, hf⟩ : ∃ y2 fb, findL l u = (y2, fb) := ⟨_, _, rfl⟩
                    rw [hf] at HIN
                    have HFI : Hid (∀ W : World, Below w.heap.size w W → Calls Tryd.prog 40 #[.slice (some ⟨g, o, none⟩) n c, .string ⟨u.toArray⟩] W fun e w' => e = .returned (.tuple #[.agg #[.string ⟨y2.p.toArray⟩, .bool y2.dir, .string ⟨y2.d.toArray⟩], .bool fb]) ∧ Below W.heap.size W w') := Lib.hid (fun W hW => rfind_lit l _ u W (HV.out.on hW) HLL.out hf)
                    clear hf
                    go_upto_region 9 with (go_at_call 39; refine (HUP.out _).mono ?_; rintro e w9 ⟨rfl, hb⟩; have HB9 := Lib.hid (bch HB8.out hb); clear hb)
                    clear d0
                    go_upto_region 10 with (go_at_call 40; refine (HFI.out _ HB9.out).mono ?_; rintro e wa ⟨rfl, hb⟩; have HBa := Lib.hid (bch HB9.out hb); clear hb)
                    obtain ⟨wb, hwb⟩ : ∃ q, q = wa.alloc (.cells #[.string ⟨y2.p.toArray⟩, .bool y2.dir, .string ⟨y2.d.toArray⟩] 41) := ⟨_, rfl⟩
                    have Xb : Box wb wa.heap.size 41 y2.arr := by rw [hwb]; exact box_new
                    have HBb : Hid (Below w.heap.size w wb) := Lib.hid (by rw [hwb]; exact bch HBa.out (below_new _ _))
                    rw [← hwb]
                    obtain ⟨b9, hb9⟩ : ∃ q, q = wa.heap.size := ⟨_, rfl⟩
                    rw [← hb9] at Xb ⊢
                    have yd : wb.cell? ⟨b9, 1, none⟩ = some (.bool y2.dir) := Xb.cell (k := 1) rfl
                    have XB := Lib.hid Xb
                    clear hwb hb9 Xb
                    by_cases hr : u = [47]
                    · have t1 : (u == [47]) = true := by simp [hr]
                      have t2 : (u != [47]) = false := by simp [hr]
                      have HI1 : Hid (inDirB x l = true) := Lib.hid (by rw [HIN.out, t1]; rfl)
                      have HNX := Lib.hid (HLo.out.next HX.out HV1.out HI1.out HRS.out)
                      clear hr
                      go_wp2
                      go_roundw
                      case rel => exact ⟨_, hlt, by go_num, HNX, HBb⟩
                      case measure => simp [Lib.intOf]; omega
                    · have t1 : (u == [47]) = false := by simp [hr]
                      have t2 : (u != [47]) = true := by simp [hr]
                      clear hr
                      cases fb with
                      | false =>
                        have HR : Hid (okLs l = false) := Lib.hid (HNO2.out (by rw [HIN.out, t1]; rfl))
                        go_wp2
                        go_ret
                        exact ⟨by rw [HR.out]; rfl, HBb.out⟩
                      | true =>
                        cases hyd : y2.dir with
                        | false =>
                          have HR : Hid (okLs l = false) := Lib.hid (HNO2.out (by rw [HIN.out, t1, hyd]; rfl))
                          rw [hyd] at yd
                          clear hyd
                          go_wp2
                          go_ret
                          exact ⟨by rw [HR.out]; rfl, HBb.out⟩
                        | true =>
                          have HI1 : Hid (inDirB x l = true) := Lib.hid (by rw [HIN.out, t1, hyd]; rfl)
                          have HNX := Lib.hid (HLo.out.next HX.out HV1.out HI1.out HRS.out)
                          rw [hyd] at yd
                          clear hyd
                          go_wp2
                          go_roundw
                          case rel => exact ⟨_, hlt, by go_num, HNX, HBb⟩
                          case measure => simp [Lib.intOf]; omega
                  · obtain ⟨j, rfl⟩ : ∃ j, k = j + 1 := ⟨k - 1, by omega⟩
                    clear hk0
                    obtain ⟨y, hy⟩ : ∃ y, l[j]? = some y := ⟨_, List.getElem?_eq_getElem (by rw [← HN.out]; omega)⟩
                    have HY := Lib.hid hy
                    have HPY := Lib.hid (HP.out y (List.mem_of_getElem? hy))
                    have q0 : w6.cell? ⟨g, o + j * 3, none⟩ = some (.string ⟨y.p.toArray⟩) := ((hd j y hy).on hg HQ6.out).c0
                    have k5 : IntKind.i64.wrap ((j : Int) + 1 - 1) = (j : Int) := by rw [IntWalk.i64_in _ (by omega)]; omega
                    have k6 : IntKind.i64.wrap (j : Int) = (j : Int) := IntWalk.i64_in _ (by omega)
                    have k7 : (j : Int) < (n : Int) := by omega
                    have k8 : (0 : Int) ≤ (j : Int) := by omega
                    have k9 : (0 : Int) < (j : Int) + 1 := by omega
                    have k10 : decide ((j : Int) + 1 > 0) = true := decide_eq_true (by omega)
                    obtain ⟨z, hz⟩ : ∃ z, z = Pt.cmpL y.p x.p := ⟨_, rfl⟩
                    have HCM : Hid (∀ W : World, Calls Tryd.prog 38 #[.string ⟨y.p.toArray⟩, .string ⟨x.p.toArray⟩] W fun e w' => e = .returned (.int .i64 z) ∧ Below W.heap.size W w') := Lib.hid (fun W => by rw [hz]; exact Pt.rcmp_any ⟨y.p.toArray⟩ ⟨x.p.toArray⟩ HPY.out HPX.out W)
                    have HBW : Hid (∀ w3, Below w6.heap.size w6.drew w3 → Below w.heap.size w w3 ∧ Box w3 b7 41 x.arr) := Lib.hid (fun w3 h => ⟨bch (below_drewN HB6.out 1) h, (show Box w6.drew b7 41 x.arr from X6.out).below h X6.out.lt⟩)
                    clear hd hy
                    by_cases hz0 : z < 0
                    · have tz : decide (z ≥ 0) = false := decide_eq_false (by omega)
                      have HRS : Hid (∀ (i : Nat) (y : Lf), i + 1 = j + 1 → l[i]? = some y → Pt.cmpL y.p x.p < 0) := Lib.hid (fun i y' he hy' => by
                        obtain rfl : i = j := by omega
                        rw [HY.out] at hy'; cases hy'
                        rw [← hz]; exact hz0)
                      clear hz hz0
                      go_still_tail 11, (by kernel_rfl)
                      go_upto_region 8 with (go_at_call 38; refine (HCM.out _).mono ?_; rintro e w8 ⟨rfl, hb⟩; have HB8 := Lib.hid (HBW.out _ hb).1; have X8 := Lib.hid (HBW.out _ hb).2; clear hb)
                      clear d0 d1 d2
                      have d0 : w8.cell? ⟨b7, 0, none⟩ = some (.string ⟨x.p.toArray⟩) := X8.out.cell (k := 0) rfl
                      obtain ⟨y2, fb, hf⟩ : ∃ y2 fb, findL l u = (y2, fb) := ⟨_, _, rfl⟩
                      rw [hf] at HIN
                      have HFI : Hid (∀ W : World, Below w.heap.size w W → Calls Tryd.prog 40 #[.slice (some ⟨g, o, none⟩) n c, .string ⟨u.toArray⟩] W fun e w' => e = .returned (.tuple #[.agg #[.string ⟨y2.p.toArray⟩, .bool y2.dir, .string ⟨y2.d.toArray⟩], .bool fb]) ∧ Below W.heap.size W w') := Lib.hid (fun W hW => rfind_lit l _ u W (HV.out.on hW) HLL.out hf)
                      clear hf
                      go_upto_region 9 with (go_at_call 39; refine (HUP.out _).mono ?_; rintro e w9 ⟨rfl, hb⟩; have HB9 := Lib.hid (bch HB8.out hb); clear hb)
                      clear d0
                      go_upto_region 10 with (go_at_call 40; refine (HFI.out _ HB9.out).mono ?_; rintro e wa ⟨rfl, hb⟩; have HBa := Lib.hid (bch HB9.out hb); clear hb)
                      obtain ⟨wb, hwb⟩ : ∃ q, q = wa.alloc (.cells #[.string ⟨y2.p.toArray⟩, .bool y2.dir, .string ⟨y2.d.toArray⟩] 41) := ⟨_, rfl⟩
                      have Xb : Box wb wa.heap.size 41 y2.arr := by rw [hwb]; exact box_new
                      have HBb : Hid (Below w.heap.size w wb) := Lib.hid (by rw [hwb]; exact bch HBa.out (below_new _ _))
                      rw [← hwb]
                      obtain ⟨b9, hb9⟩ : ∃ q, q = wa.heap.size := ⟨_, rfl⟩
                      rw [← hb9] at Xb ⊢
                      have yd : wb.cell? ⟨b9, 1, none⟩ = some (.bool y2.dir) := Xb.cell (k := 1) rfl
                      have XB := Lib.hid Xb
                      clear hwb hb9 Xb
                      by_cases hr : u = [47]
                      · have t1 : (u == [47]) = true := by simp [hr]
                        have t2 : (u != [47]) = false := by simp [hr]
                        have HI1 : Hid (inDirB x l = true) := Lib.hid (by rw [HIN.out, t1]; rfl)
                        have HNX := Lib.hid (HLo.out.next HX.out HV1.out HI1.out HRS.out)
                        clear hr
                        go_wp2
                        go_roundw
                        case rel => exact ⟨_, hlt, by go_num, HNX, HBb⟩
                        case measure => simp [Lib.intOf]; omega
                      · have t1 : (u == [47]) = false := by simp [hr]
                        have t2 : (u != [47]) = true := by simp [hr]
                        clear hr
                        cases fb with
                        | false =>
                          have HR : Hid (okLs l = false) := Lib.hid (HNO2.out (by rw [HIN.out, t1]; rfl))
                          go_wp2
                          go_ret
                          exact ⟨by rw [HR.out]; rfl, HBb.out⟩
                        | true =>
                          cases hyd : y2.dir with
                          | false =>
                            have HR : Hid (okLs l = false) := Lib.hid (HNO2.out (by rw [HIN.out, t1, hyd]; rfl))
                            rw [hyd] at yd
                            clear hyd
                            go_wp2
                            go_ret
                            exact ⟨by rw [HR.out]; rfl, HBb.out⟩
                          | true =>
                            have HI1 : Hid (inDirB x l = true) := Lib.hid (by rw [HIN.out, t1, hyd]; rfl)
                            have HNX := Lib.hid (HLo.out.next HX.out HV1.out HI1.out HRS.out)
                            rw [hyd] at yd
                            clear hyd
                            go_wp2
                            go_roundw
                            case rel => exact ⟨_, hlt, by go_num, HNX, HBb⟩
                            case measure => simp [Lib.intOf]; omega
                    · have tz : decide (z ≥ 0) = true := decide_eq_true (by omega)
                      have HR : Hid (okLs l = false) := Lib.hid (okLs_no fun h => hz0 (by rw [hz]; exact h.2.2 j y x HY.out HX.out))
                      clear hz hz0
                      go_still_tail 11, (by kernel_rfl)
                      go_wp2_with (go_at_call 38; refine (HCM.out _).mono ?_; rintro e w8 ⟨rfl, hb⟩; have HB8 := Lib.hid (HBW.out _ hb).1; clear hb)
                      go_ret
                      exact ⟨by rw [HR.out]; rfl, HB8.out⟩
                · have t4 : x.d.isEmpty = false := by simp [he]
                  have t5 : (x.d != []) = true := by simp [he]
                  have HR : Hid (okLs l = false) := Lib.hid (HNO.out (Bool.eq_false_iff.2 fun h => he (((validLf_iff x).1 h).2.2.2.1 hdir)))
                  rw [hdir] at d1
                  clear hr hl6 hvb hd2 hdir he
                  go_wp2_with (go_at_call 37; refine (HRI.out _).mono ?_; rintro e w6 ⟨rfl, hb⟩; have HB6 := Lib.hid (bch HB5.out hb); have HQ6 := Lib.hid (bch HQ5.out hb); have X6 := Lib.hid (X5.out.on hb); clear hb d0 d1 d2; have d0 : w6.cell? ⟨b7, 0, none⟩ = some (.string ⟨x.p.toArray⟩) := X6.out.cell (k := 0) rfl; have d1 : w6.cell? ⟨b7, 1, none⟩ = some (.bool true) := (by rw [X6.out.cell (k := 1) (v := .bool x.dir) rfl, HD.out]); have d2 : w6.cell? ⟨b7, 2, none⟩ = some (.string ⟨x.d.toArray⟩) := X6.out.cell (k := 2) rfl)
                  go_ret
                  exact ⟨by rw [HR.out]; rfl, HB6.out⟩
            · have t3 : decide ((x.d.length : Int) > 200) = true := decide_eq_true (by omega)
              have HR : Hid (okLs l = false) := Lib.hid (HNO.out (Bool.eq_false_iff.2 fun h => hd2 (validLf_data h)))
              clear hr hl6 hvb hd2
              go_wp2_with (go_at_call 37; refine (HRI.out _).mono ?_; rintro e w6 ⟨rfl, hb⟩; have HB6 := Lib.hid (bch HB5.out hb); have HQ6 := Lib.hid (bch HQ5.out hb); have X6 := Lib.hid (X5.out.on hb); clear hb d0 d1 d2; have d0 : w6.cell? ⟨b7, 0, none⟩ = some (.string ⟨x.p.toArray⟩) := X6.out.cell (k := 0) rfl; have d1 : w6.cell? ⟨b7, 1, none⟩ = some (.bool x.dir) := X6.out.cell (k := 1) rfl; have d2 : w6.cell? ⟨b7, 2, none⟩ = some (.string ⟨x.d.toArray⟩) := X6.out.cell (k := 2) rfl)
              go_ret
              exact ⟨by rw [HR.out]; rfl, HB6.out⟩
          · have t2 : decide ((x.p.length : Int) > 60) = true := decide_eq_true (by omega)
            have HR : Hid (okLs l = false) := Lib.hid (HNO.out (Bool.eq_false_iff.2 fun h => hl6 ((validLf_iff x).1 h).2.1))
            clear hr hl6 hvb
            go_wp2_with (go_at_call 37; refine (HRI.out _).mono ?_; rintro e w6 ⟨rfl, hb⟩; have HB6 := Lib.hid (bch HB5.out hb); have HQ6 := Lib.hid (bch HQ5.out hb); have X6 := Lib.hid (X5.out.on hb); clear hb d0 d1 d2; have d0 : w6.cell? ⟨b7, 0, none⟩ = some (.string ⟨x.p.toArray⟩) := X6.out.cell (k := 0) rfl; have d1 : w6.cell? ⟨b7, 1, none⟩ = some (.bool x.dir) := X6.out.cell (k := 1) rfl; have d2 : w6.cell? ⟨b7, 2, none⟩ = some (.string ⟨x.d.toArray⟩) := X6.out.cell (k := 2) rfl)
            go_ret
            exact ⟨by rw [HR.out]; rfl, HB6.out⟩
    · have k1 : ¬ ((k : Int) < (n : Int)) := by omega
      obtain rfl : k = n := by omega
      have HE : Hid (okLs l = decide (k ≤ 16)) := Lib.hid (by
        have := HLo.out
        rw [HN.out] at this ⊢
        exact this.all)
      have HI : Hid (decide ((k : Int) ≤ 16) = decide (k ≤ 16)) := Lib.hid (decide_eq_decide.2 (by omega))
      go_wp2
      go_ret
      exact ⟨by rw [HE.out, ← HI.out]; rfl, HB.out⟩
end Go.Proofs.YtophihnjlodmjaaDoor

namespace Go.Proofs.YtophihnjlodmjaaDoor
open Go.RowKit Go.Shelf
attribute [local go_sem] Oper.semAt_some

theorem OwnL.far {w w' : World} {B : Nat} {v : Value} {l : List Lf} (h : OwnL w B v l) (hb : ∀ k, v.ownBlock = some k → w'.heap[k]? = w.heap[k]?) : OwnL w' B v l := by
  have hx := h
  obtain ⟨h1, hc⟩ := h
  rcases hc with ⟨rfl, h0⟩ | ⟨g, c, cur, rfl, hB, hg, hr⟩
  · exact ⟨h1, .inl ⟨rfl, h0⟩⟩
  · exact ⟨h1, .inr ⟨g, c, cur, rfl, hB, (hb g rfl).trans hg, hr⟩⟩
theorem Box.set2 {w : World} {g : Nat} {t : TypeId} {x : Lf} (h : Box w g t x.arr) (o : Bs) : Box (w.setCell ⟨g, 2, none⟩ (.string ⟨o.toArray⟩)) g t (Lf.arr ⟨x.p, x.dir, o⟩) := heap_setCell_same w g 2 x.arr t _ h
theorem mvLs_snoc (fr tt : Bs) : ∀ {l m : List Lf} {x y : Lf}, mvLs fr tt l = some m → mvLf fr tt x = some y → mvLs fr tt (l ++ [x]) = some (m ++ [y])
  | [], m, x, y, h, hy => by cases h; simp [mvLs, hy]
  | u :: l, m, x, y, h, hy => by
    unfold mvLs at h
    cases h1 : mvLf fr tt u with
    | none => rw [h1] at h; cases h
    | some z =>
      cases h2 : mvLs fr tt l with
      | none => rw [h1, h2] at h; cases h
      | some m' =>
        rw [h1, h2] at h; cases h
        show mvLs fr tt (u :: (l ++ [x])) = _
        unfold mvLs
        rw [h1, mvLs_snoc fr tt h2 hy]
        rfl
theorem rmove_none (l fr tt : Bs) (hf : 1 ≤ fr.length) (hl : l.length ≤ 1000000) (hlf : fr.length ≤ 1000) (hlt : tt.length ≤ 1000) (h : movL fr tt l = none) (w : World) : Calls Tryd.prog 19 #[.string ⟨l.toArray⟩, .string ⟨fr.toArray⟩, .string ⟨tt.toArray⟩] w fun e w' => e = .returned (.tuple #[.string ⟨#[]⟩, .slice none 0 0, .bool false]) ∧ Below w.heap.size w w' :=
  (rmove_any l fr tt hf hl hlf hlt w).mono (by
    rintro e w' ⟨⟨o', a', v, h3, _⟩ | ⟨_, h3⟩, hb⟩
    · rw [h] at h3; cases h3
    · exact ⟨h3, hb⟩)
theorem rmove_some (l fr tt : Bs) (hf : 1 ≤ fr.length) (hl : l.length ≤ 1000000) (hlf : fr.length ≤ 1000) (hlt : tt.length ≤ 1000) {o : Bs} {al : List Nat} (h : movL fr tt l = some (o, al)) (w : World) : Calls Tryd.prog 19 #[.string ⟨l.toArray⟩, .string ⟨fr.toArray⟩, .string ⟨tt.toArray⟩] w fun e w' => ∃ a n c, e = .returned (.tuple #[.string ⟨o.toArray⟩, .slice a n c, .bool true]) ∧ Below w.heap.size w w' :=
  (rmove_any l fr tt hf hl hlf hlt w).mono (by
    rintro e w' ⟨⟨o', a', v, h3, h4, h5⟩ | ⟨h3, _⟩, hb⟩
    · rw [h] at h3; cases h3
      obtain ⟨a, c, rfl⟩ := own_slice h5
      exact ⟨a, _, c, h4, hb⟩
    · rw [h] at h3; cases h3)
def RLvR (fr tt : Bs) (l : List Lf) (w : World) (e : Ending) (w' : World) : Prop :=
  ((mvLs fr tt l = none ∧ e = .returned (.tuple #[.slice none 0 0, .bool false])) ∨
      ∃ m v, mvLs fr tt l = some m ∧ e = .returned (.tuple #[v, .bool true]) ∧ OwnL w' w.heap.size v m) ∧ Below w.heap.size w w'

set_option maxRecDepth 100000 in
set_option maxHeartbeats 8000000 in
theorem rleaves_any (l : List Lf) (fr tt : Bs) (v : Value) (w : World) (hv : RdL w v l) (hf : fr.length ≤ 64) (ht : tt.length ≤ 64) (h1 : 1 ≤ fr.length) (hl : l.length ≤ 100) (hd : ∀ x ∈ l, x.d.length ≤ 200) : Calls Tryd.prog 23 #[v, .string ⟨fr.toArray⟩, .string ⟨tt.toArray⟩] w (RLvR fr tt l w) := by
  have HV := Lib.hid hv
  have HF := Lib.hid hf
  have HT := Lib.hid ht
  have HF1 := Lib.hid h1
  have HDL := Lib.hid hd
  obtain ⟨i0, hi, hz0, hz1, hz2⟩ := info_parts info41z
  obtain ⟨a, c, rfl, hlc, hcm, hcc⟩ := hv.open
  obtain ⟨n, hn⟩ : ∃ n, n = l.length := ⟨_, rfl⟩
  rw [← hn] at HV hlc hl ⊢
  have HN := Lib.hid hn
  clear hv hn hcc hf ht h1 hd
  unfold maxLen at hcm
  go_enter Tryd.func23, Tryd.ntmps23
  go_wp2_with fail
  go_loopw [8, 16] (fun s i W => ∃ (k : Nat) (m : List Lf), k ≤ n ∧ i = .int .i64 (k : Int) ∧ Hid (mvLs fr tt (l.take k) = some m) ∧ Hid (OwnL W w.heap.size s m) ∧ Hid (Below w.heap.size w W)) (fun s i _ => n - (Lib.intOf i).toNat)
  case atStart => exact ⟨0, [], Nat.zero_le _, rfl, Lib.hid (by rw [List.take_zero]; rfl), Lib.hid (own_none _ _), Lib.hid (Below.refl _ _)⟩
  case round =>
    obtain ⟨k, m, hk, rfl, HM, HO, HB⟩ := hrel
    obtain ⟨wq, hwq⟩ : ∃ q, q = wr := ⟨_, rfl⟩
    rw [← hwq] at HB HO ⊢
    clear hwq
    obtain ⟨a8, c8, rfl⟩ := HO.out.slice
    obtain ⟨mm, hmm⟩ : ∃ mm, mm = m.length := ⟨_, rfl⟩
    have hmk : mm ≤ 100 := by have := mvLs_len fr tt HM.out; rw [List.length_take] at this; omega
    rw [← hmm] at HO ⊢
    have HMM := Lib.hid hmm
    clear hmm
    by_cases hlt : k < n
    · have hkl : k < l.length := by rw [← HN.out]; exact hlt
      obtain ⟨x, hx⟩ : ∃ x, l[k]? = some x := ⟨_, List.getElem?_eq_getElem hkl⟩
      obtain ⟨a', c', e, z1, z2, hc⟩ := (HV.out.on HB.out).open
      clear z1 z2
      rw [← HN.out] at e
      cases e
      obtain ⟨g, o0, rfl, hg, hc2⟩ := hc (by rw [← HN.out]; omega)
      obtain ⟨q0, q1, q2⟩ := hc2 k x hx
      have k1 : (k : Int) < (n : Int) := by omega
      have k2 : (0 : Int) ≤ (k : Int) := by omega
      have k4 : IntKind.i64.wrap ((k : Int) + 1) = (k : Int) + 1 := IntWalk.i64_in _ (by omega)
      obtain ⟨w5, hw5⟩ : ∃ q, q = wq.alloc (.cells #[.string ⟨x.p.toArray⟩, .bool x.dir, .string ⟨x.d.toArray⟩] 41) := ⟨_, rfl⟩
      have hb5 : Below wq.heap.size wq w5 := by rw [hw5]; exact below_new _ _
      have X5 : Hid (Box w5 wq.heap.size 41 x.arr) := Lib.hid (by rw [hw5]; exact box_new)
      have HB5 : Hid (Below w.heap.size w w5) := Lib.hid (bch HB.out hb5)
      have HO5 := Lib.hid (HO.out.on hb5)
      have HXD := Lib.hid (HDL.out x (List.mem_of_getElem? hx))
      have HX := Lib.hid hx
      have HTK : Hid (l.take (k + 1) = l.take k ++ [x]) := Lib.hid (by rw [List.take_add_one, hx]; rfl)
      have HMEM := Lib.hid (List.mem_of_getElem? hx)
      have HQW := Lib.hid HB.out.size
      have HBL : Hid (∀ q, (Value.slice a8 mm c8).ownBlock = some q → q < wq.heap.size) := Lib.hid (fun q hq => (World.ownsRow.lt HO.out q hq).2)
      clear hc hc2 hx hb5 hkl hg
      go_upto_region 5 with fail
      obtain ⟨b7, hb7⟩ : ∃ q, q = wq.heap.size := ⟨_, rfl⟩
      rw [← hb7] at X5 HQW HBL ⊢
      rw [← hw5]
      clear hw5 hb7 q0 q1 q2
      have d2 : w5.cell? ⟨b7, 2, none⟩ = some (.string ⟨x.d.toArray⟩) := X5.out.cell (k := 2) rfl
      cases hmv : movL fr tt x.d with
      | none =>
        have HMV := Lib.hid hmv
        have HR : Hid (mvLs fr tt l = none) := Lib.hid (mvLs_no fr tt HMEM.out (mvLf_none hmv))
        clear hmv
        go_wp2_with (go_at_call 19; refine (rmove_none _ _ _ HF1.out (by have := HXD.out; omega) (by have := HF.out; omega) (by have := HT.out; omega) HMV.out _).mono ?_; rintro e w6 ⟨rfl, hb⟩; have HB6 := Lib.hid (bch HB5.out hb); clear hb)
        go_ret2
        exact ⟨.inl ⟨HR.out, rfl⟩, HB6.out⟩
      | some z =>
        obtain ⟨o, al⟩ := z
        have HMV := Lib.hid hmv
        by_cases ho2 : o.length ≤ 200
        · have t3 : decide ((o.length : Int) > 200) = false := decide_eq_false (by omega)
          have HMN : Hid (mvLs fr tt (l.take (k + 1)) = some (m ++ [⟨x.p, x.dir, o⟩])) := Lib.hid (by rw [HTK.out]; exact mvLs_snoc fr tt HM.out (mvLf_some hmv ho2))
          have HAT : Hid (∀ W, Below w5.heap.size w5 W → OwnL W w.heap.size (.slice a8 mm c8) m ∧ Box W b7 41 x.arr) := Lib.hid (fun W hW => ⟨HO5.out.on hW, X5.out.on hW⟩)
          clear hmv ho2
          go_upto_region 8 with (go_at_call 19; refine (rmove_some _ _ _ HF1.out (by have := HXD.out; omega) (by have := HF.out; omega) (by have := HT.out; omega) HMV.out _).mono ?_; rintro e w6 ⟨a12, n12, c12, rfl, hb⟩; have HB6 := Lib.hid (bch HB5.out hb); have HO6 := Lib.hid (HAT.out _ hb).1; have X6 := Lib.hid (HAT.out _ hb).2; clear hb d2)
          have d2 : w6.cell? ⟨b7, 2, none⟩ = some (.string ⟨x.d.toArray⟩) := X6.out.cell (k := 2) rfl
          have d3 : w6.frozen? ⟨b7, 2, none⟩ = false := X6.out.frozen 2
          obtain ⟨w7, hw7⟩ : ∃ q, q = w6.setCell ⟨b7, 2, none⟩ (.string ⟨o.toArray⟩) := ⟨_, rfl⟩
          have X7 : Hid (Box w7 b7 41 (Lf.arr ⟨x.p, x.dir, o⟩)) := Lib.hid (by rw [hw7]; exact X6.out.set2 o)
          have HB7 : Hid (Below w.heap.size w w7) := Lib.hid (by rw [hw7]; exact below_set HB6.out HQW.out _)
          have HO7 : Hid (OwnL w7 w.heap.size (.slice a8 mm c8) m) := Lib.hid (by
            rw [hw7]
            exact HO6.out.far fun q hq => heap_setCell_other w6 ⟨b7, 2, none⟩ q _ (fun e => by
              have := HBL.out q hq
              have e' : q = b7 := e
              omega))
          have HOF : Hid (w7.ownsRow w.heap.size 41 3 (.slice a8 mm c8) mm (flatL m)) := Lib.hid (by have := HO7.out; unfold OwnL at this; rw [← HMM.out] at this; exact this)
          have HBQ := Lib.hid HO7.out.blk
          have hws : w.heap.size ≤ w7.heap.size := HB7.out.size
          obtain ⟨y, hy⟩ : ∃ y : Lf, y = ⟨x.p, x.dir, o⟩ := ⟨_, rfl⟩
          have e0 : w7.cell? ⟨b7, 0, none⟩ = some (.string ⟨y.p.toArray⟩) := by rw [hy]; exact X7.out.cell (k := 0) rfl
          have e1 : w7.cell? ⟨b7, 1, none⟩ = some (.bool y.dir) := by rw [hy]; exact X7.out.cell (k := 1) rfl
          have e2 : w7.cell? ⟨b7, 2, none⟩ = some (.string ⟨y.d.toArray⟩) := by rw [hy]; exact X7.out.cell (k := 2) rfl
          have HNW := Lib.hid (three_new w7 y)
          go_upto_region 9 with fail
          rw [← hw7]
          rw [← hy] at HMN
          clear d2 d3 hw7 hy X7 X6 X5
          go_wp2_with (at_builtin; refine wpList_append_own _ rfl _ _ 38 rfl w.heap.size 41 i0 (.agg Lf.nil.arr) 3 40 Tryd.underlying38 hi hz0 hz1 hz2 rfl (by decide) _ _ _ rfl (HOF.out.alloc _) ⟨w7.heap.size, 0, none⟩ 1 1 y.cells rfl rfl HNW.out (by simp [Lf.cells, Value.oneCell']) (by unfold maxLen; omega) (by omega) (by simp; omega) ?_)
          intro v9 w9 hown9 hgrow9 _
          have HO9 : Hid (OwnL w9 w.heap.size v9 (m ++ [y])) := Lib.hid (OwnL.push HMM.out hown9)
          have hb9 : Below w.heap.size w7 w9 := ((Below.refl _ _).alloc hws _).grown hgrow9 (by simp; omega) HBQ.out
          clear hown9 hgrow9
          go_wp2_with fail
          go_roundw
          case rel => exact ⟨k + 1, _, hlt, by go_num, HMN, HO9, Lib.hid (HB7.out.trans hb9)⟩
          case measure => simp [Lib.intOf]; omega
        · have t3 : decide ((o.length : Int) > 200) = true := decide_eq_true (by omega)
          have HR : Hid (mvLs fr tt l = none) := Lib.hid (mvLs_no fr tt HMEM.out (mvLf_long hmv ho2))
          clear hmv ho2
          go_wp2_with (go_at_call 19; refine (rmove_some _ _ _ HF1.out (by have := HXD.out; omega) (by have := HF.out; omega) (by have := HT.out; omega) HMV.out _).mono ?_; rintro e w6 ⟨a12, n12, c12, rfl, hb⟩; have HB6 := Lib.hid (bch HB5.out hb); clear hb)
          go_ret2
          exact ⟨.inl ⟨HR.out, rfl⟩, HB6.out⟩
    · have k1 : ¬ ((k : Int) < (n : Int)) := by omega
      obtain rfl : k = n := by omega
      have HR : Hid (mvLs fr tt l = some m) := Lib.hid (by have := HM.out; rw [HN.out, List.take_length] at this; exact this)
      go_wp2
      go_ret2
      exact ⟨.inr ⟨m, _, HR.out, rfl, HO.out⟩, HB.out⟩
end Go.Proofs.YtophihnjlodmjaaDoor

namespace Go.Proofs.YtophihnjlodmjaaDoor
open Go.RowKit Go.Shelf
attribute [local go_sem] Oper.semAt_some

theorem lf_eq (a b : Lf) : a = b ↔ a.p = b.p ∧ a.dir = b.dir ∧ a.d = b.d := by
  cases a
  cases b
  simp [Lf.mk.injEq]

set_option maxRecDepth 100000 in
theorem leq41 (a b : Lf) (w : World) : (Op.equalIn 10000 41 (.agg #[.string ⟨a.p.toArray⟩, .bool a.dir, .string ⟨a.d.toArray⟩]) (.agg #[.string ⟨b.p.toArray⟩, .bool b.dir, .string ⟨b.d.toArray⟩])).run Tryd.prog w = .ok (decide (a = b)) w := by
  have u3 := Tryd.underlying4
  have a3 := Tryd.isAgg4
  have z3 := Tryd.sizeOf4
  have u9 := Tryd.underlying9
  have a9 := Tryd.isAgg9
  have z9 := Tryd.sizeOf9
  have hS : Tryd.prog.underlying 41 = some (.struct (Tryd.prog.fieldsOf 41)) := by kernel_rfl
  have hp : Tryd.prog.stoodInHeld 41 = false := by kernel_rfl
  have hv := lf_eq a b
  rw [show (10000 : Nat) = 9999 + 1 from rfl, run_equalIn_agg w 9999 41 _ _ hS hp]
  simp only [Program.fieldsOf, Tryd.underlying41]
  go_simp
  clear u3 a3 z3 u9 a9 z9 hS hp
  by_cases h0 : a.p = b.p <;> cases h1 : a.dir <;> cases h3 : b.dir <;> by_cases h2 : a.d = b.d <;> simp [h0, h1, h2, h3]
theorem lneq41 (x y : Lf) (b : Bool) (hb : b = !decide (x = y)) (w : World) : (binOp .neq 41 (.agg #[.string ⟨x.p.toArray⟩, .bool x.dir, .string ⟨x.d.toArray⟩]) (.agg #[.string ⟨y.p.toArray⟩, .bool y.dir, .string ⟨y.d.toArray⟩])).run Tryd.prog w = .ok (.bool b) w := by
  rw [run_neq_struct, leq41, hb]
  rfl
theorem lguard41 : Tryd.prog.eqGuardType Tryd.prog.depth 41 = false := by kernel_rfl
theorem llist_ne {α : Type} {l m : List α} {k : Nat} {x y : α} (hx : l[k]? = some x) (hy : m[k]? = some y) (h : x ≠ y) : l ≠ m := fun e => by
  subst e
  exact h (Option.some.inj (hx.symm.trans hy))
def LEqR (b : Bool) (w : World) (e : Ending) (w' : World) : Prop := e = .returned (.bool b) ∧ Below w.heap.size w w'

set_option maxRecDepth 100000 in
set_option maxHeartbeats 2000000 in
theorem lequal_any (l m : List Lf) (v1 v2 : Value) (w : World) (h1 : RdL w v1 l) (h2 : RdL w v2 m) : Calls Tryd.prog 24 #[v1, v2] w (LEqR (decide (l = m)) w) := by
  obtain ⟨a1, cap1, rfl, hlc1, hcm1, hc1⟩ := h1.open
  obtain ⟨a2, cap2, rfl, hlc2, hcm2, hc2⟩ := h2.open
  unfold maxLen at hcm1 hcm2
  by_cases hlen : l.length = m.length
  · rw [← hlen] at hlc2 hc2 ⊢
    obtain ⟨n, hn⟩ : ∃ n, n = l.length := ⟨_, rfl⟩
    rw [← hn] at hlc1 hlc2 hc1 hc2
    rw [← hn]
    have HN := Lib.hid hn
    have HNM : Hid (n = m.length) := Lib.hid (hn.trans hlen)
    have H1 := Lib.hid hc1
    have H2 := Lib.hid hc2
    clear hn hc1 hc2 hlen h1 h2
    have t0 : ((n : Int) == (n : Int)) = true := by simp
    go_enter Tryd.func24, Tryd.ntmps24
    go_wp2
    go_loopw [5, 13, 14, 15, 16, 17, 18, 19, 20, 21, 22, 23, 24, 25] (fun _ i _ _ _ _ _ _ _ _ _ _ _ _ wr => ∃ k : Nat, k ≤ n ∧ i = .int .i64 k ∧ Hid (∀ j, j < k → l[j]? = m[j]?) ∧ Below w.heap.size w wr) (fun _ i _ _ _ _ _ _ _ _ _ _ _ _ _ => n - (Lib.intOf i).toNat)
    case atStart => exact ⟨0, Nat.zero_le _, rfl, Lib.hid (fun j h => by omega), Below.refl _ _⟩
    case round =>
      obtain ⟨k, hk, rfl, HE, hB⟩ := hrel
      by_cases hlt : k < n
      · obtain ⟨p, hp⟩ : ∃ p, l[k]? = some p := ⟨_, List.getElem?_eq_getElem (by have := HN.out; omega)⟩
        obtain ⟨q, hq⟩ : ∃ q, m[k]? = some q := ⟨_, List.getElem?_eq_getElem (by have := HNM.out; omega)⟩
        obtain ⟨g1, o1, rfl, hg1, hc1⟩ := H1.out (by omega)
        obtain ⟨g2, o2, rfl, hg2, hc2⟩ := H2.out (by omega)
        obtain ⟨q0, q1, q2⟩ := hc1 k p hp
        obtain ⟨s0, s1, s2⟩ := hc2 k q hq
        have r0 := (hB.cell (p := ⟨g1, _, none⟩) hg1).trans q0
        have r1 := (hB.cell (p := ⟨g1, _, none⟩) hg1).trans q1
        have r2 := (hB.cell (p := ⟨g1, _, none⟩) hg1).trans q2
        have x0 := (hB.cell (p := ⟨g2, _, none⟩) hg2).trans s0
        have x1 := (hB.cell (p := ⟨g2, _, none⟩) hg2).trans s1
        have x2 := (hB.cell (p := ⟨g2, _, none⟩) hg2).trans s2
        have hgd := lguard41
        have HP := Lib.hid hp
        have HQ := Lib.hid hq
        clear q0 q1 q2 s0 s1 s2 hc1 hc2 hp hq
        by_cases hpq : p = q
        · have hne := lneq41 p q false (by simp [hpq])
          have HE' : Hid (∀ j, j < k + 1 → l[j]? = m[j]?) := Lib.hid (fun j hj => by
            by_cases e : j = k
            · subst e; rw [HP.out, HQ.out, hpq]
            · exact HE.out j (by omega))
          clear hpq
          go_wp2
          go_region
          go_wp2
          go_roundw
          case rel => exact ⟨k + 1, hlt, by go_num, HE', hB.drew⟩
          case measure => simp [Lib.intOf]; omega
        · have hne := lneq41 p q true (by simp [hpq])
          have HD : Hid (decide (l = m) = false) := Lib.hid (decide_eq_false (llist_ne HP.out HQ.out hpq))
          clear hpq
          go_wp2
          go_region
          go_wp2
          go_ret
          exact ⟨by rw [HD.out]; rfl, hB.drew⟩
      · have HD : Hid (decide (l = m) = true) := Lib.hid (decide_eq_true (List.ext_getElem? fun j => by
          by_cases h : j < k
          · exact HE.out j h
          · rw [List.getElem?_eq_none (by have := HN.out; omega), List.getElem?_eq_none (by have := HNM.out; omega)]))
        go_wp2
        go_ret
        exact ⟨by rw [HD.out]; rfl, hB⟩
  · have t0 : ((l.length : Int) == (m.length : Int)) = false := by simpa using fun h => hlen (by omega)
    have HD : decide (l = m) = false := decide_eq_false fun e => hlen (by rw [e])
    obtain ⟨n1, hn1⟩ : ∃ n, n = l.length := ⟨_, rfl⟩
    obtain ⟨n2, hn2⟩ : ∃ n, n = m.length := ⟨_, rfl⟩
    rw [← hn1, ← hn2] at t0 ⊢
    rw [HD]
    clear hc1 hc2 h1 h2 hlen HD hlc1 hlc2 hn1 hn2
    have t1 : ¬ (n1 : Int) = (n2 : Int) := by simpa using t0
    go_enter Tryd.func24, Tryd.ntmps24
    go_wp2
    go_ret
    exact ⟨rfl, Below.refl _ _⟩

end Go.Proofs.YtophihnjlodmjaaDoor

namespace Go.Proofs.YtophihnjlodmjaaDoor
open Go.RowKit Go.Shelf
attribute [local go_sem] Oper.semAt_some

theorem lv_a {fr tt : Bs} {l : List Lf} (h : okLs l = false) (w : World) {e : Ending} {w' : World} (H : LvR fr tt l w e w') : e = .returned (.tuple #[.slice none 0 0, .int .i64 190]) ∧ Below w.heap.size w w' := by
  obtain ⟨⟨_, he⟩ | ⟨h1, _⟩ | ⟨h1, _⟩, hb⟩ := H
  · exact ⟨he, hb⟩
  · rw [h] at h1; cases h1
  · rw [h] at h1; cases h1
theorem lv_b {fr tt : Bs} {l : List Lf} (h : okLs l = true) (h2 : ¬ (okB fr = true ∧ okB tt = true)) (w : World) {e : Ending} {w' : World} (H : LvR fr tt l w e w') : e = .returned (.tuple #[.slice none 0 0, .int .i64 240]) ∧ Below w.heap.size w w' := by
  obtain ⟨⟨h1, _⟩ | ⟨_, _, he⟩ | ⟨_, h3, h4, _⟩, hb⟩ := H
  · rw [h] at h1; cases h1
  · exact ⟨he, hb⟩
  · exact absurd ⟨h3, h4⟩ h2
theorem lv_c {fr tt : Bs} {l : List Lf} (h : okLs l = true) (h2 : okB fr = true) (h3 : okB tt = true) (h4 : mvLs fr tt l = none) (w : World) {e : Ending} {w' : World} (H : LvR fr tt l w e w') : e = .returned (.tuple #[.slice none 0 0, .int .i64 3]) ∧ Below w.heap.size w w' := by
  obtain ⟨⟨h1, _⟩ | ⟨_, hn, _⟩ | ⟨_, _, _, ⟨_, he⟩ | ⟨m, v, hm, _⟩⟩, hb⟩ := H
  · rw [h] at h1; cases h1
  · exact absurd ⟨h2, h3⟩ hn
  · exact ⟨he, hb⟩
  · rw [h4] at hm; cases hm
theorem lv_d {fr tt : Bs} {l m : List Lf} (h : okLs l = true) (h2 : okB fr = true) (h3 : okB tt = true) (h4 : mvLs fr tt l = some m) (w : World) {e : Ending} {w' : World} (H : LvR fr tt l w e w') : ∃ a c, e = .returned (.tuple #[.slice a m.length c, .int .i64 0]) ∧ OwnL w' w.heap.size (.slice a m.length c) m ∧ Below w.heap.size w w' := by
  obtain ⟨⟨h1, _⟩ | ⟨_, hn, _⟩ | ⟨_, _, _, ⟨h5, _⟩ | ⟨m', v, hm, he, ho⟩⟩, hb⟩ := H
  · rw [h] at h1; cases h1
  · exact absurd ⟨h2, h3⟩ hn
  · rw [h4] at h5; cases h5
  · rw [h4] at hm; cases hm
    obtain ⟨a, c, rfl⟩ := ho.slice
    exact ⟨a, c, he, ho, hb⟩
theorem rlv_c {fr tt : Bs} {l : List Lf} (h4 : mvLs fr tt l = none) (w : World) {e : Ending} {w' : World} (H : RLvR fr tt l w e w') : e = .returned (.tuple #[.slice none 0 0, .bool false]) ∧ Below w.heap.size w w' := by
  obtain ⟨⟨_, he⟩ | ⟨m, v, hm, _⟩, hb⟩ := H
  · exact ⟨he, hb⟩
  · rw [h4] at hm; cases hm
theorem rlv_d {fr tt : Bs} {l m : List Lf} (h4 : mvLs fr tt l = some m) (w : World) {e : Ending} {w' : World} (H : RLvR fr tt l w e w') : ∃ a c, e = .returned (.tuple #[.slice a m.length c, .bool true]) ∧ OwnL w' w.heap.size (.slice a m.length c) m ∧ Below w.heap.size w w' := by
  obtain ⟨⟨h5, _⟩ | ⟨m', v, hm, he, ho⟩, hb⟩ := H
  · rw [h4] at h5; cases h5
  · rw [h4] at hm; cases hm
    obtain ⟨a, c, rfl⟩ := ho.slice
    exact ⟨a, c, he, ho, hb⟩
theorem lequal_self (l : List Lf) (v1 v2 : Value) (w : World) (h1 : RdL w v1 l) (h2 : RdL w v2 l) : Calls Tryd.prog 24 #[v1, v2] w fun e w' => e = .returned (.bool true) ∧ Below w.heap.size w w' :=
  (lequal_any l l v1 v2 w h1 h2).mono (by
    rintro e w' ⟨h, hb⟩
    rw [decide_eq_true rfl] at h
    exact ⟨h, hb⟩)
theorem own_cellX {w : World} {B g n c size : Nat} {e : TypeId} {xs : List Value} (h : w.ownsRow B e size (.slice (some ⟨g, 0, none⟩) n c) n xs) {j : Nat} (hj : j < n * size) : (∃ u, w.cell? ⟨g, j, none⟩ = some u) ∧ w.frozen? ⟨g, j, none⟩ = false := by
  obtain ⟨_, ⟨h2, _⟩ | ⟨g2, cap, cur, hv, hb, hg2, hc, _, hs, _⟩⟩ := h
  · cases h2
  · cases hv
    have hz : j < cur.size := by
      have := Nat.mul_le_mul_right size hc
      omega
    exact ⟨⟨cur[j], (cell_of_row w g j cur e (0, 0) hg2).trans (Array.getElem?_eq_getElem hz)⟩, frozen_of_row w g j cur e hg2⟩
theorem built25b (a b : ByteArray) : Tryd.prog.built 25 [(1, .string a), (2, .string b)] = some #[.string ⟨#[]⟩, .string a, .string b] := by kernel_rfl

set_option maxRecDepth 100000 in
set_option maxHeartbeats 8000000 in
theorem lleaves_law (l : List Lf) (fr tt : Bs) (v : Value) (w : World) (hv : RdL w v l) (hp : ∀ x ∈ l, x.p.length ≤ 2000000) : Calls Tryd.prog 5 #[v, .string ⟨fr.toArray⟩, .string ⟨tt.toArray⟩] w fun e w' => e = .returned (.bool true) ∧ Below w.heap.size w w' := by
  have HP := Lib.hid hp
  clear hp
  have HV := Lib.hid hv
  obtain ⟨a, c, rfl, hlc, hcm, hcc⟩ := hv.open
  obtain ⟨n, hn⟩ : ∃ n, n = l.length := ⟨_, rfl⟩
  rw [← hn] at HV hlc ⊢
  have HN := Lib.hid hn
  obtain ⟨F, hF⟩ : ∃ F, F = fr.take 64 := ⟨_, rfl⟩
  obtain ⟨T, hT⟩ : ∃ T, T = tt.take 64 := ⟨_, rfl⟩
  have HFL : Hid (F.length ≤ 64) := Lib.hid (by rw [hF, List.length_take]; omega)
  have HTL : Hid (T.length ≤ 64) := Lib.hid (by rw [hT, List.length_take]; omega)
  have HOW : Hid (∀ W : World, Calls Tryd.prog 10 #[.agg #[.string ⟨#[]⟩, .string ⟨fr.toArray⟩, .string ⟨tt.toArray⟩]] W fun e w' => e = .returned (.agg #[.string ⟨#[]⟩, .string ⟨F.toArray⟩, .string ⟨T.toArray⟩]) ∧ Below W.heap.size W w') := Lib.hid (fun W => by rw [hF, hT]; exact own_any [] fr tt W)
  clear hv hn hcc hF hT
  unfold maxLen at hcm
  have hbu := built25b ⟨fr.toArray⟩ ⟨tt.toArray⟩
  obtain ⟨mm, hmm⟩ : ∃ mm, mm = min n 17 := ⟨_, rfl⟩
  have pm : min (n : Int) 17 = (mm : Int) := by omega
  have pm1 : (0 : Int) ≤ (mm : Int) := by omega
  have pm2 : (mm : Int) ≤ (n : Int) := by omega
  have pm3 : (mm : Int) ≤ (c : Int) := by omega
  have hmn : mm ≤ n := by omega
  have hm17 : mm ≤ 17 := by omega
  obtain ⟨l0, hl0⟩ : ∃ l0, l0 = l.take mm := ⟨_, rfl⟩
  have HL0 : Hid (l0.length = mm) := Lib.hid (by rw [hl0, List.length_take]; have := HN.out; omega)
  have HV0 : Hid (RdL w (.slice a mm c) l0) := Lib.hid (by rw [hl0]; exact RdL.take HN.out HV.out mm hmn)
  have HP0 : Hid (∀ x ∈ l0, x.p.length ≤ 2000000) := Lib.hid (fun x hx => HP.out x (by rw [hl0] at hx; exact List.mem_of_mem_take hx))
  clear hl0 hmm
  go_enter Tryd.func5, Tryd.ntmps5
  go_upto_region 3 with (go_at_call 9; refine (wakes_any _).mono ?_; rintro e w1 ⟨rfl, hb⟩; have B1 := Lib.hid hb; clear hb)
  go_upto_region 4 with (go_at_call 10; refine (HOW.out _).mono ?_; rintro e w2 ⟨rfl, hb⟩; have B2 := Lib.hid (bch B1.out hb); clear hb)
  obtain ⟨w3, hw3⟩ : ∃ q, q = w2.alloc (.cells #[.string ⟨#[]⟩, .string ⟨F.toArray⟩, .string ⟨T.toArray⟩] 25) := ⟨_, rfl⟩
  have X3 : Hid (Box w3 w2.heap.size 25 (Cs.arr ⟨[], F, T⟩)) := Lib.hid (by rw [hw3]; exact box_new)
  have B3 : Hid (Below w.heap.size w w3) := Lib.hid (by rw [hw3]; exact bch B2.out (below_new _ _))
  rw [← hw3]
  obtain ⟨bx, hbx⟩ : ∃ q, q = w2.heap.size := ⟨_, rfl⟩
  rw [← hbx] at X3 ⊢
  clear hw3 hbx hbu
  go_upto_region 5 with (go_at_call 20; refine (lclone_any l0 _ _ (HV0.out.on B3.out) (by rw [HL0.out]; omega)).mono ?_; rintro e w4 ⟨v0, rfl, ho, hb⟩; have HO4 : Hid (OwnL w4 _ v0 l0) := Lib.hid ho; have HB4 := Lib.hid hb; obtain ⟨a0, c0, rfl⟩ := HO4.out.slice; clear ho hb; rw [HL0.out] at HO4 ⊢)
  go_upto_region 6 with (go_at_call 20; refine (lclone_any l0 _ _ HO4.out.rd (by rw [HL0.out]; omega)).mono ?_; rintro e w5 ⟨v8, rfl, ho, hb⟩; have HO5 : Hid (OwnL w5 _ v8 l0) := Lib.hid ho; have HB5 := Lib.hid hb; obtain ⟨a8, c8, rfl⟩ := HO5.out.slice; clear ho hb; rw [HL0.out] at HO5 ⊢)
  have X5 : Hid (Box w5 bx 25 (Cs.arr ⟨[], F, T⟩)) := Lib.hid ((X3.out.on HB4.out).on HB5.out)
  have BW : Hid (Below w.heap.size w w5) := Lib.hid (bch (bch B3.out HB4.out) HB5.out)
  have HR0 : Hid (∀ W, Below w5.heap.size w5 W → RdL W (.slice a0 mm c0) l0) := Lib.hid (fun W hW => (HO4.out.rd.on HB5.out).on hW)
  have HR8 : Hid (∀ W, Below w5.heap.size w5 W → RdL W (.slice a8 mm c8) l0) := Lib.hid (fun W hW => HO5.out.rd.on hW)
  have HXW : Hid (∀ W, Below w5.heap.size w5 W → W.cell? ⟨bx, 1, none⟩ = some (.string ⟨F.toArray⟩) ∧ W.cell? ⟨bx, 2, none⟩ = some (.string ⟨T.toArray⟩)) := Lib.hid (fun W hW => ⟨(X5.out.on hW).cell (k := 1) rfl, (X5.out.on hW).cell (k := 2) rfl⟩)
  have x1 := (HXW.out w5 (Below.refl _ _)).1
  have x2 := (HXW.out w5 (Below.refl _ _)).2
  have HLV := Lib.hid (leaves_any l0 F T _ w5 (HR0.out w5 (Below.refl _ _)) HFL.out HTL.out)
  clear pm pm1 pm2 pm3 hmn hlc hcm X3 B1 B2 B3
  cases hok : okLs l0 with
  | false =>
    have HK := Lib.hid hok
    clear hok
    go_wp2_with (first | (go_at_call 21; refine HLV.out.mono ?_; rintro e w6 h; obtain ⟨rfl, hb⟩ := lv_a HK.out _ h; have HB6 := Lib.hid hb; clear h hb x1 x2; have x1 := (HXW.out w6 HB6.out).1; have x2 := (HXW.out w6 HB6.out).2) | (go_at_call 22; refine (rrightls_any l0 _ _ (HR8.out _ HB6.out) (by rw [HL0.out]; omega) HP0.out).mono ?_; rintro e w7 ⟨rfl, hb⟩; rw [HK.out]; have HB7 := Lib.hid (bch HB6.out hb); clear hb x1 x2; have x1 := (HXW.out w7 HB7.out).1; have x2 := (HXW.out w7 HB7.out).2) | (go_at_call 24; refine (lequal_self [] _ _ _ (RdL.nil _) (RdL.nil _)).mono ?_; rintro e w9 ⟨rfl, hb⟩; have HB9 := Lib.hid (bch HB7.out hb); clear hb))
    go_loopw [75] (fun i W => i = .int .i64 0 ∧ Hid (Below w5.heap.size w5 W)) (fun _ _ => 0)
    case atStart => exact ⟨rfl, HB9⟩
    case round =>
      obtain ⟨rfl, HBr⟩ := hrel
      have HQ := Lib.hid (lequal_self l0 _ _ wr (HR0.out _ HBr.out) (HR8.out _ HBr.out))
      clear x1 x2
      go_wp2_with (go_at_call 24; refine HQ.out.mono ?_; rintro e wy ⟨rfl, hb⟩; have HBy := Lib.hid (bch HBr.out hb); clear hb)
      go_ret
      exact ⟨rfl, bch BW.out HBy.out⟩
  | true =>
    have HK := Lib.hid hok
    clear hok
    cases hfr : okB F with
    | false =>
      have E1 := Lib.hid hfr
      have E2 : Hid (okB T = okB T) := Lib.hid rfl
      have HNO : Hid (¬ (okB F = true ∧ okB T = true)) := Lib.hid (by rw [hfr]; simp)
      clear hfr
      go_wp2_with (first | (go_at_call 21; refine HLV.out.mono ?_; rintro e w6 h; obtain ⟨rfl, hb⟩ := lv_b HK.out HNO.out _ h; have HB6 := Lib.hid hb; clear h hb x1 x2; have x1 := (HXW.out w6 HB6.out).1; have x2 := (HXW.out w6 HB6.out).2) | (go_at_call 22; refine (rrightls_any l0 _ _ (HR8.out _ HB6.out) (by rw [HL0.out]; omega) HP0.out).mono ?_; rintro e w7 ⟨rfl, hb⟩; rw [HK.out]; have HB7 := Lib.hid (bch HB6.out hb); clear hb x1 x2; have x1 := (HXW.out w7 HB7.out).1; have x2 := (HXW.out w7 HB7.out).2) | (go_at_call 11; refine (rright_any _ (by have := HFL.out; have := HTL.out; omega) _).mono ?_; rintro e w' ⟨rfl, rfl⟩; first | rw [E1.out] | rw [E2.out]) | (go_at_call 24; refine (lequal_self [] _ _ _ (RdL.nil _) (RdL.nil _)).mono ?_; rintro e w9 ⟨rfl, hb⟩; have HB9 := Lib.hid (bch HB7.out hb); clear hb))
      go_loopw [75] (fun i W => i = .int .i64 0 ∧ Hid (Below w5.heap.size w5 W)) (fun _ _ => 0)
      case atStart => exact ⟨rfl, HB9⟩
      case round =>
        obtain ⟨rfl, HBr⟩ := hrel
        have HQ := Lib.hid (lequal_self l0 _ _ wr (HR0.out _ HBr.out) (HR8.out _ HBr.out))
        clear x1 x2
        go_wp2_with (go_at_call 24; refine HQ.out.mono ?_; rintro e wy ⟨rfl, hb⟩; have HBy := Lib.hid (bch HBr.out hb); clear hb)
        go_ret
        exact ⟨rfl, bch BW.out HBy.out⟩
    | true =>
      have E1 := Lib.hid hfr
      clear hfr
      cases htt : okB T with
      | false =>
        have E2 := Lib.hid htt
        have HNO : Hid (¬ (okB F = true ∧ okB T = true)) := Lib.hid (by rw [htt]; simp)
        clear htt
        go_wp2_with (first | (go_at_call 21; refine HLV.out.mono ?_; rintro e w6 h; obtain ⟨rfl, hb⟩ := lv_b HK.out HNO.out _ h; have HB6 := Lib.hid hb; clear h hb x1 x2; have x1 := (HXW.out w6 HB6.out).1; have x2 := (HXW.out w6 HB6.out).2) | (go_at_call 22; refine (rrightls_any l0 _ _ (HR8.out _ HB6.out) (by rw [HL0.out]; omega) HP0.out).mono ?_; rintro e w7 ⟨rfl, hb⟩; rw [HK.out]; have HB7 := Lib.hid (bch HB6.out hb); clear hb x1 x2; have x1 := (HXW.out w7 HB7.out).1; have x2 := (HXW.out w7 HB7.out).2) | (go_at_call 11; refine (rright_any _ (by have := HFL.out; have := HTL.out; omega) _).mono ?_; rintro e w' ⟨rfl, rfl⟩; first | rw [E1.out] | rw [E2.out]) | (go_at_call 24; refine (lequal_self [] _ _ _ (RdL.nil _) (RdL.nil _)).mono ?_; rintro e w9 ⟨rfl, hb⟩; have HB9 := Lib.hid (bch HB7.out hb); clear hb))
        go_loopw [75] (fun i W => i = .int .i64 0 ∧ Hid (Below w5.heap.size w5 W)) (fun _ _ => 0)
        case atStart => exact ⟨rfl, HB9⟩
        case round =>
          obtain ⟨rfl, HBr⟩ := hrel
          have HQ := Lib.hid (lequal_self l0 _ _ wr (HR0.out _ HBr.out) (HR8.out _ HBr.out))
          clear x1 x2
          go_wp2_with (go_at_call 24; refine HQ.out.mono ?_; rintro e wy ⟨rfl, hb⟩; have HBy := Lib.hid (bch HBr.out hb); clear hb)
          go_ret
          exact ⟨rfl, bch BW.out HBy.out⟩
      | true =>
        have E2 := Lib.hid htt
        clear htt
        have HRL : Hid (∀ W, Below w5.heap.size w5 W → Calls Tryd.prog 23 #[.slice a8 mm c8, .string ⟨F.toArray⟩, .string ⟨T.toArray⟩] W (RLvR F T l0 W)) := Lib.hid (fun W hW => rleaves_any l0 F T _ W (HR8.out W hW) HFL.out HTL.out ((okB_iff F).1 E1.out).1 (by rw [HL0.out]; omega) (fun x hx => okLs_data HK.out hx))
        cases hmv : mvLs F T l0 with
        | none =>
          have HMV := Lib.hid hmv
          clear hmv
          go_wp2_with (first | (go_at_call 21; refine HLV.out.mono ?_; rintro e w6 h; obtain ⟨rfl, hb⟩ := lv_c HK.out E1.out E2.out HMV.out _ h; have HB6 := Lib.hid hb; clear h hb x1 x2; have x1 := (HXW.out w6 HB6.out).1; have x2 := (HXW.out w6 HB6.out).2) | (go_at_call 22; refine (rrightls_any l0 _ _ (HR8.out _ HB6.out) (by rw [HL0.out]; omega) HP0.out).mono ?_; rintro e w7 ⟨rfl, hb⟩; rw [HK.out]; have HB7 := Lib.hid (bch HB6.out hb); clear hb x1 x2; have x1 := (HXW.out w7 HB7.out).1; have x2 := (HXW.out w7 HB7.out).2) | (go_at_call 11; refine (rright_any _ (by have := HFL.out; have := HTL.out; omega) _).mono ?_; rintro e w' ⟨rfl, rfl⟩; first | rw [E1.out] | rw [E2.out]) | (go_at_call 23; refine (HRL.out _ HB7.out).mono ?_; rintro e w8 h; obtain ⟨rfl, hb⟩ := rlv_c HMV.out _ h; have HB8 := Lib.hid (bch HB7.out hb); clear h hb) | (go_at_call 24; refine (lequal_self [] _ _ _ (RdL.nil _) (RdL.nil _)).mono ?_; rintro e w9 ⟨rfl, hb⟩; have HB9 := Lib.hid (bch HB8.out hb); clear hb))
          go_loopw [75] (fun i W => i = .int .i64 0 ∧ Hid (Below w5.heap.size w5 W)) (fun _ _ => 0)
          case atStart => exact ⟨rfl, HB9⟩
          case round =>
            obtain ⟨rfl, HBr⟩ := hrel
            have HQ := Lib.hid (lequal_self l0 _ _ wr (HR0.out _ HBr.out) (HR8.out _ HBr.out))
            clear x1 x2
            go_wp2_with (go_at_call 24; refine HQ.out.mono ?_; rintro e wy ⟨rfl, hb⟩; have HBy := Lib.hid (bch HBr.out hb); clear hb)
            go_ret
            exact ⟨rfl, bch BW.out HBy.out⟩
        | some m =>
          have HMV := Lib.hid hmv
          obtain ⟨n9, hn9⟩ : ∃ n9, n9 = m.length := ⟨_, rfl⟩
          have hn17 : n9 ≤ 17 := by have := mvLs_len F T hmv; rw [HL0.out] at this; omega
          have HN9 := Lib.hid hn9
          clear hmv hn9
          go_wp2_with (first | (go_at_call 21; refine HLV.out.mono ?_; rintro e w6 h; obtain ⟨a9, c9, rfl, ho, hb⟩ := lv_d HK.out E1.out E2.out HMV.out _ h; have HB6 := Lib.hid hb; have HO6 := Lib.hid ho; rw [← HN9.out] at HO6 ⊢; clear h hb ho x1 x2; have x1 := (HXW.out w6 HB6.out).1; have x2 := (HXW.out w6 HB6.out).2) | (go_at_call 22; refine (rrightls_any l0 _ _ (HR8.out _ HB6.out) (by rw [HL0.out]; omega) HP0.out).mono ?_; rintro e w7 ⟨rfl, hb⟩; rw [HK.out]; have HB7 := Lib.hid (bch HB6.out hb); have HO7 := Lib.hid (HO6.out.on hb); clear hb x1 x2; have x1 := (HXW.out w7 HB7.out).1; have x2 := (HXW.out w7 HB7.out).2) | (go_at_call 11; refine (rright_any _ (by have := HFL.out; have := HTL.out; omega) _).mono ?_; rintro e w' ⟨rfl, rfl⟩; first | rw [E1.out] | rw [E2.out]) | (go_at_call 23; refine (HRL.out _ HB7.out).mono ?_; rintro e w8 h; obtain ⟨a11, c11, rfl, ho, hb⟩ := rlv_d HMV.out _ h; have HB8 := Lib.hid (bch HB7.out hb); have HP8 := Lib.hid ho; have HO8 := Lib.hid (HO7.out.on hb); rw [← HN9.out] at HP8 ⊢; clear h hb ho) | (go_at_call 24; refine (lequal_self m _ _ _ HO8.out.rd HP8.out.rd).mono ?_; rintro e w9 ⟨rfl, hb⟩; have HB9 := Lib.hid (bch HB8.out hb); have HO9 := Lib.hid (HO8.out.on hb); clear hb))
          clear x1 x2
          have HOX : Hid (∃ xs, w9.ownsRow w5.heap.size 41 3 (.slice a9 n9 c9) n9 xs) := Lib.hid ⟨flatL m, by have := HO9.out; unfold OwnL at this; rw [← HN9.out] at this; exact this⟩
          go_loopw [75] (fun i W => ∃ k : Nat, k ≤ n9 ∧ i = .int .i64 (k : Int) ∧ Hid (∃ xs, W.ownsRow w5.heap.size 41 3 (.slice a9 n9 c9) n9 xs) ∧ Hid (Below w5.heap.size w5 W)) (fun i _ => n9 - (Lib.intOf i).toNat)
          case atStart => exact ⟨0, Nat.zero_le _, rfl, HOX, HB9⟩
          case round =>
            obtain ⟨k, hk, rfl, HO, HBr⟩ := hrel
            by_cases hlt : k < n9
            · obtain ⟨xs, hxs⟩ := HO.out
              obtain ⟨g, cap', e, hgB, hgl⟩ := World.ownsRow.form hxs (by omega)
              cases e
              obtain ⟨⟨u, hu⟩, hfz⟩ := own_cellX hxs (j := k * 3) (by omega)
              have k1 : (k : Int) < (n9 : Int) := by omega
              have k2 : (0 : Int) ≤ (k : Int) := by omega
              have k4 : IntKind.i64.wrap ((k : Int) + 1) = (k : Int) + 1 := IntWalk.i64_in _ (by omega)
              have HO2 : Hid (∃ xs, (wr.setCell ⟨g, k * 3, none⟩ (.string ⟨#[]⟩)).ownsRow w5.heap.size 41 3 (.slice (some ⟨g, 0, none⟩) n9 c9) n9 xs) := Lib.hid ⟨_, own_store hxs (k * 3) _⟩
              have HB2 : Hid (Below w5.heap.size w5 (wr.setCell ⟨g, k * 3, none⟩ (.string ⟨#[]⟩))) := Lib.hid (below_set HBr.out hgB _)
              clear hxs
              go_wp2_with fail
              go_roundw
              case rel => exact ⟨k + 1, hlt, by go_num, HO2, HB2⟩
              case measure => simp [Lib.intOf]; omega
            · have k1 : ¬ ((k : Int) < (n9 : Int)) := by omega
              have HQ := Lib.hid (lequal_self l0 _ _ wr (HR0.out _ HBr.out) (HR8.out _ HBr.out))
              go_wp2_with (go_at_call 24; refine HQ.out.mono ?_; rintro e wy ⟨rfl, hb⟩; have HBy := Lib.hid (bch HBr.out hb); clear hb)
              go_ret
              exact ⟨rfl, bch BW.out HBy.out⟩
end Go.Proofs.YtophihnjlodmjaaDoor
