/- Proved here: Same of puncheonref16. -/
import Derived.Test.YtgmplpfbhcdofaaCSame
namespace Go.Proofs.Ytgmplpfbhcdofaa
open Go.RowKit Go.Shelf Go.Lib
attribute [local go_sem] Oper.semAt_some

theorem int_at {w : World} {a : Option Addr} {n c : Nat} {l : List Int} (h : Rd w (.slice a n c) (intsV l)) (j : Nat) (hj : j < l.length) : ∃ g o, a = some ⟨g, o, none⟩ ∧ w.cell? ⟨g, o + j, none⟩ = some (.int .i64 (l[j])) := by
  obtain ⟨a', cap, e, h1, h2, h3, h4⟩ := h
  cases e
  obtain ⟨g, o, e, hg, hc⟩ := h4 (by rw [intsV_len]; omega)
  exact ⟨g, o, e, hc j _ (by unfold intsV; rw [List.getElem?_map, List.getElem?_eq_getElem hj]; rfl)⟩
set_option maxRecDepth 100000 in
set_option maxHeartbeats 8000000 in
theorem rsame_any (l m : List Cz) (v1 v2 : Value) (w : World) (h1 : RdC w v1 l) (h2 : RdC w v2 m) : Calls Try.prog 8 #[v1, v2] w fun e w' => e = .returned (.bool (decide (l = m))) ∧ Below w.heap.size w w' := by
  have H1 := Lib.hid h1
  have H2 := Lib.hid h2
  obtain ⟨a1, c1, rfl, hl1, hm1, _⟩ := h1
  obtain ⟨a2, c2, rfl, hl2, hm2, _⟩ := h2
  obtain ⟨n, hn⟩ : ∃ n, n = l.length := ⟨_, rfl⟩
  obtain ⟨n2, hn2⟩ : ∃ n, n = m.length := ⟨_, rfl⟩
  rw [← hn] at H1 hl1 ⊢
  rw [← hn2] at H2 hl2 ⊢
  have HN := Lib.hid hn
  have HN2 := Lib.hid hn2
  unfold maxLen at hm1 hm2
  clear hn hn2
  by_cases hlen : n = n2
  · subst hlen
    have t0 : ((n : Int) != (n : Int)) = false := by simp
    go_enter Try.func8, Try.ntmps8
    go_wp2_with fail
    clear t0
    go_loopw [17] (fun i W => ∃ k : Nat, k ≤ n ∧ i = .int .i64 (k : Int) ∧ Hid (∀ j, j < k → l[j]? = m[j]?) ∧ Hid (Below w.heap.size w W)) (fun i _ => n - (Lib.intOf i).toNat)
    case atStart => exact ⟨0, Nat.zero_le _, rfl, Lib.hid (fun j h => absurd h (Nat.not_lt_zero _)), Lib.hid (Below.refl _ _)⟩
    case round =>
      obtain ⟨k, hk, rfl, HLo, HB⟩ := hrel
      obtain ⟨wq, hwq⟩ : ∃ q, q = wr := ⟨_, rfl⟩
      rw [← hwq] at HB ⊢
      clear hwq
      by_cases hlt : k < n
      · obtain ⟨x, hx⟩ : ∃ x, l[k]? = some x := ⟨_, List.getElem?_eq_getElem (by rw [← HN.out]; exact hlt)⟩
        obtain ⟨y, hy⟩ : ∃ y, m[k]? = some y := ⟨_, List.getElem?_eq_getElem (by rw [← HN2.out]; exact hlt)⟩
        obtain ⟨a', c', e, z1, z2, hc⟩ := H1.out.on HB.out
        clear z1 z2
        rw [← HN.out] at e
        cases e
        obtain ⟨g, o, rfl, hg, hd⟩ := hc (by rw [← HN.out]; omega)
        obtain ⟨ax, cx, x0, x1, x2, x3⟩ := hd k x hx
        obtain ⟨a', c', e, z1, z2, hc2⟩ := H2.out.on HB.out
        clear z1 z2
        rw [← HN2.out] at e
        cases e
        obtain ⟨g2, o2, rfl, hg2, hd2⟩ := hc2 (by rw [← HN2.out]; omega)
        obtain ⟨ay, cy, y0, y1, y2, y3⟩ := hd2 k y hy
        have k1 : (k : Int) < (n : Int) := by omega
        have k2 : (0 : Int) ≤ (k : Int) := by omega
        have k4 : IntKind.i64.wrap ((k : Int) + 1) = (k : Int) + 1 := IntWalk.i64_in _ (by omega)
        obtain ⟨nx, hnx⟩ : ∃ z, z = x.own.length := ⟨_, rfl⟩
        obtain ⟨ny, hny⟩ : ∃ z, z = y.own.length := ⟨_, rfl⟩
        rw [← hnx] at x2 x3
        rw [← hny] at y2 y3
        obtain ⟨w5, hw5⟩ : ∃ q, q = (wq.alloc (.cells #[.string ⟨x.p.toArray⟩, .bool x.dir, .slice ax nx cx] 43)).alloc (.cells #[.string ⟨y.p.toArray⟩, .bool y.dir, .slice ay ny cy] 43) := ⟨_, rfl⟩
        have hb5 : Below wq.heap.size wq w5 := by rw [hw5]; exact bch (below_new _ _) (below_new _ _)
        have HRX := Lib.hid (x3.on hb5)
        have HRY := Lib.hid (y3.on hb5)
        have hsx := x3.short
        rw [intsV_len, ← hnx] at hsx
        have HB5 : Hid (Below w.heap.size w w5) := Lib.hid (bch HB.out hb5)
        have HW5 := Lib.hid hw5
        have X5 : Box w5 wq.heap.size 43 #[.string ⟨x.p.toArray⟩, .bool x.dir, .slice ax nx cx] := by rw [hw5]; exact box_new.alloc _
        have Y5 : Box w5 (wq.heap.size + 1) 43 #[.string ⟨y.p.toArray⟩, .bool y.dir, .slice ay ny cy] := by rw [hw5, show wq.heap.size + 1 = (wq.alloc (.cells #[.string ⟨x.p.toArray⟩, .bool x.dir, .slice ax nx cx] 43)).heap.size from by simp]; exact box_new
        have HX := Lib.hid hx
        have HY := Lib.hid hy
        have HNX := Lib.hid hnx
        have HNY := Lib.hid hny
        clear hc hd hc2 hd2 hx hy hb5 x3 y3 hnx hny
        go_upto_region 7 with fail
        obtain ⟨d0, d1, d2⟩ := cl_box X5
        obtain ⟨f0, f1, f2⟩ := cl_box Y5
        rw [← HW5.out]
        obtain ⟨bx, hbx⟩ : ∃ z, z = wq.heap.size := ⟨_, rfl⟩
        rw [← hbx] at d0 d1 d2 f0 f1 f2 ⊢
        obtain ⟨by_, hby⟩ : ∃ z, z = bx + 1 := ⟨_, rfl⟩
        rw [← hby] at f0 f1 f2 ⊢
        clear X5 Y5 hw5 x0 x1 x2 y0 y1 y2 hbx hby HW5
        have HNE : Hid (¬ x = y → decide (l = m) = false) := Lib.hid (fun h => decide_eq_false (list_ne HX.out HY.out h))
        by_cases hp : x.p = y.p
        · have t1 : (x.p == y.p) = true := by simp [hp]
          have t1' : (x.p != y.p) = false := by simp [hp]
          have HP := Lib.hid hp
          clear hp
          by_cases hdd : x.dir = y.dir
          · have t2 : (x.dir == y.dir) = true := by simp [hdd]
            have t2' : (x.dir != y.dir) = false := by simp [hdd]
            have HD := Lib.hid hdd
            clear hdd
            by_cases hnn : nx = ny
            · subst hnn
              have t3 : ((nx : Int) != (nx : Int)) = false := by simp
              go_wp2_with fail
              clear t1 t1' t2 t2' t3
              go_loopw [50] (fun i W => ∃ q : Nat, q ≤ nx ∧ i = .int .i64 (q : Int) ∧ Hid (∀ j, j < q → x.own[j]? = y.own[j]?) ∧ W = w5) (fun i _ => nx - (Lib.intOf i).toNat)
              case atStart => exact ⟨0, Nat.zero_le _, rfl, Lib.hid (fun j h => absurd h (Nat.not_lt_zero _)), rfl⟩
              case round =>
                obtain ⟨q, hq, rfl, HLq, rfl⟩ := hrel
                by_cases hltq : q < nx
                · obtain ⟨gx, ox, rfl, hcx⟩ := int_at HRX.out q (by rw [← HNX.out]; exact hltq)
                  obtain ⟨gy, oy, rfl, hcy⟩ := int_at HRY.out q (by rw [← HNY.out]; exact hltq)
                  obtain ⟨ix, hix⟩ : ∃ z, z = x.own[q]'(by rw [← HNX.out]; exact hltq) := ⟨_, rfl⟩
                  obtain ⟨iy, hiy⟩ : ∃ z, z = y.own[q]'(by rw [← HNY.out]; exact hltq) := ⟨_, rfl⟩
                  rw [← hix] at hcx
                  rw [← hiy] at hcy
                  have HIX : Hid (x.own[q]? = some ix) := Lib.hid (by rw [hix]; exact List.getElem?_eq_getElem _)
                  have HIY : Hid (y.own[q]? = some iy) := Lib.hid (by rw [hiy]; exact List.getElem?_eq_getElem _)
                  clear hix hiy
                  have q1 : (q : Int) < (nx : Int) := by omega
                  have q2 : (0 : Int) ≤ (q : Int) := by omega
                  have q4 : IntKind.i64.wrap ((q : Int) + 1) = (q : Int) + 1 := IntWalk.i64_in _ (by omega)
                  by_cases hii : ix = iy
                  · subst hii
                    have t4 : ((ix : Int) != (ix : Int)) = false := by simp
                    have HLq2 : Hid (∀ j, j < q + 1 → x.own[j]? = y.own[j]?) := Lib.hid (fun j hj => by
                      rcases Nat.lt_or_ge j q with h | h
                      · exact HLq.out j h
                      · obtain rfl : j = q := by omega
                        rw [HIX.out, HIY.out])
                    go_wp2_with fail
                    go_roundw
                    case rel => exact ⟨q + 1, hltq, by go_num, HLq2, trivial⟩
                    case measure => simp [Lib.intOf]; omega
                  · have t4 : (ix != iy) = true := by simpa using hii
                    have HR : Hid (decide (l = m) = false) := Lib.hid (HNE.out (fun e => hii (by
                      have h1 := HIX.out
                      rw [e, HIY.out] at h1
                      cases h1
                      rfl)))
                    clear hii
                    go_wp2_with fail
                    go_ret
                    exact ⟨by rw [HR.out]; rfl, HB5.out⟩
                · have q1 : ¬ ((q : Int) < (nx : Int)) := by omega
                  have HXY : Hid (x = y) := Lib.hid (by
                    have h3 : x.own = y.own := list_eq HNX.out.symm HNY.out.symm (fun j hj => HLq.out j (by omega))
                    obtain ⟨p, d, o⟩ := x
                    obtain ⟨p', d', o'⟩ := y
                    have e1 : p = p' := HP.out
                    have e2 : d = d' := HD.out
                    have e3 : o = o' := h3
                    rw [e1, e2, e3])
                  have HLo2 : Hid (∀ j, j < k + 1 → l[j]? = m[j]?) := Lib.hid (fun j hj => by
                    rcases Nat.lt_or_ge j k with h | h
                    · exact HLo.out j h
                    · obtain rfl : j = k := by omega
                      rw [HX.out, HY.out, HXY.out])
                  go_wp2_with fail
                  go_roundw
                  case rel => exact ⟨k + 1, hlt, by go_num, HLo2, HB5⟩
                  case measure => simp [Lib.intOf]; omega
            · have t3 : ((nx : Int) != (ny : Int)) = true := by simpa using (by omega : ¬ (nx : Int) = (ny : Int))
              have HR : Hid (decide (l = m) = false) := Lib.hid (HNE.out (fun e => hnn (by rw [HNX.out, HNY.out, e])))
              clear hnn
              go_wp2_with fail
              go_ret
              exact ⟨by rw [HR.out]; rfl, HB5.out⟩
          · have t2 : (x.dir == y.dir) = false := by simp [hdd]
            have t2' : (x.dir != y.dir) = true := by simp [hdd]
            have HR : Hid (decide (l = m) = false) := Lib.hid (HNE.out (fun e => hdd (by rw [e])))
            clear hdd
            go_wp2_with fail
            go_ret
            exact ⟨by rw [HR.out]; rfl, HB5.out⟩
        · have t1 : (x.p == y.p) = false := by simp [hp]
          have t1' : (x.p != y.p) = true := by simp [hp]
          have HR : Hid (decide (l = m) = false) := Lib.hid (HNE.out (fun e => hp (by rw [e])))
          clear hp
          go_wp2_with fail
          go_ret
          exact ⟨by rw [HR.out]; rfl, HB5.out⟩
      · have k1 : ¬ ((k : Int) < (n : Int)) := by omega
        have HR : Hid (decide (l = m) = true) := Lib.hid (decide_eq_true (list_eq HN.out.symm HN2.out.symm (fun j hj => HLo.out j (by omega))))
        go_wp2
        go_ret
        exact ⟨by rw [HR.out]; rfl, HB.out⟩
  · have t0 : ((n : Int) != (n2 : Int)) = true := by simpa using (by omega : ¬ (n : Int) = (n2 : Int))
    have HR : Hid (decide (l = m) = false) := Lib.hid (decide_eq_false (fun e => hlen (by rw [HN.out, HN2.out, e])))
    clear hlen
    go_enter Try.func8, Try.ntmps8
    go_wp2
    go_ret
    exact ⟨by rw [HR.out]; rfl, Below.refl _ _⟩
end Go.Proofs.Ytgmplpfbhcdofaa
