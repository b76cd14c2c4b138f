/- Proved here: claims that came in, and Same of package claim. -/
import Derived.Test.YtgmplpfbhcdofaaKWakes
namespace Go.Proofs.Ytgmplpfbhcdofaa
open Go.RowKit Go.Shelf Go.Lib
attribute [local go_sem] Oper.semAt_some

/-- A claim of whatever numbers. -/
structure Cz where
  p : Bs
  dir : Bool
  own : List Int
deriving DecidableEq
/-- The three cells of a claim. -/
def CAt (w : World) (g o : Nat) (b : Cz) : Prop :=
  ∃ a c, w.cell? ⟨g, o, none⟩ = some (.string ⟨b.p.toArray⟩) ∧ w.cell? ⟨g, o + 1, none⟩ = some (.bool b.dir) ∧ w.cell? ⟨g, o + 2, none⟩ = some (.slice a b.own.length c) ∧ Rd w (.slice a b.own.length c) (intsV b.own)
def RdC (w : World) (v : Value) (l : List Cz) : Prop :=
  ∃ a c, v = .slice a l.length c ∧ l.length ≤ c ∧ c ≤ maxLen ∧
    (0 < l.length → ∃ g o, a = some ⟨g, o, none⟩ ∧ g < w.heap.size ∧ ∀ (j : Nat) (b : Cz), l[j]? = some b → CAt w g (o + j * 3) b)
theorem CAt.on {w w' : World} {g o : Nat} {b : Cz} (h : CAt w g o b) (hg : g < w.heap.size) (hb : Below w.heap.size w w') : CAt w' g o b := by
  obtain ⟨a, c, h0, h1, h2, h3⟩ := h
  exact ⟨a, c, (hb.cell (p := ⟨g, _, none⟩) hg).trans h0, (hb.cell (p := ⟨g, _, none⟩) hg).trans h1, (hb.cell (p := ⟨g, _, none⟩) hg).trans h2, h3.on hb⟩
theorem RdC.on {w w' : World} {v : Value} {l : List Cz} (h : RdC w v l) (hb : Below w.heap.size w w') : RdC w' v l := by
  obtain ⟨a, c, h1, h2, h3, h4⟩ := h
  refine ⟨a, c, h1, h2, h3, fun h0 => ?_⟩
  obtain ⟨g, o, e, hg, hc⟩ := h4 h0
  exact ⟨g, o, e, Nat.lt_of_lt_of_le hg hb.size, fun j b hj => (hc j b hj).on hg hb⟩
theorem RdC.take {w : World} {a : Option Addr} {n c : Nat} {l : List Cz} (hn : n = l.length) (h : RdC w (.slice a n c) l) (q : Nat) (hq : q ≤ n) : RdC w (.slice a q c) (l.take q) := by
  obtain ⟨a', c', e, h1, h2, h3⟩ := h
  cases e
  have el : (l.take q).length = q := by rw [List.length_take]; omega
  unfold RdC
  rw [el]
  refine ⟨a, c, rfl, by omega, h2, fun h0 => ?_⟩
  obtain ⟨g, o, e, hg, hc⟩ := h3 (by omega)
  refine ⟨g, o, e, hg, fun j u hj => hc j u ?_⟩
  rw [List.getElem?_take] at hj
  split at hj
  · exact hj
  · cases hj
theorem cz_eq (x y : Cz) : decide (x = y) = (decide (x.p = y.p) && (decide (x.dir = y.dir) && decide (x.own = y.own))) := by
  obtain ⟨p, d, o⟩ := x
  obtain ⟨p', d', o'⟩ := y
  rw [Bool.eq_iff_iff]
  simp

set_option maxRecDepth 100000 in
set_option maxHeartbeats 4000000 in
theorem same1_any (x y : Cz) (ax ay : Option Addr) (cx cy : Nat) (w : World) (hx : Rd w (.slice ax x.own.length cx) (intsV x.own)) (hy : Rd w (.slice ay y.own.length cy) (intsV y.own)) :
    Calls Try.prog 21 #[clV x.p x.dir (.slice ax x.own.length cx), clV y.p y.dir (.slice ay y.own.length cy)] w fun e w' => e = .returned (.bool (decide (x = y))) ∧ Below w.heap.size w w' := by
  have HR := Lib.hid (cz_eq x y)
  obtain ⟨nx, hnx⟩ : ∃ z, z = x.own.length := ⟨_, rfl⟩
  obtain ⟨ny, hny⟩ : ∃ z, z = y.own.length := ⟨_, rfl⟩
  rw [← hnx] at hx ⊢
  rw [← hny] at hy ⊢
  obtain ⟨w1, hw1⟩ : ∃ z, z = (w.alloc (.cells #[.string ⟨x.p.toArray⟩, .bool x.dir, .slice ax nx cx] 43)).alloc (.cells #[.string ⟨y.p.toArray⟩, .bool y.dir, .slice ay ny cy] 43) := ⟨_, rfl⟩
  have hb1 : Below w.heap.size w w1 := by rw [hw1]; exact bch (below_new _ _) (below_new _ _)
  have X1 : Box w1 w.heap.size 43 #[.string ⟨x.p.toArray⟩, .bool x.dir, .slice ax nx cx] := by rw [hw1]; exact box_new.alloc _
  have X2 : Box w1 (w.heap.size + 1) 43 #[.string ⟨y.p.toArray⟩, .bool y.dir, .slice ay ny cy] := by rw [hw1, show w.heap.size + 1 = (w.alloc (.cells #[.string ⟨x.p.toArray⟩, .bool x.dir, .slice ax nx cx] 43)).heap.size from by simp]; exact box_new
  have HB1 := Lib.hid hb1
  have HE := Lib.hid (eqi_all x.own y.own _ _ w1 (hx.on hb1) (hy.on hb1))
  obtain ⟨x0, x1, x2⟩ := cl_box X1
  obtain ⟨y0, y1, y2⟩ := cl_box X2
  clear hx hy hb1 X1 X2 hnx hny
  by_cases hp : x.p = y.p
  · have t1 : (x.p == y.p) = true := by simp [hp]
    have HP := Lib.hid hp
    clear hp
    by_cases hd : x.dir = y.dir
    · have t2 : (x.dir == y.dir) = true := by simp [hd]
      have HD := Lib.hid hd
      clear hd
      go_enter Try.func21, Try.ntmps21
      go_upto_region 1 with fail
      rw [← hw1]
      clear hw1
      go_wp2_with (go_at_call 17; refine HE.out.mono ?_; rintro e w2 ⟨rfl, hb⟩; have HB2 := Lib.hid (bch HB1.out hb); clear hb)
      go_ret
      exact ⟨by rw [HR.out, decide_eq_true HP.out, decide_eq_true HD.out]; rfl, HB2.out⟩
    · have t2 : (x.dir == y.dir) = false := by simp [hd]
      have HD := Lib.hid hd
      clear hd
      go_enter Try.func21, Try.ntmps21
      go_upto_region 1 with fail
      rw [← hw1]
      clear hw1
      go_wp2_with fail
      go_ret
      exact ⟨by rw [HR.out, decide_eq_true HP.out, decide_eq_false HD.out]; rfl, HB1.out⟩
  · have t1 : (x.p == y.p) = false := by simp [hp]
    have HP := Lib.hid hp
    clear hp
    go_enter Try.func21, Try.ntmps21
    go_upto_region 1 with fail
    rw [← hw1]
    clear hw1
    go_wp2_with fail
    go_ret
    exact ⟨by rw [HR.out, decide_eq_false HP.out]; rfl, HB1.out⟩
theorem list_ne {α : Type} {l m : List α} {k : Nat} {x y : α} (hx : l[k]? = some x) (hy : m[k]? = some y) (h : ¬ x = y) : ¬ l = m := fun e => by
  subst e
  rw [hx] at hy
  cases hy
  exact h rfl
theorem list_eq {α : Type} {l m : List α} {n : Nat} (hl : l.length = n) (hm : m.length = n) (h : ∀ j, j < n → l[j]? = m[j]?) : l = m := by
  apply List.ext_getElem?
  intro j
  rcases Nat.lt_or_ge j n with k | k
  · exact h j k
  · rw [List.getElem?_eq_none (by omega), List.getElem?_eq_none (by omega)]
set_option maxRecDepth 100000 in
set_option maxHeartbeats 4000000 in
theorem eqf_any (l m : List Cz) (v1 v2 : Value) (w : World) (h1 : RdC w v1 l) (h2 : RdC w v2 m) : Calls Try.prog 20 #[v1, v2, .func (.func 21) #[] #[]] w fun e w' => e = .returned (.bool (decide (l = m))) ∧ Below w.heap.size w w' := by
  have H1 := Lib.hid h1
  have H2 := Lib.hid h2
  obtain ⟨a1, c1, rfl, hl1, hm1, _⟩ := h1
  obtain ⟨a2, c2, rfl, hl2, hm2, _⟩ := h2
  obtain ⟨n, hn⟩ : ∃ n, n = l.length := ⟨_, rfl⟩
  obtain ⟨n2, hn2⟩ : ∃ n, n = m.length := ⟨_, rfl⟩
  rw [← hn] at H1 hl1 ⊢
  rw [← hn2] at H2 hl2 ⊢
  have HN := Lib.hid hn
  have HN2 := Lib.hid hn2
  unfold maxLen at hm1 hm2
  clear hn hn2
  by_cases hlen : n = n2
  · subst hlen
    have t0 : ((n : Int) != (n : Int)) = false := by simp
    go_enter Try.func20, Try.ntmps20
    go_wp2_with fail
    clear t0
    go_loopw [17] (fun i W => ∃ k : Nat, k ≤ n ∧ i = .int .i64 (k : Int) ∧ Hid (∀ j, j < k → l[j]? = m[j]?) ∧ Hid (Below w.heap.size w W)) (fun i _ => n - (Lib.intOf i).toNat)
    case atStart => exact ⟨0, Nat.zero_le _, rfl, Lib.hid (fun j h => absurd h (Nat.not_lt_zero _)), Lib.hid (Below.refl _ _)⟩
    case round =>
      obtain ⟨k, hk, rfl, HLo, HB⟩ := hrel
      obtain ⟨wq, hwq⟩ : ∃ q, q = wr := ⟨_, rfl⟩
      rw [← hwq] at HB ⊢
      clear hwq
      by_cases hlt : k < n
      · obtain ⟨x, hx⟩ : ∃ x, l[k]? = some x := ⟨_, List.getElem?_eq_getElem (by rw [← HN.out]; exact hlt)⟩
        obtain ⟨y, hy⟩ : ∃ y, m[k]? = some y := ⟨_, List.getElem?_eq_getElem (by rw [← HN2.out]; exact hlt)⟩
        obtain ⟨a', c', e, z1, z2, hc⟩ := H1.out.on HB.out
        clear z1 z2
        rw [← HN.out] at e
        cases e
        obtain ⟨g, o, rfl, hg, hd⟩ := hc (by rw [← HN.out]; omega)
        obtain ⟨ax, cx, x0, x1, x2, x3⟩ := hd k x hx
        obtain ⟨a', c', e, z1, z2, hc2⟩ := H2.out.on HB.out
        clear z1 z2
        rw [← HN2.out] at e
        cases e
        obtain ⟨g2, o2, rfl, hg2, hd2⟩ := hc2 (by rw [← HN2.out]; omega)
        obtain ⟨ay, cy, y0, y1, y2, y3⟩ := hd2 k y hy
        have k1 : (k : Int) < (n : Int) := by omega
        have k2 : (0 : Int) ≤ (k : Int) := by omega
        have k4 : IntKind.i64.wrap ((k : Int) + 1) = (k : Int) + 1 := IntWalk.i64_in _ (by omega)
        obtain ⟨w5, hw5⟩ : ∃ q, q = (wq.alloc (.cells #[.string ⟨x.p.toArray⟩, .bool x.dir, .slice ax x.own.length cx] 43)).alloc (.cells #[.string ⟨y.p.toArray⟩, .bool y.dir, .slice ay y.own.length cy] 43) := ⟨_, rfl⟩
        have hb5 : Below wq.heap.size wq w5 := by rw [hw5]; exact bch (below_new _ _) (below_new _ _)
        have HE := Lib.hid (same1_any x y ax ay cx cy w5 (x3.on hb5) (y3.on hb5))
        have HB5 : Hid (Below w.heap.size w w5) := Lib.hid (bch HB.out hb5)
        have HW5 := Lib.hid hw5
        have X5 : Box w5 wq.heap.size 43 #[.string ⟨x.p.toArray⟩, .bool x.dir, .slice ax x.own.length cx] := by rw [hw5]; exact box_new.alloc _
        have Y5 : Box w5 (wq.heap.size + 1) 43 #[.string ⟨y.p.toArray⟩, .bool y.dir, .slice ay y.own.length cy] := by rw [hw5, show wq.heap.size + 1 = (wq.alloc (.cells #[.string ⟨x.p.toArray⟩, .bool x.dir, .slice ax x.own.length cx] 43)).heap.size from by simp]; exact box_new
        have HX := Lib.hid hx
        have HY := Lib.hid hy
        clear hc hd hc2 hd2 hx hy hb5 x3 y3
        go_upto_region 7 with fail
        obtain ⟨d0, d1, d2⟩ := cl_box X5
        obtain ⟨f0, f1, f2⟩ := cl_box Y5
        rw [← HW5.out]
        clear X5 Y5 hw5 x0 x1 x2 y0 y1 y2
        by_cases hxy : x = y
        · have t1 : decide (x = y) = true := decide_eq_true hxy
          have HLo2 : Hid (∀ j, j < k + 1 → l[j]? = m[j]?) := Lib.hid (fun j hj => by
            rcases Nat.lt_or_ge j k with h | h
            · exact HLo.out j h
            · obtain rfl : j = k := by omega
              rw [HX.out, HY.out, hxy])
          have HT := Lib.hid t1
          clear hxy t1
          go_wp2_with (go_at_call 21; refine HE.out.mono ?_; rintro e w6 ⟨rfl, hb⟩; rw [HT.out]; have HB6 := Lib.hid (bch HB5.out hb); clear hb)
          go_roundw
          case rel => exact ⟨k + 1, hlt, by go_num, HLo2, HB6⟩
          case measure => simp [Lib.intOf]; omega
        · have t1 : decide (x = y) = false := decide_eq_false hxy
          have HR : Hid (decide (l = m) = false) := Lib.hid (decide_eq_false (list_ne HX.out HY.out hxy))
          have HT := Lib.hid t1
          clear hxy t1
          go_wp2_with (go_at_call 21; refine HE.out.mono ?_; rintro e w6 ⟨rfl, hb⟩; rw [HT.out]; have HB6 := Lib.hid (bch HB5.out hb); clear hb)
          go_ret
          exact ⟨by rw [HR.out]; rfl, HB6.out⟩
      · have k1 : ¬ ((k : Int) < (n : Int)) := by omega
        have HR : Hid (decide (l = m) = true) := Lib.hid (decide_eq_true (list_eq HN.out.symm HN2.out.symm (fun j hj => HLo.out j (by omega))))
        go_wp2
        go_ret
        exact ⟨by rw [HR.out]; rfl, HB.out⟩
  · have t0 : ((n : Int) != (n2 : Int)) = true := by simpa using (by omega : ¬ (n : Int) = (n2 : Int))
    have HR : Hid (decide (l = m) = false) := Lib.hid (decide_eq_false (fun e => hlen (by rw [HN.out, HN2.out, e])))
    clear hlen
    go_enter Try.func20, Try.ntmps20
    go_wp2
    go_ret
    exact ⟨by rw [HR.out]; rfl, Below.refl _ _⟩
set_option maxRecDepth 100000 in
set_option maxHeartbeats 4000000 in
theorem csame_any (l m : List Cz) (v1 v2 : Value) (w : World) (h1 : RdC w v1 l) (h2 : RdC w v2 m) : Calls Try.prog 7 #[v1, v2] w fun e w' => e = .returned (.bool (decide (l = m))) ∧ Below w.heap.size w w' := by
  have HE := Lib.hid (eqf_any l m v1 v2 w h1 h2)
  obtain ⟨a1, c1, rfl, _⟩ := h1
  obtain ⟨a2, c2, rfl, _⟩ := h2
  go_enter Try.func7, Try.ntmps7
  go_wp2_with (go_at_call 20; refine HE.out.mono ?_; rintro e w6 ⟨rfl, hb⟩; have HB6 := Lib.hid hb; clear hb)
  go_ret
  exact ⟨rfl, HB6.out⟩
end Go.Proofs.Ytgmplpfbhcdofaa
