/- Proved here: find and get of package tree, and its call Get: an item that stands is found. -/
import Derived.Test.YtjbbnecegomkcaaGreatDoorWEq
namespace Go.Proofs.YtjbbnecegomkcaaGreatDoor
open Go.RowKit Go.Shelf

theorem results_two {P : Program} {fn : Func} {p q : Tmp} {ty : TypeId} (h : fn.results = #[.cell p ty, .tmp q]) (tmps : Array Value) (w : World) (g : Nat) (hp : tmps.getD p undef = .pointer (some ⟨g, 0, none⟩)) (cs : Array Value) (hr : (loadVar ty ⟨g, 0, none⟩).run P w = .ok (.agg cs) w) :
    (results fn tmps).run P w = .ok (.tuple #[.agg cs, tmps.getD q undef]) w := by
  have e : tmps[p]?.getD undef = .pointer (some ⟨g, 0, none⟩) := by rw [← hp]; simp
  simp [results, h, e, asAddr, hr]
/-- Two results: an item out of its variable, and a slot. -/
theorem end_item {fn : Func} {p q : Tmp} (h : fn.results = #[.cell p 33, .tmp q]) (tmps : Array Value) {w : World} {g : Nat} {y : It} (X : Box w g 33 y.arr) (hp : tmps.getD p undef = .pointer (some ⟨g, 0, none⟩)) {v : Value} (hq : tmps.getD q undef = v) :
    (results fn tmps).run Tryz.prog w = .ok (.tuple #[.agg y.arr, v]) w := by
  rw [← hq]
  exact results_two h tmps w g hp y.arr (run_loadVar_row _ g 33 33 y.arr (0, 0) _ X Tryz.underlying33 rfl (info35 _))

set_option maxRecDepth 100000 in
set_option maxHeartbeats 1000000 in
theorem find1_any (l : List It) (a : Option Addr) (n c b2 b3 k : Nat) (x : It) (p : ByteArray) (w : World) (hn : n = l.length) (hk : l[k]? = some x) (X2 : Box w b2 22 #[.slice a n c]) (X3 : Box w b3 9 #[.string p]) (hv : RdI w (.slice a n c) l) (hx : x.path.length ≤ 140737488355328) (hp : p.size ≤ 140737488355328) :
    Calls Tryz.prog 98 #[.int .i64 k, .pointer (some ⟨b2, 0, none⟩), .pointer (some ⟨b3, 0, none⟩)] w fun e w' => e = .returned (.bool (decide (0 ≤ cmpL x.path p.data.toList))) ∧ Below w.heap.size w w' := by
  have hkn : k < n := by rw [hn]; exact (List.getElem?_eq_some_iff.1 hk).1
  obtain ⟨a', c', e, _, hcm, hc⟩ := hv.open
  rw [← hn] at e
  cases e
  obtain ⟨g, o, rfl, hg, hc⟩ := hc (by omega)
  obtain ⟨q0, _, _⟩ := hc k x hk
  have d2 : w.cell? ⟨b2, 0, none⟩ = some (.slice (some ⟨g, o, none⟩) n c) := X2.cell (k := 0) rfl
  have d3 : w.cell? ⟨b3, 0, none⟩ = some (.string p) := X3.cell (k := 0) rfl
  have k1 : (k : Int) < (n : Int) := by omega
  have k2 : (0 : Int) ≤ (k : Int) := by omega
  have HC := Lib.hid (cmp_any ⟨x.path.toArray⟩ p hx hp)
  clear hk X2 X3 hv hc hn
  go_enter Tryz.func98, Tryz.ntmps98
  go_upto_region 1 with fail
  go_still_tail 6, (by kernel_rfl)
  go_wp2_with fail
  refine (HC.out _).mono ?_
  rintro e w2 ⟨rfl, hb⟩
  obtain ⟨q, hq⟩ : ∃ q, q = cmpL (⟨x.path.toArray⟩ : ByteArray).data.toList p.data.toList := ⟨_, rfl⟩
  rw [← hq]
  have HQ := Lib.hid hq
  have HB := Lib.hid hb
  clear hq hb
  go_wp2_with fail
  go_ret
  exact ⟨by rw [HQ.out]; rfl, bch ((Below.refl _ _).drew) HB.out⟩

/-- Where an item that is not behind p stands first. -/
def Spot (l : List It) (p : Str) (r : Nat) : Prop := r ≤ l.length ∧ (∀ (j : Nat) (x : It), l[j]? = some x → j < r → cmpL x.path p < 0) ∧ ∀ (j : Nat) (x : It), l[j]? = some x → r ≤ j → 0 ≤ cmpL x.path p
set_option maxRecDepth 100000 in
set_option maxHeartbeats 4000000 in
theorem search_any (l : List It) (a : Option Addr) (n c b2 b3 : Nat) (p : ByteArray) (w : World) (hn : n = l.length) (hn2 : n ≤ 2000) (X2 : Box w b2 22 #[.slice a n c]) (X3 : Box w b3 9 #[.string p]) (hv : RdI w (.slice a n c) l) (hx : ∀ x ∈ l, x.path.length ≤ 140737488355328) (hp : p.size ≤ 140737488355328)
    (hs : ∀ (i j : Nat) (x y : It), l[i]? = some x → l[j]? = some y → i ≤ j → 0 ≤ cmpL x.path p.data.toList → 0 ≤ cmpL y.path p.data.toList) :
    Calls Tryz.prog 97 #[.int .i64 n, .func (.func 98) #[] #[.pointer (some ⟨b2, 0, none⟩), .pointer (some ⟨b3, 0, none⟩)]] w fun e w' => ∃ r, Spot l p.data.toList r ∧ e = .returned (.int .i64 r) ∧ Below w.heap.size w w' := by
  have HN := Lib.hid hn
  have HS := Lib.hid hs
  have HX := Lib.hid hx
  have HV := Lib.hid hv
  have HX2 := Lib.hid X2
  have HX3 := Lib.hid X3
  have hnI : (n : Int) ≤ 2000 := by omega
  clear hs hx hv X2 X3 hn
  go_enter Tryz.func97, Tryz.ntmps97
  go_wp2_with fail
  go_loopw [5, 6] (fun i j W => ∃ a b : Nat, a ≤ b ∧ b ≤ n ∧ i = .int .i64 a ∧ j = .int .i64 b ∧ Hid (∀ (j : Nat) (x : It), l[j]? = some x → j < a → cmpL x.path p.data.toList < 0) ∧ Hid (∀ (j : Nat) (x : It), l[j]? = some x → b ≤ j → 0 ≤ cmpL x.path p.data.toList) ∧ Hid (Below w.heap.size w W)) (fun i j _ => (Lib.intOf j).toNat - (Lib.intOf i).toNat)
  case atStart => exact ⟨0, n, Nat.zero_le _, Nat.le_refl _, rfl, rfl, Lib.hid (fun j x _ h => absurd h (Nat.not_lt_zero _)), Lib.hid (fun j x h h2 => absurd (List.getElem?_eq_some_iff.1 h).1 (by rw [← HN.out]; omega)), Lib.hid (Below.refl _ _)⟩
  case round =>
    obtain ⟨i, j, hij, hjn, rfl, rfl, HLo, HHi, HBk⟩ := hrel
    obtain ⟨wq, hwq⟩ : ∃ q, q = wr := ⟨_, rfl⟩
    rw [← hwq] at HBk ⊢
    clear hwq
    by_cases hlt : i < j
    · have k1 : (i : Int) < (j : Int) := by omega
      have k0 : IntKind.i64.wrap ((i : Int) + (j : Int)) = (i : Int) + (j : Int) := IntWalk.i64_in _ (by omega)
      obtain ⟨h, hh⟩ : ∃ h, h = (i + j) / 2 := ⟨_, rfl⟩
      have hih : i ≤ h := by omega
      have hhj : h < j := by omega
      obtain ⟨x, hx⟩ : ∃ x, l[h]? = some x := ⟨_, List.getElem?_eq_getElem (by rw [← HN.out]; omega)⟩
      have HC : Hid (Calls Tryz.prog 98 #[.int .i64 h, .pointer (some ⟨b2, 0, none⟩), .pointer (some ⟨b3, 0, none⟩)] wq fun e w' => e = .returned (.bool (decide (0 ≤ cmpL x.path p.data.toList))) ∧ Below wq.heap.size wq w') := Lib.hid (find1_any l a n c b2 b3 h x p wq HN.out hx (HX2.out.on HBk.out) (HX3.out.on HBk.out) (HV.out.on HBk.out) (HX.out x (List.mem_of_getElem? hx)) hp)
      have HH := Lib.hid hx
      clear hx
      go_wp2_with fail
      rw [show ((i : Int) + (j : Int)) / 2 = (h : Int) by omega]
      refine HC.out.mono ?_
      rintro e w2 ⟨rfl, hb⟩
      have HB2 := Lib.hid (bch HBk.out hb)
      obtain ⟨t, ht⟩ : ∃ t, t = decide (0 ≤ cmpL x.path p.data.toList) := ⟨_, rfl⟩
      rw [← ht]
      have k5 : IntKind.i64.wrap ((h : Int) + 1) = (h : Int) + 1 := IntWalk.i64_in _ (by omega)
      have HT := Lib.hid ht
      clear hb HC ht hh
      cases t with
      | true =>
        have h0 : 0 ≤ cmpL x.path p.data.toList := of_decide_eq_true HT.out.symm
        have HHi2 : Hid (∀ (q : Nat) (y : It), l[q]? = some y → h ≤ q → 0 ≤ cmpL y.path p.data.toList) := Lib.hid (fun q y hq hle => HS.out h q x y HH.out hq hle h0)
        clear h0
        go_wp2_with fail
        go_roundw
        case rel => exact ⟨i, h, hih, by omega, rfl, rfl, HLo, HHi2, HB2⟩
        case measure => simp [Lib.intOf]; omega
      | false =>
        have h0 : ¬ 0 ≤ cmpL x.path p.data.toList := of_decide_eq_false HT.out.symm
        have HLo2 : Hid (∀ (q : Nat) (y : It), l[q]? = some y → q < h + 1 → cmpL y.path p.data.toList < 0) := Lib.hid (fun q y hq hle => by
          by_cases hy : 0 ≤ cmpL y.path p.data.toList
          · exact absurd (HS.out q h y x hq HH.out (by omega) hy) h0
          · omega)
        clear h0
        go_wp2_with fail
        go_roundw
        case rel => exact ⟨h + 1, j, by omega, hjn, by go_num, rfl, HLo2, HHi, HB2⟩
        case measure => simp [Lib.intOf]; omega
    · have k1 : ¬ ((i : Int) < (j : Int)) := by omega
      obtain rfl : i = j := by omega
      have HSP : Hid (Spot l p.data.toList i) := Lib.hid ⟨by rw [← HN.out]; exact hjn, HLo.out, HHi.out⟩
      go_wp2_with fail
      go_ret
      exact ⟨i, HSP.out, rfl, HBk.out⟩

theorem sorted_up {l : List It} (h : l.Pairwise fun a b => cmpL a.path b.path < 0) {i j : Nat} {x y : It} (hi : l[i]? = some x) (hj : l[j]? = some y) (hij : i < j) : cmpL x.path y.path < 0 := by
  obtain ⟨h1, rfl⟩ := List.getElem?_eq_some_iff.1 hi
  obtain ⟨h2, rfl⟩ := List.getElem?_eq_some_iff.1 hj
  exact List.pairwise_iff_getElem.1 h i j h1 h2 hij
set_option maxRecDepth 100000 in
set_option maxHeartbeats 4000000 in
theorem tfind_any (l : List It) (a : Option Addr) (n c : Nat) (p : ByteArray) (k : Nat) (x : It) (hk : l[k]? = some x) (hxp : x.path = p.data.toList) (hself : cmpL x.path x.path = 0) (w : World) (hn : n = l.length) (hn2 : n ≤ 2000) (hv : RdI w (.slice a n c) l) (hx : ∀ x ∈ l, x.path.length ≤ 140737488355328) (hp : p.size ≤ 140737488355328)
    (hs : l.Pairwise fun a b => cmpL a.path b.path < 0) :
    Calls Tryz.prog 69 #[.slice a n c, .string p] w fun e w' => e = .returned (.tuple #[.int .i64 k, .bool true]) ∧ Below w.heap.size w w' := by
  obtain ⟨w1, hw1⟩ : ∃ z, z = (w.alloc (.cells #[.slice a n c] 22)).alloc (.cells #[.string p] 9) := ⟨_, rfl⟩
  have X2 : Box w1 w.heap.size 22 #[.slice a n c] := by rw [hw1]; exact box_new.alloc _
  have X3 : Box w1 (w.heap.size + 1) 9 #[.string p] := by rw [hw1, show w.heap.size + 1 = (w.alloc (.cells #[.slice a n c] 22)).heap.size from by simp]; exact box_new
  have HB1 : Hid (Below w.heap.size w w1) := Lib.hid (by rw [hw1]; exact bch (below_new _ _) (below_new _ _))
  have hmono : ∀ (i j : Nat) (x y : It), l[i]? = some x → l[j]? = some y → i ≤ j → 0 ≤ cmpL x.path p.data.toList → 0 ≤ cmpL y.path p.data.toList := fun i j y z hi hj hij h0 => by
    rcases Nat.lt_or_eq_of_le hij with hlt | rfl
    · have h1 := sorted_up hs hi hj hlt
      rcases Int.lt_or_le (cmpL z.path p.data.toList) 0 with h2 | h2
      · have := cl_lt_trans h1 h2; omega
      · exact h2
    · rw [hi] at hj; cases hj; exact h0
  have hV1 := hv.on HB1.out
  have HSE := Lib.hid (search_any l a n c w.heap.size (w.heap.size + 1) p w1 hn hn2 X2 X3 hV1 hx hp hmono)
  have hspot : ∀ r, Spot l p.data.toList r → r = k := fun r ⟨h1, h2, h3⟩ => by
    rcases Nat.lt_trichotomy r k with hlt | he | hgt
    · obtain ⟨y, hy⟩ : ∃ y, l[r]? = some y := ⟨_, List.getElem?_eq_getElem (Nat.lt_trans hlt (List.getElem?_eq_some_iff.1 hk).1)⟩
      have e1 := h3 r y hy (Nat.le_refl _)
      have e2 := sorted_up hs hy hk hlt
      rw [hxp] at e2
      omega
    · exact he
    · have e1 := h2 k x hk hgt
      rw [← hxp] at e1
      omega
  have hkn : k < n := by rw [hn]; exact (List.getElem?_eq_some_iff.1 hk).1
  obtain ⟨a', c', e, _, hcm, hc⟩ := hV1.open
  rw [← hn] at e
  cases e
  obtain ⟨g, o, rfl, hg, hc⟩ := hc (by omega)
  obtain ⟨q0, _, _⟩ := hc k x hk
  have d2 := X2.cell (k := 0) rfl
  have d3 := X3.cell (k := 0) rfl
  have HSP := Lib.hid hspot
  have HN := Lib.hid hn
  have hpe : (⟨x.path.toArray⟩ : ByteArray) = p := by rw [hxp]
  rw [hpe] at q0
  have HQ := Lib.hid q0
  have HD2 := Lib.hid d2
  have HD3 := Lib.hid d3
  obtain ⟨b2, hb2⟩ : ∃ z, z = w.heap.size := ⟨_, rfl⟩
  have HB2 := Lib.hid hb2
  have HLT : Hid (w.heap.size + 1 < w1.heap.size) := Lib.hid X3.lt
  clear hc hk hV1 hs hmono hspot hv X2 X3 q0 d2 d3 hx hself hxp hpe hb2 hn
  go_enter Tryz.func69, Tryz.ntmps69
  go_upto_region 1 with fail
  rw [← hw1]
  clear hw1
  have d2 := HD2.out
  go_wp2_with fail
  refine HSE.out.mono ?_
  rintro e w2 ⟨r, hsp, rfl, hb⟩
  obtain rfl : r = k := HSP.out r hsp
  have e2 : w2.cell? ⟨w.heap.size, 0, none⟩ = some (.slice (some ⟨g, o, none⟩) n c) := (hb.cell (p := ⟨w.heap.size, 0, none⟩) (Nat.lt_of_succ_lt HLT.out)).trans HD2.out
  have e3 : w2.cell? ⟨w.heap.size + 1, 0, none⟩ = some (.string p) := (hb.cell (p := ⟨w.heap.size + 1, 0, none⟩) HLT.out).trans HD3.out
  have e0 : w2.cell? ⟨g, o + r * 3, none⟩ = some (.string p) := (hb.cell (p := ⟨g, _, none⟩) hg).trans HQ.out
  have HB3 := Lib.hid (bch HB1.out hb)
  have k1 : (r : Int) < (n : Int) := by omega
  have k2 : (0 : Int) ≤ (r : Int) := by omega
  clear hsp hb d2 HSE
  go_upto_region 2 with fail
  go_region
  go_wp2
  go_ret2
  exact ⟨rfl, HB3.out.drew⟩

theorem ba_of {p : ByteArray} {s : Str} (h : p.data.toList = s) : p = ⟨s.toArray⟩ := by subst h; cases p; rfl
set_option maxRecDepth 100000 in
set_option maxHeartbeats 4000000 in
theorem tget_root (l : List It) (v : Value) (w : World) (hv : RdI w v l) (hT : Tabs w) :
    Calls Tryz.prog 48 #[v, .string ⟨#[47]⟩] w fun e w' => e = .returned (.tuple #[.agg It.root.arr, .bool true]) ∧ Below w.heap.size w w' := by
  obtain ⟨a, c, rfl, _⟩ := hv.open
  obtain ⟨w1, hw1⟩ : ∃ z, z = w.alloc (.cells #[.string ⟨#[]⟩, .int .i64 0, .string ⟨#[]⟩] 33) := ⟨_, rfl⟩
  have X : Hid (Box w1 w.heap.size 33 It.nil.arr) := Lib.hid (by rw [hw1]; exact box_new)
  have HB : Hid (Below w.heap.size w w1) := Lib.hid (by rw [hw1]; exact below_new _ _)
  have T := hT.on HB.out
  have r0 := T.r0
  have r1 := T.r1
  have r2 := T.r2
  clear hv hT T
  go_enter Tryz.func48, Tryz.ntmps48
  go_upto_region 1 with fail
  rw [← hw1]
  clear hw1
  go_wp2_with (refine wpList_store_row rfl 33 (.tmp 4) (.tmp 12) rfl w.heap.size It.root.arr rfl rfl 33 _ X.out (info35 _) rfl (iarr_one _) ?_)
  exact bodyPost_ret (end_item rfl _ (X.out.row _) rfl rfl) rfl ⟨rfl, below_row HB.out (Nat.le_refl _) _⟩
set_option maxRecDepth 100000 in
set_option maxHeartbeats 4000000 in
theorem tget_in (l : List It) (v : Value) (p : ByteArray) (k : Nat) (x : It) (hk : l[k]? = some x) (hxp : x.path = p.data.toList) (hself : cmpL x.path x.path = 0) (hne : p.data.toList ≠ [47]) (w : World) (hn2 : l.length ≤ 2000) (hv : RdI w v l) (hx : ∀ x ∈ l, x.path.length ≤ 140737488355328) (hp : p.size ≤ 140737488355328)
    (hs : l.Pairwise fun a b => cmpL a.path b.path < 0) (hT : Tabs w) :
    Calls Tryz.prog 48 #[v, .string p] w fun e w' => e = .returned (.tuple #[.agg x.arr, .bool true]) ∧ Below w.heap.size w w' := by
  have HV := Lib.hid hv
  obtain ⟨a, c, rfl, _⟩ := hv.open
  obtain ⟨n, hn⟩ : ∃ n, n = l.length := ⟨_, rfl⟩
  rw [← hn] at HV hn2 ⊢
  obtain ⟨w1, hw1⟩ : ∃ z, z = w.alloc (.cells #[.string ⟨#[]⟩, .int .i64 0, .string ⟨#[]⟩] 33) := ⟨_, rfl⟩
  have X : Hid (Box w1 w.heap.size 33 It.nil.arr) := Lib.hid (by rw [hw1]; exact box_new)
  have HB : Hid (Below w.heap.size w w1) := Lib.hid (by rw [hw1]; exact below_new _ _)
  have r0 := (hT.on HB.out).r0
  have HV1 := Lib.hid (HV.out.on HB.out)
  have HFI := Lib.hid (tfind_any l a n c p k x hk hxp hself w1 hn hn2 HV1.out hx hp hs)
  have hkn : k < n := by rw [hn]; exact (List.getElem?_eq_some_iff.1 hk).1
  have t1 : (p.toList == [47]) = false := by rw [Lib.toList_data]; simpa using hne
  have t2 : ¬ p.toList = [47] := by rw [Lib.toList_data]; exact hne
  have HK := Lib.hid hk
  have HN := Lib.hid hn
  clear hv hT hs hx hn hk hself hxp hne
  go_enter Tryz.func48, Tryz.ntmps48
  go_upto_region 1 with fail
  rw [← hw1]
  clear hw1
  go_wp2_with fail
  refine HFI.out.mono ?_
  rintro e w2 ⟨rfl, hb⟩
  have hV2 := HV1.out.on hb
  obtain ⟨a', c', e, _, _, hc⟩ := hV2.open
  rw [← HN.out] at e
  cases e
  obtain ⟨g, o, rfl, hg, hc⟩ := hc (by rw [← HN.out]; omega)
  obtain ⟨q0, q1, q2⟩ := hc k x HK.out
  have X2 := Lib.hid (X.out.on hb)
  have HB2 := Lib.hid (bch HB.out hb)
  have k1 : (k : Int) < (n : Int) := by omega
  have k2 : (0 : Int) ≤ (k : Int) := by omega
  clear hV2 hc hb HFI r0 t1 t2
  go_wp2_with (refine wpList_store_row rfl 33 (.tmp 4) (.tmp 25) rfl w.heap.size x.arr rfl rfl 33 _ X2.out (info35 _) rfl (iarr_one _) ?_)
  exact bodyPost_ret (end_item rfl _ (X2.out.row _) rfl rfl) rfl ⟨rfl, below_row HB2.out (Nat.le_refl _) _⟩
theorem cmpL_self {p : Str} (h : validB p = true) : cmpL p p = 0 := by
  unfold cmpL
  rw [if_pos h, if_pos h]
  exact cmpN_self _
theorem item_nr {l : List It} (h : TreeOk l) {x : It} (hx : x ∈ l) : x.path ≠ [47] := (h.kid x hx).1.2.1
theorem tget_any (l : List It) (v : Value) (x : It) (h : TreeOk l) (hh : Here l x) (w : World) (hv : RdI w v l) (hx : ∀ x ∈ l, x.path.length ≤ 140737488355328) (hT : Tabs w) :
    Calls Tryz.prog 48 #[v, .string ⟨x.path.toArray⟩] w fun e w' => e = .returned (.tuple #[.agg x.arr, .bool true]) ∧ Below w.heap.size w w' := by
  rcases hh with rfl | hm
  · exact tget_root l v w hv hT
  · obtain ⟨k, hk⟩ := List.mem_iff_getElem?.1 hm
    exact tget_in l v ⟨x.path.toArray⟩ k x hk (by simp) (cmpL_self (Here.valid h (.inr hm))) (by simpa using item_nr h hm) w h.many hv hx (by show x.path.toArray.size ≤ _; rw [List.size_toArray]; exact hx x hm) h.sorted hT
set_option maxRecDepth 100000 in
set_option maxHeartbeats 4000000 in
theorem get_any (l : List It) (v : Value) (x : It) (h : TreeOk l) (hh : Here l x) (w : World) (hv : RdI w v l) (hx : ∀ x ∈ l, x.path.length ≤ 140737488355328) (hT : Tabs w) :
    Calls Tryz.prog 23 #[.agg #[v], .string ⟨x.path.toArray⟩] w fun e w' => e = .returned (.tuple #[.agg x.arr, .bool true]) ∧ Below w.heap.size w w' := by
  obtain ⟨w1, hw1⟩ : ∃ z, z = (w.alloc (.cells #[v] 24)).alloc (.cells #[.string ⟨#[]⟩, .int .i64 0, .string ⟨#[]⟩] 33) := ⟨_, rfl⟩
  have X : Box w1 w.heap.size 24 #[v] := by rw [hw1]; exact box_new.alloc _
  have X1 : Hid (Box w1 (w.heap.size + 1) 33 It.nil.arr) := Lib.hid (by rw [hw1, show w.heap.size + 1 = (w.alloc (.cells #[v] 24)).heap.size from by simp]; exact box_new)
  have HB1 : Hid (Below w.heap.size w w1) := Lib.hid (by rw [hw1]; exact bch (below_new _ _) (below_new _ _))
  have HVA := Lib.hid (tvalid_is l true ((valid_tree l).2 h).symm v w1 (hv.on HB1.out) hx (hT.on HB1.out))
  have HV := Lib.hid (hv.on HB1.out)
  have HT := Lib.hid (hT.on HB1.out)
  have HX := Lib.hid hx
  have HOK := Lib.hid h
  have HH := Lib.hid hh
  obtain ⟨b4, hb4⟩ : ∃ z, z = w.heap.size + 1 := ⟨_, rfl⟩
  rw [← hb4] at X1
  have H4 : Hid (w.heap.size ≤ b4) := Lib.hid (by rw [hb4]; exact Nat.le_succ _)
  have HLT : Hid (w.heap.size < w1.heap.size) := Lib.hid X.lt
  have c0 := X.cell (k := 0) rfl
  obtain ⟨a, c, rfl, _⟩ := hv.open
  clear hv hT hx h hh X
  go_enter Tryz.func23, Tryz.ntmps23
  go_upto_region 1 with fail
  rw [← hw1, ← hb4]
  clear hw1 hb4
  go_wp2_with fail
  refine HVA.out.mono ?_
  rintro e w2 ⟨rfl, hb2⟩
  have HB2 := Lib.hid (bch HB1.out hb2)
  have c2 := (hb2.cell (p := ⟨w.heap.size, 0, none⟩) HLT.out).trans c0
  have X2 := Lib.hid (X1.out.on hb2)
  have HG := Lib.hid (tget_any l (.slice a l.length c) x HOK.out HH.out w2 (HV.out.on hb2) HX.out (HT.out.on hb2))
  clear hb2 c0 X1 HVA
  go_wp2_with fail
  refine HG.out.mono ?_
  rintro e w3 ⟨rfl, hb3⟩
  have X3 := Lib.hid (X2.out.on hb3)
  have HB3 := Lib.hid (bch HB2.out hb3)
  clear hb3 c2 HG
  go_wp2_with (refine wpList_store_row rfl 33 (.tmp 4) (.tmp 15) rfl b4 x.arr rfl rfl 33 _ X3.out (info35 _) rfl (iarr_one _) ?_)
  exact bodyPost_ret (end_item rfl _ (X3.out.row _) rfl rfl) rfl ⟨rfl, below_row HB3.out H4.out _⟩
end Go.Proofs.YtjbbnecegomkcaaGreatDoor
