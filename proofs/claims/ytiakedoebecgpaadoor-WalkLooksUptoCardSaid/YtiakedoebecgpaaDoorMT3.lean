/- Proved: whatever tree and texts WalkLooks of puncheonlaw07 is called with, the call returns true, and all read behind it as they read before (the statement Rows.WalkLooksUptoCardSaid). Condition: what came in holds at most 1048576 values and letters (the statement's own); the tables stand as the program's text lays them (the card ties them), and the form's own reach. | Proved here: WalkLooks of puncheonlaw07 returns true, wherever the tables stand. -/
import Derived.Test.YtiakedoebecgpaaDoorMT2
import Derived.Test.YtiakedoebecgpaaDoorMT1
namespace Go.Proofs.YtiakedoebecgpaaDoor
open Go.RowKit Go.Shelf

theorem own_shp {w : World} {B s n : Nat} {e : TypeId} {v : Value} {xs : List Value} (h : w.ownsRow B e s v n xs) : ∃ a c, v = .slice a n c := by
  rcases h.2 with ⟨rfl, rfl⟩ | ⟨g, cap, cur, rfl, _⟩
  · exact ⟨_, _, rfl⟩
  · exact ⟨_, _, rfl⟩
theorem own_bel {w w' : World} {B s n : Nat} {e : TypeId} {v : Value} {xs : List Value} (h : w.ownsRow B e s v n xs) (hb : Below w.heap.size w w') : w'.ownsRow B e s v n xs := by
  refine ⟨h.1, ?_⟩
  rcases h.2 with h0 | ⟨g, cap, cur, hv, hB, hh, hr⟩
  · exact .inl h0
  · have hlt : g < w.heap.size := by
      rcases Nat.lt_or_ge g w.heap.size with h' | h'
      · exact h'
      · rw [Array.getElem?_eq_none h'] at hh; cases hh
    exact .inr ⟨g, cap, cur, hv, hB, (hb.block g hlt).trans hh, hr⟩
theorem eq35_at (a b : It) (o : Bool) (h : decide (a = b) = o) : ∀ W, (Op.equalIn 10000 35 (.agg #[.string ⟨a.path.toArray⟩, .int .i64 a.kind, .string ⟨a.data.toArray⟩]) (.agg #[.string ⟨b.path.toArray⟩, .int .i64 b.kind, .string ⟨b.data.toArray⟩])).run Tryd.prog W = .ok o W := fun W => by rw [← h]; exact eq35 a b W
theorem look_four (l : List It) (s : Str) : ∀ (ds : List Str) (k : Nat) (z : Int), lookF l s ds k = .error z → z = 4
  | [], _, z, h => by unfold lookF at h; cases h; rfl
  | d :: ds, k, z, h => by
    unfold lookF at h
    cases hm : leadM l d s true with
    | ok r => rw [hm] at h; cases h
    | error y => rw [hm] at h; exact look_four l s ds (k + 1) z h

set_option maxRecDepth 100000 in
set_option maxHeartbeats 16000000 in
theorem looks_law (l0 : List It) (v : Value) (ds0 : List Str) (dv : Value) (ts0 : List Str) (tv : Value) (w : World) (hv : RdI w v l0) (hsz : ∀ x ∈ l0, x.path.length ≤ 2000000) (hdz : ∀ x ∈ l0, x.data.length ≤ 2000000) (hT : Tabs w) (hd : RdS w dv ds0) (hds : ∀ x ∈ ds0, x.length ≤ 140737488355328) (ht : RdS w tv ts0) (hts : ∀ x ∈ ts0, x.length ≤ 140737488355328) :
    Calls Tryd.prog 7 #[.agg #[v], dv, tv] w fun e w' => e = .returned (.bool true) ∧ Below w.heap.size w w' := by
  obtain ⟨w1, hw1⟩ : ∃ z, z = w.alloc (.cells #[v] 24) := ⟨_, rfl⟩
  have X : Hid (Box w1 w.heap.size 24 #[v]) := Lib.hid (by rw [hw1]; exact box_new)
  have HB1 : Hid (Below w.heap.size w w1) := Lib.hid (by rw [hw1]; exact below_new _ _)
  have HT := Lib.hid hT
  have HV := Lib.hid hv
  have HD := Lib.hid hd
  have HDS := Lib.hid hds
  have HX := Lib.hid ht
  have HXS := Lib.hid hts
  obtain ⟨l, hl⟩ : ∃ l, l = l0.take 60 := ⟨_, rfl⟩
  have HL : Hid (l.length ≤ 1000000) := Lib.hid (by rw [hl, List.length_take]; omega)
  have HSZ : Hid (∀ x ∈ l, x.path.length ≤ 2000000) := Lib.hid (fun x hx => hsz x (List.mem_of_mem_take (by rwa [hl] at hx)))
  have HDZ : Hid (∀ x ∈ l, x.data.length ≤ 2000000) := Lib.hid (fun x hx => hdz x (List.mem_of_mem_take (by rwa [hl] at hx)))
  have HW := Lib.hid (wwakes_any w1 (hT.on HB1.out))
  obtain ⟨va, vn, vc, rfl⟩ : ∃ a n c, v = .slice a n c := by obtain ⟨a, c, e, _⟩ := HV.out; exact ⟨_, _, _, e⟩
  obtain ⟨da, dn, dc, rfl⟩ : ∃ a n c, dv = .slice a n c := by obtain ⟨a, c, e, _⟩ := HD.out; exact ⟨_, _, _, e⟩
  obtain ⟨ta, tn, tc, rfl⟩ : ∃ a n c, tv = .slice a n c := by obtain ⟨a, c, e, _⟩ := HX.out; exact ⟨_, _, _, e⟩
  obtain ⟨b3, hb3⟩ : ∃ z, z = w.heap.size := ⟨_, rfl⟩
  have H3 : Hid (w.heap.size ≤ b3) := Lib.hid (by rw [hb3]; exact Nat.le_refl _)
  have HB3 := Lib.hid hb3
  rw [← hb3] at X
  clear hT hsz hdz hv hd hds ht hts
  go_enter Tryd.func7, Tryd.ntmps7
  go_upto_region 1 with fail
  rw [← hw1, ← HB3.out]
  clear hw1 hb3
  go_wp2_with fail
  refine HW.out.mono ?_
  rintro e w2 ⟨rfl, hb2⟩
  have x2 := X.out.on hb2
  have HB2 := Lib.hid (bch HB1.out hb2)
  have c0 := x2.cell (k := 0) rfl
  have X2 := Lib.hid x2
  have HF := Lib.hid (wfew_own l0 (.slice va vn vc) w2 (HV.out.on HB2.out))
  rw [← hl] at HF
  clear hb2 X HW x2
  go_wp2_with fail
  refine HF.out.mono ?_
  rintro e w3 ⟨x3, rfl, ho3, hb3⟩
  obtain ⟨n, hn⟩ : ∃ n, n = l.length := ⟨_, rfl⟩
  have HN := Lib.hid hn
  rw [← hn] at ho3
  obtain ⟨a3, c3, rfl⟩ := own_shp ho3
  have HO3 := Lib.hid ho3
  have X3 := Lib.hid (X2.out.on hb3)
  have HW3 := Lib.hid (bch HB2.out hb3)
  have HL2 : Hid (b3 < w2.heap.size) := Lib.hid X2.out.lt
  have HW32 : Hid (w2.heap.size ≤ w3.heap.size) := Lib.hid hb3.size
  have HCC := Lib.hid (cut7_any ds0 (.slice da dn dc) w3 (HD.out.below HW3.out) HDS.out)
  clear ho3 hn hb3 X2 c0 HF
  go_wp2_with fail
  refine HCC.out.mono ?_
  rintro e w4 ⟨x4, rfl, ho4, hb4⟩
  obtain ⟨ds, hds⟩ : ∃ ds, ds = fewL ds0 := ⟨_, rfl⟩
  have hd8 : ds.length ≤ 8 := by rw [hds]; exact fewL_len _
  have hdl : ∀ x ∈ ds, x.length ≤ 2001 := by rw [hds]; exact fun x hx => fewL_sizes ds0 x hx
  rw [← hds] at ho4
  obtain ⟨m, hm⟩ : ∃ m, m = ds.length := ⟨_, rfl⟩
  have HM := Lib.hid hm
  rw [← hm] at ho4
  obtain ⟨a4, c4, rfl⟩ := own_shp ho4
  have X4 := Lib.hid (X3.out.on hb4)
  have HW4 := Lib.hid (bch HW3.out hb4)
  obtain ⟨w5, hw5⟩ : ∃ z, z = w4.setRow b3 #[.slice a3 n c3] := ⟨_, rfl⟩
  have x5 : Box w5 b3 24 #[.slice a3 n c3] := by rw [hw5]; exact X4.out.row _
  have hg5 : w4.grownBy w5 (some b3) := by rw [hw5]; exact grown_row _ _ _
  have HI5 : Hid (RdI w5 (.slice a3 n c3) l) := Lib.hid (by
    show RdF _ _ _ _
    rw [← HN.out]
    exact rdF_grown (own_bel HO3.out hb4) hg5 HL2.out)
  have HD5 : Hid (RdS w5 (.slice a4 m c4) ds) := Lib.hid (rdS_own (B := w3.heap.size) (by rw [← HM.out]; exact own_grown ho4 hg5 (Nat.lt_of_lt_of_le HL2.out HW32.out)))
  have HT5 : Hid (Tabs w5) := Lib.hid ((HT.out.on HW4.out).grown (Nat.le_trans HT.out.one H3.out) hg5)
  have HWW5 : Hid (Below w.heap.size w w5) := Lib.hid (by rw [hw5]; exact below_row HW4.out H3.out _)
  have X5 := Lib.hid x5
  have HW5 := Lib.hid hw5
  have HM8 := Lib.hid hd8
  have HDL := Lib.hid hdl
  have HCT := Lib.hid (cut7_any ts0 (.slice ta tn tc) w5 (HX.out.below HWW5.out) HXS.out)
  clear hw5 hg5 x5 ho4 hm hb4 hd8 hdl X3 HCC
  go_wp2_with (first
    | (refine wpList_store_row rfl 24 (.tmp 3) (.tmp 17) rfl b3 #[.slice a3 n c3] rfl rfl 24 _ X4.out (info24 _) rfl (slice_one _ _ _) ?_; rw [← HW5.out])
    | fail)
  refine HCT.out.mono ?_
  rintro e w6 ⟨x5, rfl, ho5, hb5⟩
  obtain ⟨ts, hts⟩ : ∃ ts, ts = fewL ts0 := ⟨_, rfl⟩
  have h58 : ts.length ≤ 8 := by rw [hts]; exact fewL_len _
  rw [← hts] at ho5
  have HT6S : Hid (RdS w6 x5 ts) := Lib.hid (rdS_own ho5)
  obtain ⟨n5, hn5⟩ : ∃ n, n = ts.length := ⟨_, rfl⟩
  have HN5 := Lib.hid hn5
  rw [← hn5] at ho5 h58
  have hnI : (n5 : Int) ≤ 8 := by omega
  obtain ⟨a5, c5, rfl⟩ := own_shp ho5
  have X6 := Lib.hid (X5.out.on hb5)
  have HI6 := Lib.hid (HI5.out.on hb5)
  have HD6 := Lib.hid (HD5.out.below hb5)
  have HT6 := Lib.hid (HT5.out.on hb5)
  have HW6 := Lib.hid (bch HWW5.out hb5)
  obtain ⟨bt, hbt⟩ : ∃ b, b = validT l := ⟨_, rfl⟩
  have HBT := Lib.hid hbt
  have HTR : Hid (∀ W : World, Below w6.heap.size w6 W → Calls Tryd.prog 21 #[.agg #[.slice a3 n c3]] W fun e w' => e = .returned (.bool bt) ∧ Below W.heap.size W w') := Lib.hid (fun W hW => by rw [HBT.out]; exact rtree_any l _ W (HI6.out.on hW) HSZ.out)
  have HLK : Hid (∀ (s : Str) (W : World), Below w6.heap.size w6 W → Calls Tryd.prog 27 #[.agg #[.slice a3 n c3], .slice a4 m c4, .string ⟨s.toArray⟩] W (LookR (lookM l ds s) W)) := Lib.hid (fun s W hW => lookup_any l _ ds _ ⟨s.toArray⟩ W (HI6.out.on hW) HL.out (fun x hx => Nat.le_trans (HSZ.out x hx) (by decide)) (HT6.out.on hW) (HD6.out.below hW) (by have := HM8.out; omega) (fun x hx => Nat.le_trans (HDL.out x hx) (by decide)))
  have HRL : Hid (∀ (s : Str) (W : World), bt = true → s.length ≤ 2000 → Below w6.heap.size w6 W → Calls Tryd.prog 28 #[.agg #[.slice a3 n c3], .slice a4 m c4, .string ⟨s.toArray⟩] W (LkQ (lookF l s ds 0) W)) := Lib.hid (fun s W hb hs hW => rlook_any l _ ds _ s W (HI6.out.on hW) HL.out ((valid_tree l).1 (by rw [← HBT.out, hb])) hs HDZ.out (HD6.out.below hW) (by have := HM8.out; omega) (fun x hx => Nat.le_trans (HDL.out x hx) (by decide)))
  clear hts h58 hn5 ho5 hb5 hbt hds hl HCT X4 X5 HI5 HD5 HT5 HWW5 HW5 HW4 HW3 HB2 HB1
  go_wp2_with fail
  go_loopw [8, 9, 10, 11, 12, 13, 23, 24, 25, 26, 27, 28, 29, 30, 31, 32, 33, 34, 35, 36, 37, 38, 39, 40, 41, 42, 43, 44, 45, 46, 47, 48, 49, 50, 51, 52, 53, 54, 55, 56, 57, 58, 59, 60, 61, 62, 63, 64, 65, 66, 67, 68, 69, 70, 71, 72, 73, 74, 75, 76, 77, 78, 79, 80, 81, 82, 83, 84, 85, 86, 87, 88, 89, 90, 91, 92, 93, 94, 95] (fun _ _ _ _ _ _ i _ _ _ _ _ _ _ _ _ _ _ _ _ _ _ _ _ _ _ _ _ _ _ _ _ _ _ _ _ _ _ _ _ _ _ _ _ _ _ _ _ _ _ _ _ _ _ _ _ _ _ _ _ _ _ _ _ _ _ _ _ _ _ _ _ _ _ _ _ _ _ _ W => ∃ k : Nat, k ≤ n5 ∧ i = .int .i64 k ∧ Hid (Below w6.heap.size w6 W)) (fun _ _ _ _ _ _ i _ _ _ _ _ _ _ _ _ _ _ _ _ _ _ _ _ _ _ _ _ _ _ _ _ _ _ _ _ _ _ _ _ _ _ _ _ _ _ _ _ _ _ _ _ _ _ _ _ _ _ _ _ _ _ _ _ _ _ _ _ _ _ _ _ _ _ _ _ _ _ _ _ => n5 - (Lib.intOf i).toNat)
  case atStart => exact ⟨0, Nat.zero_le _, rfl, Lib.hid (Below.refl _ _)⟩
  case round =>
    obtain ⟨k, hk, rfl, HBk⟩ := hrel
    obtain ⟨wq, hwq⟩ : ∃ q, q = wr := ⟨_, rfl⟩
    rw [← hwq] at HBk ⊢
    clear hwq
    by_cases hlt : k < n5
    · obtain ⟨s, hs⟩ : ∃ s, ts[k]? = some s := ⟨_, List.getElem?_eq_getElem (by rw [← HN5.out]; exact hlt)⟩
      obtain ⟨aa, cc, e, _, _, hcell⟩ := HT6S.out
      rw [← HN5.out] at e
      cases e
      obtain ⟨gg, o, rfl, hgg, hc⟩ := hcell (by rw [← HN5.out]; omega)
      have q0 : wq.cell? ⟨gg, o + k, none⟩ = some (.string ⟨s.toArray⟩) := (HBk.out.cell (p := ⟨gg, _, none⟩) hgg).trans (hc k s hs)
      have c0 : wq.cell? ⟨b3, 0, none⟩ = some (.slice a3 n c3) := (X6.out.on HBk.out).cell (k := 0) rfl
      have k1 : (k : Int) < (n5 : Int) := by omega
      have k2 : (0 : Int) ≤ (k : Int) := by omega
      have k4 : IntKind.i64.wrap ((k : Int) + 1) = (k : Int) + 1 := IntWalk.i64_in _ (by omega)
      obtain ⟨M, hM⟩ : ∃ M, M = lookM l ds s := ⟨_, rfl⟩
      have HM0 := Lib.hid hM
      obtain ⟨I, hI⟩ : ∃ I, I = placeL M := ⟨_, rfl⟩
      obtain ⟨E, hE⟩ : ∃ E, E = errL M := ⟨_, rfl⟩
      obtain ⟨y, hy⟩ : ∃ y, y = itL M := ⟨_, rfl⟩
      have HI := Lib.hid hI
      have HE := Lib.hid hE
      have HY := Lib.hid hy
      have HLQ : Hid (Calls Tryd.prog 27 #[.agg #[.slice a3 n c3], .slice a4 m c4, .string ⟨s.toArray⟩] wq fun e w' => e = .returned (.tuple #[.int .i64 I, .agg y.arr, .int .i64 E]) ∧ Below wq.heap.size wq w') := Lib.hid (by
        have := HLK.out s wq HBk.out
        rw [← hM] at this
        rw [hI, hE, hy]
        exact this)
      clear hc hcell hs hM hI hE hy
      go_upto_region 7 with fail
      go_upto_region 11 with (first
        | (go_at_call 27; refine HLQ.out.mono ?_; rintro e w7 ⟨rfl, hb7⟩)
        | (with_reducible refine wpList_zero rfl 35 rfl It.nil.arr zero35 ?_)
        | (refine wpList_store_row rfl 35 (.tmp 10) (.tmp 33) rfl w7.heap.size y.arr rfl rfl 35 It.nil.arr box_new (info35 _) rfl (iarr_one _) ?_))
      obtain ⟨w8, hw8⟩ : ∃ z, z = (w7.alloc (.cells #[.string ⟨#[]⟩, .int .i64 0, .string ⟨#[]⟩] 35)).setRow w7.heap.size y.arr := ⟨_, rfl⟩
      obtain ⟨b10, hb10⟩ : ∃ z, z = w7.heap.size := ⟨_, rfl⟩
      have X10 : Hid (Box w8 b10 35 y.arr) := Lib.hid (by rw [hw8, hb10]; exact Box.row (box_new (w := w7) (t := 35) (cs := It.nil.arr)) _)
      have HB8 : Hid (Below w6.heap.size w6 w8) := Lib.hid (bch HBk.out (by rw [hw8]; exact bch hb7 (below_row (below_new _ _) (Nat.le_refl _) _)))
      rw [← hw8, ← hb10]
      clear hw8 hb10 hb7 c0 q0 HLQ
      have c0 : w8.cell? ⟨b3, 0, none⟩ = some (.slice a3 n c3) := (X6.out.on HB8.out).cell (k := 0) rfl
      cases bt with
      | false =>
        have HMF : Hid (M = .error 160) := Lib.hid (by rw [HM0.out]; unfold lookM; rw [if_pos HBT.out.symm])
        obtain rfl : I = 0 := by rw [HI.out, HMF.out]; rfl
        obtain rfl : E = 160 := by rw [HE.out, HMF.out]; rfl
        obtain rfl : y = It.nil := by rw [HY.out, HMF.out]; rfl
        have HTQ := Lib.hid (HTR.out w8 HB8.out)
        have e35 : ∀ W, (Op.equalIn 10000 35 (.agg #[.string ⟨#[]⟩, .int .i64 0, .string ⟨#[]⟩]) (.agg #[.string ⟨#[]⟩, .int .i64 0, .string ⟨#[]⟩])).run Tryd.prog W = .ok true W := eq35_at .nil .nil true (decide_eq_true rfl)
        go_upto_region 12 with (go_at_call 21; refine HTQ.out.mono ?_; rintro e w9 ⟨rfl, hb9⟩; have X11 := Lib.hid (X10.out.on hb9); have HB9 := Lib.hid (bch HB8.out hb9); clear hb9 c0)
        have d80 : w9.cell? ⟨b10, 0, none⟩ = some (.string ⟨#[]⟩) := X11.out.cell (k := 0) rfl
        have d81 : w9.cell? ⟨b10, 1, none⟩ = some (.int .i64 0) := X11.out.cell (k := 1) rfl
        have d82 : w9.cell? ⟨b10, 2, none⟩ = some (.string ⟨#[]⟩) := X11.out.cell (k := 2) rfl
        go_wp2_with fail
        go_roundw
        case rel => exact ⟨k + 1, hlt, by go_num, HB9⟩
        case measure => simp [Lib.intOf]; omega
      | true =>
        have HTQ := Lib.hid (HTR.out w8 HB8.out)
        go_upto_region 14 with (go_at_call 21; refine HTQ.out.mono ?_; rintro e w9 ⟨rfl, hb9⟩; have X11 := Lib.hid (X10.out.on hb9); have HB9 := Lib.hid (bch HB8.out hb9); clear hb9 c0)
        have hsl : (s.toArray).size = s.length := by simp
        by_cases hlong : 2000 < s.length
        · have HMF : Hid (M = .error 3) := Lib.hid (by rw [HM0.out]; unfold lookM; rw [if_neg (by rw [← HBT.out]; simp), if_pos hlong])
          obtain rfl : I = 0 := by rw [HI.out, HMF.out]; rfl
          obtain rfl : E = 3 := by rw [HE.out, HMF.out]; rfl
          obtain rfl : y = It.nil := by rw [HY.out, HMF.out]; rfl
          have e35 : ∀ W, (Op.equalIn 10000 35 (.agg #[.string ⟨#[]⟩, .int .i64 0, .string ⟨#[]⟩]) (.agg #[.string ⟨#[]⟩, .int .i64 0, .string ⟨#[]⟩])).run Tryd.prog W = .ok true W := eq35_at .nil .nil true (decide_eq_true rfl)
          have d80 : w9.cell? ⟨b10, 0, none⟩ = some (.string ⟨#[]⟩) := X11.out.cell (k := 0) rfl
          have d81 : w9.cell? ⟨b10, 1, none⟩ = some (.int .i64 0) := X11.out.cell (k := 1) rfl
          have d82 : w9.cell? ⟨b10, 2, none⟩ = some (.string ⟨#[]⟩) := X11.out.cell (k := 2) rfl
          have j1 : ((s.length : Int) > 2000) := by omega
          have j2 : (2000 : Int) < (s.length : Int) := by omega
          go_wp2_with fail
          go_roundw
          case rel => exact ⟨k + 1, hlt, by go_num, HB9⟩
          case measure => simp [Lib.intOf]; omega
        · have HMF : Hid (M = lookF l s ds 0) := Lib.hid (by rw [HM0.out]; unfold lookM; rw [if_neg (by rw [← HBT.out]; simp), if_neg hlong])
          have HRQ := Lib.hid (HRL.out s w9 (by trivial) (by omega) HB9.out)
          rw [← HMF.out] at HRQ
          have j2 : ¬ (2000 : Int) < (s.length : Int) := by omega
          have c0 : w9.cell? ⟨b3, 0, none⟩ = some (.slice a3 n c3) := (X6.out.on HB9.out).cell (k := 0) rfl
          clear HM0
          cases M with
          | error z =>
            obtain rfl : z = 4 := look_four l s ds 0 z HMF.out.symm
            obtain rfl : I = -1 := HI.out
            obtain rfl : E = 4 := HE.out
            obtain rfl : y = It.nil := HY.out
            have e35 : ∀ W, (Op.equalIn 10000 35 (.agg #[.string ⟨#[]⟩, .int .i64 0, .string ⟨#[]⟩]) (.agg #[.string ⟨#[]⟩, .int .i64 0, .string ⟨#[]⟩])).run Tryd.prog W = .ok true W := eq35_at .nil .nil true (decide_eq_true rfl)
            go_upto_region 9 with (first
              | (go_at_call 28; refine HRQ.out.mono ?_; rintro e w10 ⟨hb10, rfl⟩)
              | (with_reducible refine wpList_zero rfl 35 rfl It.nil.arr zero35 ?_)
              | (refine wpList_store_row rfl 35 (.tmp 13) (.tmp 41) rfl w10.heap.size It.nil.arr rfl rfl 35 It.nil.arr box_new (info35 _) rfl (iarr_one _) ?_))
            obtain ⟨w11, hw11⟩ : ∃ z, z = (w10.alloc (.cells #[.string ⟨#[]⟩, .int .i64 0, .string ⟨#[]⟩] 35)).setRow w10.heap.size It.nil.arr := ⟨_, rfl⟩
            obtain ⟨b13, hb13⟩ : ∃ z, z = w10.heap.size := ⟨_, rfl⟩
            have hn : Below w9.heap.size w9 w11 := by rw [hw11]; exact bch hb10 (below_row (below_new _ _) (Nat.le_refl _) _)
            have HB11 : Hid (Below w6.heap.size w6 w11) := Lib.hid (bch HB9.out hn)
            have d0 : w11.cell? ⟨b10, 0, none⟩ = some (.string ⟨#[]⟩) := (X11.out.on hn).cell (k := 0) rfl
            have d1 : w11.cell? ⟨b10, 1, none⟩ = some (.int .i64 0) := (X11.out.on hn).cell (k := 1) rfl
            have d2 : w11.cell? ⟨b10, 2, none⟩ = some (.string ⟨#[]⟩) := (X11.out.on hn).cell (k := 2) rfl
            have x13 : Box w11 b13 35 It.nil.arr := by rw [hw11, hb13]; exact Box.row (box_new (w := w10) (t := 35) (cs := It.nil.arr)) _
            have f0 : w11.cell? ⟨b13, 0, none⟩ = some (.string ⟨#[]⟩) := x13.cell (k := 0) rfl
            have f1 : w11.cell? ⟨b13, 1, none⟩ = some (.int .i64 0) := x13.cell (k := 1) rfl
            have f2 : w11.cell? ⟨b13, 2, none⟩ = some (.string ⟨#[]⟩) := x13.cell (k := 2) rfl
            rw [← hw11, ← hb13]
            clear hw11 hb13 hn hb10 x13 c0
            go_wp2_with fail
            go_roundw
            case rel => exact ⟨k + 1, hlt, by go_num, HB11⟩
            case measure => simp [Lib.intOf]; omega
          | ok r =>
            obtain ⟨i, x⟩ := r
            obtain rfl : I = (i : Int) := HI.out
            obtain rfl : E = 0 := HE.out
            obtain rfl : y = x := HY.out
            have e35 : ∀ W, (Op.equalIn 10000 35 (.agg #[.string ⟨y.path.toArray⟩, .int .i64 y.kind, .string ⟨y.data.toArray⟩]) (.agg #[.string ⟨y.path.toArray⟩, .int .i64 y.kind, .string ⟨y.data.toArray⟩])).run Tryd.prog W = .ok true W := eq35_at y y true (decide_eq_true rfl)
            have j3 : (0 : Int) ≤ (i : Int) := by omega
            have j4 : (i : Int) ≥ 0 := by omega
            go_upto_region 9 with (first
              | (go_at_call 28; refine HRQ.out.mono ?_; rintro e w10 ⟨hb10, rfl⟩)
              | (with_reducible refine wpList_zero rfl 35 rfl It.nil.arr zero35 ?_)
              | (refine wpList_store_row rfl 35 (.tmp 13) (.tmp 41) rfl w10.heap.size y.arr rfl rfl 35 It.nil.arr box_new (info35 _) rfl (iarr_one _) ?_))
            obtain ⟨w11, hw11⟩ : ∃ z, z = (w10.alloc (.cells #[.string ⟨#[]⟩, .int .i64 0, .string ⟨#[]⟩] 35)).setRow w10.heap.size y.arr := ⟨_, rfl⟩
            obtain ⟨b13, hb13⟩ : ∃ z, z = w10.heap.size := ⟨_, rfl⟩
            have hn : Below w9.heap.size w9 w11 := by rw [hw11]; exact bch hb10 (below_row (below_new _ _) (Nat.le_refl _) _)
            have HB11 : Hid (Below w6.heap.size w6 w11) := Lib.hid (bch HB9.out hn)
            have d0 : w11.cell? ⟨b10, 0, none⟩ = some (.string ⟨y.path.toArray⟩) := (X11.out.on hn).cell (k := 0) rfl
            have d1 : w11.cell? ⟨b10, 1, none⟩ = some (.int .i64 y.kind) := (X11.out.on hn).cell (k := 1) rfl
            have d2 : w11.cell? ⟨b10, 2, none⟩ = some (.string ⟨y.data.toArray⟩) := (X11.out.on hn).cell (k := 2) rfl
            have x13 : Box w11 b13 35 y.arr := by rw [hw11, hb13]; exact Box.row (box_new (w := w10) (t := 35) (cs := It.nil.arr)) _
            have f0 : w11.cell? ⟨b13, 0, none⟩ = some (.string ⟨y.path.toArray⟩) := x13.cell (k := 0) rfl
            have f1 : w11.cell? ⟨b13, 1, none⟩ = some (.int .i64 y.kind) := x13.cell (k := 1) rfl
            have f2 : w11.cell? ⟨b13, 2, none⟩ = some (.string ⟨y.data.toArray⟩) := x13.cell (k := 2) rfl
            rw [← hw11, ← hb13]
            clear hw11 hb13 hn hb10 x13 c0
            go_wp2_with fail
            go_roundw
            case rel => exact ⟨k + 1, hlt, by go_num, HB11⟩
            case measure => simp [Lib.intOf]; omega
    · have k1 : ¬ ((k : Int) < (n5 : Int)) := by omega
      have HWq : Hid (Below w.heap.size w wq) := Lib.hid (bch HW6.out HBk.out)
      go_wp2_with fail
      go_ret
      exact ⟨rfl, HWq.out⟩
end Go.Proofs.YtiakedoebecgpaaDoor

namespace Go.Proofs.YtiakedoebecgpaaDoor.WalkLooksP
open Go.ChangeShapes Go.WideShapes Go.ChangeAt Go.RowKit Go.Joins Go.Deep
open Go.ChangeMaps (open_string shut_string)

theorem met (os : Os) : laidMet Tryd.prog Rows.walkLooksUptoRow.laid ((laidWorld os).forCall (fun _ _ => 0) ⟨#[], #[zeroTree, .slice none 0 0, .slice none 0 0], []⟩).memory :=
  laid_met os _
theorem reads (os : Os) {H : Type} (enc : TypeId × Value → H) : ∃ places, DataW.whole enc Tryd.prog ((laidWorld os).forCall (fun _ _ => 0) ⟨#[], #[zeroTree, .slice none 0 0, .slice none 0 0], []⟩).memory Tryd.f7.params.toList Rows.walkLooksSpec.vars false #[zeroTree, Value.slice none 0 0, Value.slice none 0 0].toList 8 = some ([zeroTreeD, .nil, .nil], [], places) :=
  ⟨[], by kernel_rfl⟩

set_option maxRecDepth 100000 in
theorem lifted (os : Os) (started : os.Started) (H : Type) (enc : TypeId × Value → H) (F : Stop.Interp) :
    ReturnsInHanded {} Tryd.checked os 7 .any ((Rows.OpenSpec.upto Rows.walkLooksSpec).preRow enc Tryd.prog Tryd.f7 Rows.walkLooksUptoRow.domain false Rows.walkLooksUptoRow.laid) (((Rows.OpenSpec.upto Rows.walkLooksSpec).at F).post enc Tryd.prog Tryd.f7 false true false false) := by
  obtain ⟨places, hx⟩ := reads os enc
  refine returnsInHanded_of_row (C := Tryd.checked) (s := Rows.OpenSpec.upto Rows.walkLooksSpec) own0 started (by kernel_rfl) Tryd.func7
    (witness_row_at (enc := enc) (C := Tryd.checked) false (laidWorld os) #[zeroTree, .slice none 0 0, .slice none 0 0] rfl (by kernel_rfl) (by kernel_rfl) (by kernel_rfl)
      (OpenSpec.preRow_of_cond 8 hx (by kernel_rfl) (fun k hk => by cases hk; kernel_rfl) (by kernel_rfl) (met os))) ?_
  intro W base args ds gs before hval0 hW _ hcond hsz0 hL hsh _
  have hval : ∀ (j : Nat) t v, Tryd.f7.params[j]? = some t → args[j]? = some v → Value.okWide Tryd.prog W .any base t v := hval0
  have hsz : (DataW.weightsEach Tryd.prog (Tryd.f7.params.toList ++ Rows.walkLooksSpec.plain.varTypes Tryd.prog) (ds ++ gs)).all (· ≤ reachBytes) = true := hsz0
  have hsm : Rows.uptoBulkAll (ds ++ gs) ≤ 1048576 := of_decide_eq_true (hcond _ rfl)
  clear hsz0 hcond
  have hW' := hW
  obtain ⟨p, q, hA0, hV, rfl, hfz, hnd⟩ := hW
  have hA : DataW.TrodAll enc Tryd.prog W 0 (fun _ => true) true Tryd.f7.params.toList args.toList ds p := hA0
  rw [Tryd.params7] at hA hval hsz
  obtain ⟨v0, vs0, d0, ds0, p0, q0, hargs, rfl, rfl, h0, r0⟩ := trodAll_cons hA
  obtain ⟨v1, vs1, d1, ds1, p1, q1, rfl, rfl, rfl, h1, r1⟩ := trodAll_cons r0
  obtain ⟨v2, vs2, d2, ds2, p2, q2, rfl, rfl, rfl, h2, r2⟩ := trodAll_cons r1
  obtain ⟨rfl, rfl, rfl⟩ := trodAll_nil r2
  obtain rfl : args = #[v0, v1, v2] := by cases args; simp_all
  obtain ⟨rfl, rfl⟩ := trodVars_none hV
  obtain ⟨cs0, rfl⟩ := okWide_tree (hval 0 24 v0 rfl rfl)
  obtain ⟨a1, n1, c1, rfl⟩ := okWide_slice Tryd.underlying46 (hval 1 46 v1 rfl rfl)
  have h0k := h0
  obtain ⟨fuel0, hf0⟩ := h0
  have h1k := h1
  obtain ⟨fuel1, hf1⟩ := h1
  obtain ⟨a2, n2, c2, rfl⟩ := okWide_slice Tryd.underlying46 (hval 2 46 v2 rfl rfl)
  have h2k := h2
  obtain ⟨fuel2, hf2⟩ := h2
  clear hA0 hval0
  simp only [List.append_nil] at hW'
  have hlt0 : ∀ x ∈ p0, x.block < W.heap.size := fun x hx => by simpa using hW'.lt x (by simp [hx])
  have hlt1 : ∀ x ∈ p1, x.block < W.heap.size := fun x hx => by simpa using hW'.lt x (by simp [hx])
  have hlt2 : ∀ x ∈ p2, x.block < W.heap.size := fun x hx => by simpa using hW'.lt x (by simp [hx])
  have hb0 : Rows.uptoBulk d0 ≤ 1048576 := Nat.le_trans (bulk_part (by simp)) hsm
  obtain ⟨x0, l0, rfl, hr0, hw0'⟩ := argTb_of (by simpa [Value.cells] using hf0) hlt0
  have hwp : ∀ y ∈ l0, y.path.length ≤ 2000000 := fun y hy => Nat.le_trans (hw0' y hy).1 (Nat.le_trans hb0 (by decide))
  have hwd : ∀ y ∈ l0, y.data.length ≤ 2000000 := fun y hy => Nat.le_trans (hw0' y hy).2 (Nat.le_trans hb0 (by decide))
  obtain ⟨l1, hr1, hw1'⟩ := argR_of (by simpa [Value.cells] using hf1) hlt1
  have hw1 : ∀ y ∈ l1, y.length ≤ 140737488355328 := fun y hy => reach_len (by simpa using List.all_eq_true.1 hsz _ (DataW.weights_mem_each (j := 1) (t := 46) rfl rfl _ (hw1' y hy)))
  obtain ⟨l2, hr2, hw2'⟩ := argR_of (by simpa [Value.cells] using hf2) hlt2
  have hw2 : ∀ y ∈ l2, y.length ≤ 140737488355328 := fun y hy => reach_len (by simpa using List.all_eq_true.1 hsz _ (DataW.weights_mem_each (j := 2) (t := 46) rfl rfl _ (hw2' y hy)))
  refine (looks_law l0 x0 l1 _ l2 _ W hr0 hwp hwd (tabs hL hsh) hr1 hw1 hr2 hw2).mono fun e W' ⟨he, hb⟩ => ?_
  subst he
  exact ⟨_, rfl, _, _, _, [], _, [], hW', (trodAll_cons_mk (shut_bool Tryd.underlying4 _) trodAll_mk0), (trodAll_cons_mk (Below.trod laidOut (by kernel_rfl) (of_decide_eq_true (by kernel_rfl)) h0k hb hlt0) (trodAll_cons_mk (Below.trod laidOut (by kernel_rfl) (of_decide_eq_true (by kernel_rfl)) h1k hb hlt1) (trodAll_cons_mk (Below.trod laidOut (by kernel_rfl) (of_decide_eq_true (by kernel_rfl)) h2k hb hlt2) trodAll_mk0))), rfl, hb.frame _, fun h => by cases h⟩

theorem said : Rows.WalkLooksUptoSaid :=
  OpenClaim.holds_of_cond 7 Tryd.f7 rfl rfl rfl rfl rfl rfl rfl ⟨rfl, rfl, rfl, rfl, rfl⟩ rfl rfl rfl rfl rfl (by kernel_rfl) Tryd.func7 (by kernel_rfl)
    (of_decide_eq_true (by kernel_rfl)) (by unfold Func.isWrapper; first | (rw [if_pos (by decide +kernel)]; kernel_rfl) | (rw [if_neg (by decide +kernel)]; exact ⟨rfl, rfl⟩))
    (fun os started H enc _ F => by rw [OpenClaim.pre_eq_preRow]; exact lifted os started H enc F)

/-- No parameter wants a stand-in; the program's own looks are off: what the card asks. -/
theorem plain (f : FuncId) (fn : Func) (hf : Tryd.pinned.checked.prog.funcNamed "puncheon/puncheonlaw07.WalkLooks" = some f) (hfn : Tryd.pinned.checked.prog.funcs[f]? = some fn) :
    false = Tryd.pinned.checked.prog.looks [] ∧ ∀ (j : Nat) t, fn.params[j]? = some t → Tryd.pinned.checked.prog.wantsStandIn t = false := by
  obtain rfl : f = 7 := Option.some.inj ((show Tryd.prog.funcNamed "puncheon/puncheonlaw07.WalkLooks" = some 7 by kernel_rfl).symm.trans hf) |>.symm
  obtain rfl : fn = Tryd.f7 := (Option.some.inj (Tryd.func7.symm.trans hfn)).symm
  refine ⟨by kernel_rfl, fun j t ht => ?_⟩
  rw [Tryd.params7] at ht
  have hm : t ∈ [24, 46, 46] := by simpa using Array.mem_of_getElem? ht
  have hall : ([24, 46, 46].all fun u => !Tryd.prog.wantsStandIn u) = true := by kernel_rfl
  exact (show Tryd.prog.wantsStandIn t = false by simpa using List.all_eq_true.1 hall t hm)
end Go.Proofs.YtiakedoebecgpaaDoor.WalkLooksP
namespace Go.Proofs.YtiakedoebecgpaaDoor
theorem walkLooks_upto_card : Rows.WalkLooksUptoCardSaid :=
  Claim7.holds_tied_plain_at .later [] _ _ _ _ WalkLooksP.said (fun _ h => by cases h) (by kernel_rfl) (fun _ h => by cases h) walkLooksUpto_row_tie rfl ⟨rfl, rfl⟩ (by kernel_rfl) rfl WalkLooksP.plain (by kernel_rfl)
#print axioms walkLooks_upto_card
end Go.Proofs.YtiakedoebecgpaaDoor
