/- Proved: whatever tree and texts WalkLeads of puncheonlaw07 is called with, the call returns true, and all read behind it as they read before (the statement Rows.WalkLeadsUptoCardSaid). Condition: what came in holds at most 1048576 values and letters (the statement's own); the tables stand as the program's text lays them (the card ties them), and the form's own reach. | Proved here: WalkLooks of puncheonlaw07 returns true, wherever the tables stand. | Proved here: WalkLeads of puncheonlaw07 returns true, wherever the tables stand. -/
import Derived.Test.YtiakedoebecgpaaDoorMT2
import Derived.Test.YtiakedoebecgpaaDoorMT1
namespace Go.Proofs.YtiakedoebecgpaaDoor
open Go.RowKit Go.Shelf

theorem own_shp {w : World} {B s n : Nat} {e : TypeId} {v : Value} {xs : List Value} (h : w.ownsRow B e s v n xs) : ∃ a c, v = .slice a n c := by
  rcases h.2 with ⟨rfl, rfl⟩ | ⟨g, cap, cur, rfl, _⟩
  · exact ⟨_, _, rfl⟩
  · exact ⟨_, _, rfl⟩
theorem own_bel {w w' : World} {B s n : Nat} {e : TypeId} {v : Value} {xs : List Value} (h : w.ownsRow B e s v n xs) (hb : Below w.heap.size w w') : w'.ownsRow B e s v n xs := by
  refine ⟨h.1, ?_⟩
  rcases h.2 with h0 | ⟨g, cap, cur, hv, hB, hh, hr⟩
  · exact .inl h0
  · have hlt : g < w.heap.size := by
      rcases Nat.lt_or_ge g w.heap.size with h' | h'
      · exact h'
      · rw [Array.getElem?_eq_none h'] at hh; cases hh
    exact .inr ⟨g, cap, cur, hv, hB, (hb.block g hlt).trans hh, hr⟩
theorem eq35_at (a b : It) (o : Bool) (h : decide (a = b) = o) : ∀ W, (Op.equalIn 10000 35 (.agg #[.string ⟨a.path.toArray⟩, .int .i64 a.kind, .string ⟨a.data.toArray⟩]) (.agg #[.string ⟨b.path.toArray⟩, .int .i64 b.kind, .string ⟨b.data.toArray⟩])).run Tryd.prog W = .ok o W := fun W => by rw [← h]; exact eq35 a b W
theorem look_four (l : List It) (s : Str) : ∀ (ds : List Str) (k : Nat) (z : Int), lookF l s ds k = .error z → z = 4
  | [], _, z, h => by unfold lookF at h; cases h; rfl
  | d :: ds, k, z, h => by
    unfold lookF at h
    cases hm : leadM l d s true with
    | ok r => rw [hm] at h; cases h
    | error y => rw [hm] at h; exact look_four l s ds (k + 1) z h

set_option maxRecDepth 100000 in
set_option maxHeartbeats 16000000 in
theorem looks_law (l0 : List It) (v : Value) (ds0 : List Str) (dv : Value) (ts0 : List Str) (tv : Value) (w : World) (hv : RdI w v l0) (hsz : ∀ x ∈ l0, x.path.length ≤ 2000000) (hdz : ∀ x ∈ l0, x.data.length ≤ 2000000) (hT : Tabs w) (hd : RdS w dv ds0) (hds : ∀ x ∈ ds0, x.length ≤ 140737488355328) (ht : RdS w tv ts0) (hts : ∀ x ∈ ts0, x.length ≤ 140737488355328) :
    Calls Tryd.prog 7 #[.agg #[v], dv, tv] w fun e w' => e = .returned (.bool true) ∧ Below w.heap.size w w' := by
  obtain ⟨w1, hw1⟩ : ∃ z, z = w.alloc (.cells #[v] 24) := ⟨_, rfl⟩
  have X : Hid (Box w1 w.heap.size 24 #[v]) := Lib.hid (by rw [hw1]; exact box_new)
  have HB1 : Hid (Below w.heap.size w w1) := Lib.hid (by rw [hw1]; exact below_new _ _)
  have HT := Lib.hid hT
  have HV := Lib.hid hv
  have HD := Lib.hid hd
  have HDS := Lib.hid hds
  have HX := Lib.hid ht
  have HXS := Lib.hid hts
  obtain ⟨l, hl⟩ : ∃ l, l = l0.take 60 := ⟨_, rfl⟩
  have HL : Hid (l.length ≤ 1000000) := Lib.hid (by rw [hl, List.length_take]; omega)
  have HSZ : Hid (∀ x ∈ l, x.path.length ≤ 2000000) := Lib.hid (fun x hx => hsz x (List.mem_of_mem_take (by rwa [hl] at hx)))
  have HDZ : Hid (∀ x ∈ l, x.data.length ≤ 2000000) := Lib.hid (fun x hx => hdz x (List.mem_of_mem_take (by rwa [hl] at hx)))
  have HW := Lib.hid (wwakes_any w1 (hT.on HB1.out))
  obtain ⟨va, vn, vc, rfl⟩ : ∃ a n c, v = .slice a n c := by obtain ⟨a, c, e, _⟩ := HV.out; exact ⟨_, _, _, e⟩
  obtain ⟨da, dn, dc, rfl⟩ : ∃ a n c, dv = .slice a n c := by obtain ⟨a, c, e, _⟩ := HD.out; exact ⟨_, _, _, e⟩
  obtain ⟨ta, tn, tc, rfl⟩ : ∃ a n c, tv = .slice a n c := by obtain ⟨a, c, e, _⟩ := HX.out; exact ⟨_, _, _, e⟩
  obtain ⟨b3, hb3⟩ : ∃ z, z = w.heap.size := ⟨_, rfl⟩
  have H3 : Hid (w.heap.size ≤ b3) := Lib.hid (by rw [hb3]; exact Nat.le_refl _)
  have HB3 := Lib.hid hb3
  rw [← hb3] at X
  clear hT hsz hdz hv hd hds ht hts
  go_enter Tryd.func7, Tryd.ntmps7
  go_upto_region 1 with fail
  rw [← hw1, ← HB3.out]
  clear hw1 hb3
  go_wp2_with fail
  refine HW.out.mono ?_
  rintro e w2 ⟨rfl, hb2⟩
  have x2 := X.out.on hb2
  have HB2 := Lib.hid (bch HB1.out hb2)
  have c0 := x2.cell (k := 0) rfl
  have X2 := Lib.hid x2
  have HF := Lib.hid (wfew_own l0 (.slice va vn vc) w2 (HV.out.on HB2.out))
  rw [← hl] at HF
  clear hb2 X HW x2
  go_wp2_with fail
  refine HF.out.mono ?_
  rintro e w3 ⟨x3, rfl, ho3, hb3⟩
  obtain ⟨n, hn⟩ : ∃ n, n = l.length := ⟨_, rfl⟩
  have HN := Lib.hid hn
  rw [← hn] at ho3
  obtain ⟨a3, c3, rfl⟩ := own_shp ho3
  have HO3 := Lib.hid ho3
  have X3 := Lib.hid (X2.out.on hb3)
  have HW3 := Lib.hid (bch HB2.out hb3)
  have HL2 : Hid (b3 < w2.heap.size) := Lib.hid X2.out.lt
  have HW32 : Hid (w2.heap.size ≤ w3.heap.size) := Lib.hid hb3.size
  have HCC := Lib.hid (cut7_any ds0 (.slice da dn dc) w3 (HD.out.below HW3.out) HDS.out)
  clear ho3 hn hb3 X2 c0 HF
  go_wp2_with fail
  refine HCC.out.mono ?_
  rintro e w4 ⟨x4, rfl, ho4, hb4⟩
  obtain ⟨ds, hds⟩ : ∃ ds, ds = fewL ds0 := ⟨_, rfl⟩
  have hd8 : ds.length ≤ 8 := by rw [hds]; exact fewL_len _
  have hdl : ∀ x ∈ ds, x.length ≤ 2001 := by rw [hds]; exact fun x hx => fewL_sizes ds0 x hx
  rw [← hds] at ho4
  obtain ⟨m, hm⟩ : ∃ m, m = ds.length := ⟨_, rfl⟩
  have HM := Lib.hid hm
  rw [← hm] at ho4
  obtain ⟨a4, c4, rfl⟩ := own_shp ho4
  have X4 := Lib.hid (X3.out.on hb4)
  have HW4 := Lib.hid (bch HW3.out hb4)
  obtain ⟨w5, hw5⟩ : ∃ z, z = w4.setRow b3 #[.slice a3 n c3] := ⟨_, rfl⟩
  have x5 : Box w5 b3 24 #[.slice a3 n c3] := by rw [hw5]; exact X4.out.row _
  have hg5 : w4.grownBy w5 (some b3) := by rw [hw5]; exact grown_row _ _ _
  have HI5 : Hid (RdI w5 (.slice a3 n c3) l) := Lib.hid (by
    show RdF _ _ _ _
    rw [← HN.out]
    exact rdF_grown (own_bel HO3.out hb4) hg5 HL2.out)
  have HD5 : Hid (RdS w5 (.slice a4 m c4) ds) := Lib.hid (rdS_own (B := w3.heap.size) (by rw [← HM.out]; exact own_grown ho4 hg5 (Nat.lt_of_lt_of_le HL2.out HW32.out)))
  have HT5 : Hid (Tabs w5) := Lib.hid ((HT.out.on HW4.out).grown (Nat.le_trans HT.out.one H3.out) hg5)
  have HWW5 : Hid (Below w.heap.size w w5) := Lib.hid (by rw [hw5]; exact below_row HW4.out H3.out _)
  have X5 := Lib.hid x5
  have HW5 := Lib.hid hw5
  have HM8 := Lib.hid hd8
  have HDL := Lib.hid hdl
  have HCT := Lib.hid (cut7_any ts0 (.slice ta tn tc) w5 (HX.out.below HWW5.out) HXS.out)
  clear hw5 hg5 x5 ho4 hm hb4 hd8 hdl X3 HCC
  go_wp2_with (first
    | (refine wpList_store_row rfl 24 (.tmp 3) (.tmp 17) rfl b3 #[.slice a3 n c3] rfl rfl 24 _ X4.out (info24 _) rfl (slice_one _ _ _) ?_; rw [← HW5.out])
    | fail)
  refine HCT.out.mono ?_
  rintro e w6 ⟨x5, rfl, ho5, hb5⟩
  obtain ⟨ts, hts⟩ : ∃ ts, ts = fewL ts0 := ⟨_, rfl⟩
  have h58 : ts.length ≤ 8 := by rw [hts]; exact fewL_len _
  rw [← hts] at ho5
  have HT6S : Hid (RdS w6 x5 ts) := Lib.hid (rdS_own ho5)
  obtain ⟨n5, hn5⟩ : ∃ n, n = ts.length := ⟨_, rfl⟩
  have HN5 := Lib.hid hn5
  rw [← hn5] at ho5 h58
  have hnI : (n5 : Int) ≤ 8 := by omega
  obtain ⟨a5, c5, rfl⟩ := own_shp ho5
  have X6 := Lib.hid (X5.out.on hb5)
  have HI6 := Lib.hid (HI5.out.on hb5)
  have HD6 := Lib.hid (HD5.out.below hb5)
  have HT6 := Lib.hid (HT5.out.on hb5)
  have HW6 := Lib.hid (bch HWW5.out hb5)
  obtain ⟨bt, hbt⟩ : ∃ b, b = validT l := ⟨_, rfl⟩
  have HBT := Lib.hid hbt
  have HTR : Hid (∀ W : World, Below w6.heap.size w6 W → Calls Tryd.prog 21 #[.agg #[.slice a3 n c3]] W fun e w' => e = .returned (.bool bt) ∧ Below W.heap.size W w') := Lib.hid (fun W hW => by rw [HBT.out]; exact rtree_any l _ W (HI6.out.on hW) HSZ.out)
  have HLK : Hid (∀ (s : Str) (W : World), Below w6.heap.size w6 W → Calls Tryd.prog 27 #[.agg #[.slice a3 n c3], .slice a4 m c4, .string ⟨s.toArray⟩] W (LookR (lookM l ds s) W)) := Lib.hid (fun s W hW => lookup_any l _ ds _ ⟨s.toArray⟩ W (HI6.out.on hW) HL.out (fun x hx => Nat.le_trans (HSZ.out x hx) (by decide)) (HT6.out.on hW) (HD6.out.below hW) (by have := HM8.out; omega) (fun x hx => Nat.le_trans (HDL.out x hx) (by decide)))
  have HRL : Hid (∀ (s : Str) (W : World), bt = true → s.length ≤ 2000 → Below w6.heap.size w6 W → Calls Tryd.prog 28 #[.agg #[.slice a3 n c3], .slice a4 m c4, .string ⟨s.toArray⟩] W (LkQ (lookF l s ds 0) W)) := Lib.hid (fun s W hb hs hW => rlook_any l _ ds _ s W (HI6.out.on hW) HL.out ((valid_tree l).1 (by rw [← HBT.out, hb])) hs HDZ.out (HD6.out.below hW) (by have := HM8.out; omega) (fun x hx => Nat.le_trans (HDL.out x hx) (by decide)))
  clear hts h58 hn5 ho5 hb5 hbt hds hl HCT X4 X5 HI5 HD5 HT5 HWW5 HW5 HW4 HW3 HB2 HB1
  go_wp2_with fail
  go_loopw [8, 9, 10, 11, 12, 13, 23, 24, 25, 26, 27, 28, 29, 30, 31, 32, 33, 34, 35, 36, 37, 38, 39, 40, 41, 42, 43, 44, 45, 46, 47, 48, 49, 50, 51, 52, 53, 54, 55, 56, 57, 58, 59, 60, 61, 62, 63, 64, 65, 66, 67, 68, 69, 70, 71, 72, 73, 74, 75, 76, 77, 78, 79, 80, 81, 82, 83, 84, 85, 86, 87, 88, 89, 90, 91, 92, 93, 94, 95] (fun _ _ _ _ _ _ i _ _ _ _ _ _ _ _ _ _ _ _ _ _ _ _ _ _ _ _ _ _ _ _ _ _ _ _ _ _ _ _ _ _ _ _ _ _ _ _ _ _ _ _ _ _ _ _ _ _ _ _ _ _ _ _ _ _ _ _ _ _ _ _ _ _ _ _ _ _ _ _ W => ∃ k : Nat, k ≤ n5 ∧ i = .int .i64 k ∧ Hid (Below w6.heap.size w6 W)) (fun _ _ _ _ _ _ i _ _ _ _ _ _ _ _ _ _ _ _ _ _ _ _ _ _ _ _ _ _ _ _ _ _ _ _ _ _ _ _ _ _ _ _ _ _ _ _ _ _ _ _ _ _ _ _ _ _ _ _ _ _ _ _ _ _ _ _ _ _ _ _ _ _ _ _ _ _ _ _ _ => n5 - (Lib.intOf i).toNat)
  case atStart => exact ⟨0, Nat.zero_le _, rfl, Lib.hid (Below.refl _ _)⟩
  case round =>
    obtain ⟨k, hk, rfl, HBk⟩ := hrel
    obtain ⟨wq, hwq⟩ : ∃ q, q = wr := ⟨_, rfl⟩
    rw [← hwq] at HBk ⊢
    clear hwq
    by_cases hlt : k < n5
    · obtain ⟨s, hs⟩ : ∃ s, ts[k]? = some s := ⟨_, List.getElem?_eq_getElem (by rw [← HN5.out]; exact hlt)⟩
      obtain ⟨aa, cc, e, _, _, hcell⟩ := HT6S.out
      rw [← HN5.out] at e
      cases e
      obtain ⟨gg, o, rfl, hgg, hc⟩ := hcell (by rw [← HN5.out]; omega)
      have q0 : wq.cell? ⟨gg, o + k, none⟩ = some (.string ⟨s.toArray⟩) := (HBk.out.cell (p := ⟨gg, _, none⟩) hgg).trans (hc k s hs)
      have c0 : wq.cell? ⟨b3, 0, none⟩ = some (.slice a3 n c3) := (X6.out.on HBk.out).cell (k := 0) rfl
      have k1 : (k : Int) < (n5 : Int) := by omega
      have k2 : (0 : Int) ≤ (k : Int) := by omega
      have k4 : IntKind.i64.wrap ((k : Int) + 1) = (k : Int) + 1 := IntWalk.i64_in _ (by omega)
      obtain ⟨M, hM⟩ : ∃ M, M = lookM l ds s := ⟨_, rfl⟩
      have HM0 := Lib.hid hM
      obtain ⟨I, hI⟩ : ∃ I, I = placeL M := ⟨_, rfl⟩
      obtain ⟨E, hE⟩ : ∃ E, E = errL M := ⟨_, rfl⟩
      obtain ⟨y, hy⟩ : ∃ y, y = itL M := ⟨_, rfl⟩
      have HI := Lib.hid hI
      have HE := Lib.hid hE
      have HY := Lib.hid hy
      have HLQ : Hid (Calls Tryd.prog 27 #[.agg #[.slice a3 n c3], .slice a4 m c4, .string ⟨s.toArray⟩] wq fun e w' => e = .returned (.tuple #[.int .i64 I, .agg y.arr, .int .i64 E]) ∧ Below wq.heap.size wq w') := Lib.hid (by
        have := HLK.out s wq HBk.out
        rw [← hM] at this
        rw [hI, hE, hy]
        exact this)
      clear hc hcell hs hM hI hE hy
      go_upto_region 7 with fail
      go_upto_region 11 with (first
        | (go_at_call 27; refine HLQ.out.mono ?_; rintro e w7 ⟨rfl, hb7⟩)
        | (with_reducible refine wpList_zero rfl 35 rfl It.nil.arr zero35 ?_)
        | (refine wpList_store_row rfl 35 (.tmp 10) (.tmp 33) rfl w7.heap.size y.arr rfl rfl 35 It.nil.arr box_new (info35 _) rfl (iarr_one _) ?_))
      obtain ⟨w8, hw8⟩ : ∃ z, z = (w7.alloc (.cells #[.string ⟨#[]⟩, .int .i64 0, .string ⟨#[]⟩] 35)).setRow w7.heap.size y.arr := ⟨_, rfl⟩
      obtain ⟨b10, hb10⟩ : ∃ z, z = w7.heap.size := ⟨_, rfl⟩
      have X10 : Hid (Box w8 b10 35 y.arr) := Lib.hid (by rw [hw8, hb10]; exact Box.row (box_new (w := w7) (t := 35) (cs := It.nil.arr)) _)
      have HB8 : Hid (Below w6.heap.size w6 w8) := Lib.hid (bch HBk.out (by rw [hw8]; exact bch hb7 (below_row (below_new _ _) (Nat.le_refl _) _)))
      rw [← hw8, ← hb10]
      clear hw8 hb10 hb7 c0 q0 HLQ
      have c0 : w8.cell? ⟨b3, 0, none⟩ = some (.slice a3 n c3) := (X6.out.on HB8.out).cell (k := 0) rfl
      cases bt with
      | false =>
        have HMF : Hid (M = .error 160) := Lib.hid (by rw [HM0.out]; unfold lookM; rw [if_pos HBT.out.symm])
        obtain rfl : I = 0 := by rw [HI.out, HMF.out]; rfl
        obtain rfl : E = 160 := by rw [HE.out, HMF.out]; rfl
        obtain rfl : y = It.nil := by rw [HY.out, HMF.out]; rfl
        have HTQ := Lib.hid (HTR.out w8 HB8.out)
        have e35 : ∀ W, (Op.equalIn 10000 35 (.agg #[.string ⟨#[]⟩, .int .i64 0, .string ⟨#[]⟩]) (.agg #[.string ⟨#[]⟩, .int .i64 0, .string ⟨#[]⟩])).run Tryd.prog W = .ok true W := eq35_at .nil .nil true (decide_eq_true rfl)
        go_upto_region 12 with (go_at_call 21; refine HTQ.out.mono ?_; rintro e w9 ⟨rfl, hb9⟩; have X11 := Lib.hid (X10.out.on hb9); have HB9 := Lib.hid (bch HB8.out hb9); clear hb9 c0)
        have d80 : w9.cell? ⟨b10, 0, none⟩ = some (.string ⟨#[]⟩) := X11.out.cell (k := 0) rfl
        have d81 : w9.cell? ⟨b10, 1, none⟩ = some (.int .i64 0) := X11.out.cell (k := 1) rfl
        have d82 : w9.cell? ⟨b10, 2, none⟩ = some (.string ⟨#[]⟩) := X11.out.cell (k := 2) rfl
        go_wp2_with fail
        go_roundw
        case rel => exact ⟨k + 1, hlt, by go_num, HB9⟩
        case measure => simp [Lib.intOf]; omega
      | true =>
        have HTQ := Lib.hid (HTR.out w8 HB8.out)
        go_upto_region 14 with (go_at_call 21; refine HTQ.out.mono ?_; rintro e w9 ⟨rfl, hb9⟩; have X11 := Lib.hid (X10.out.on hb9); have HB9 := Lib.hid (bch HB8.out hb9); clear hb9 c0)
        have hsl : (s.toArray).size = s.length := by simp
        by_cases hlong : 2000 < s.length
        · have HMF : Hid (M = .error 3) := Lib.hid (by rw [HM0.out]; unfold lookM; rw [if_neg (by rw [← HBT.out]; simp), if_pos hlong])
          obtain rfl : I = 0 := by rw [HI.out, HMF.out]; rfl
          obtain rfl : E = 3 := by rw [HE.out, HMF.out]; rfl
          obtain rfl : y = It.nil := by rw [HY.out, HMF.out]; rfl
          have e35 : ∀ W, (Op.equalIn 10000 35 (.agg #[.string ⟨#[]⟩, .int .i64 0, .string ⟨#[]⟩]) (.agg #[.string ⟨#[]⟩, .int .i64 0, .string ⟨#[]⟩])).run Tryd.prog W = .ok true W := eq35_at .nil .nil true (decide_eq_true rfl)
          have d80 : w9.cell? ⟨b10, 0, none⟩ = some (.string ⟨#[]⟩) := X11.out.cell (k := 0) rfl
          have d81 : w9.cell? ⟨b10, 1, none⟩ = some (.int .i64 0) := X11.out.cell (k := 1) rfl
          have d82 : w9.cell? ⟨b10, 2, none⟩ = some (.string ⟨#[]⟩) := X11.out.cell (k := 2) rfl
          have j1 : ((s.length : Int) > 2000) := by omega
          have j2 : (2000 : Int) < (s.length : Int) := by omega
          go_wp2_with fail
          go_roundw
          case rel => exact ⟨k + 1, hlt, by go_num, HB9⟩
          case measure => simp [Lib.intOf]; omega
        · have HMF : Hid (M = lookF l s ds 0) := Lib.hid (by rw [HM0.out]; unfold lookM; rw [if_neg (by rw [← HBT.out]; simp), if_neg hlong])
          have HRQ := Lib.hid (HRL.out s w9 (by trivial) (by omega) HB9.out)
          rw [← HMF.out] at HRQ
          have j2 : ¬ (2000 : Int) < (s.length : Int) := by omega
          have c0 : w9.cell? ⟨b3, 0, none⟩ = some (.slice a3 n c3) := (X6.out.on HB9.out).cell (k := 0) rfl
          clear HM0
          cases M with
          | error z =>
            obtain rfl : z = 4 := look_four l s ds 0 z HMF.out.symm
            obtain rfl : I = -1 := HI.out
            obtain rfl : E = 4 := HE.out
            obtain rfl : y = It.nil := HY.out
            have e35 : ∀ W, (Op.equalIn 10000 35 (.agg #[.string ⟨#[]⟩, .int .i64 0, .string ⟨#[]⟩]) (.agg #[.string ⟨#[]⟩, .int .i64 0, .string ⟨#[]⟩])).run Tryd.prog W = .ok true W := eq35_at .nil .nil true (decide_eq_true rfl)
            go_upto_region 9 with (first
              | (go_at_call 28; refine HRQ.out.mono ?_; rintro e w10 ⟨hb10, rfl⟩)
              | (with_reducible refine wpList_zero rfl 35 rfl It.nil.arr zero35 ?_)
              | (refine wpList_store_row rfl 35 (.tmp 13) (.tmp 41) rfl w10.heap.size It.nil.arr rfl rfl 35 It.nil.arr box_new (info35 _) rfl (iarr_one _) ?_))
            obtain ⟨w11, hw11⟩ : ∃ z, z = (w10.alloc (.cells #[.string ⟨#[]⟩, .int .i64 0, .string ⟨#[]⟩] 35)).setRow w10.heap.size It.nil.arr := ⟨_, rfl⟩
            obtain ⟨b13, hb13⟩ : ∃ z, z = w10.heap.size := ⟨_, rfl⟩
            have hn : Below w9.heap.size w9 w11 := by rw [hw11]; exact bch hb10 (below_row (below_new _ _) (Nat.le_refl _) _)
            have HB11 : Hid (Below w6.heap.size w6 w11) := Lib.hid (bch HB9.out hn)
            have d0 : w11.cell? ⟨b10, 0, none⟩ = some (.string ⟨#[]⟩) := (X11.out.on hn).cell (k := 0) rfl
            have d1 : w11.cell? ⟨b10, 1, none⟩ = some (.int .i64 0) := (X11.out.on hn).cell (k := 1) rfl
            have d2 : w11.cell? ⟨b10, 2, none⟩ = some (.string ⟨#[]⟩) := (X11.out.on hn).cell (k := 2) rfl
            have x13 : Box w11 b13 35 It.nil.arr := by rw [hw11, hb13]; exact Box.row (box_new (w := w10) (t := 35) (cs := It.nil.arr)) _
            have f0 : w11.cell? ⟨b13, 0, none⟩ = some (.string ⟨#[]⟩) := x13.cell (k := 0) rfl
            have f1 : w11.cell? ⟨b13, 1, none⟩ = some (.int .i64 0) := x13.cell (k := 1) rfl
            have f2 : w11.cell? ⟨b13, 2, none⟩ = some (.string ⟨#[]⟩) := x13.cell (k := 2) rfl
            rw [← hw11, ← hb13]
            clear hw11 hb13 hn hb10 x13 c0
            go_wp2_with fail
            go_roundw
            case rel => exact ⟨k + 1, hlt, by go_num, HB11⟩
            case measure => simp [Lib.intOf]; omega
          | ok r =>
            obtain ⟨i, x⟩ := r
            obtain rfl : I = (i : Int) := HI.out
            obtain rfl : E = 0 := HE.out
            obtain rfl : y = x := HY.out
            have e35 : ∀ W, (Op.equalIn 10000 35 (.agg #[.string ⟨y.path.toArray⟩, .int .i64 y.kind, .string ⟨y.data.toArray⟩]) (.agg #[.string ⟨y.path.toArray⟩, .int .i64 y.kind, .string ⟨y.data.toArray⟩])).run Tryd.prog W = .ok true W := eq35_at y y true (decide_eq_true rfl)
            have j3 : (0 : Int) ≤ (i : Int) := by omega
            have j4 : (i : Int) ≥ 0 := by omega
            go_upto_region 9 with (first
              | (go_at_call 28; refine HRQ.out.mono ?_; rintro e w10 ⟨hb10, rfl⟩)
              | (with_reducible refine wpList_zero rfl 35 rfl It.nil.arr zero35 ?_)
              | (refine wpList_store_row rfl 35 (.tmp 13) (.tmp 41) rfl w10.heap.size y.arr rfl rfl 35 It.nil.arr box_new (info35 _) rfl (iarr_one _) ?_))
            obtain ⟨w11, hw11⟩ : ∃ z, z = (w10.alloc (.cells #[.string ⟨#[]⟩, .int .i64 0, .string ⟨#[]⟩] 35)).setRow w10.heap.size y.arr := ⟨_, rfl⟩
            obtain ⟨b13, hb13⟩ : ∃ z, z = w10.heap.size := ⟨_, rfl⟩
            have hn : Below w9.heap.size w9 w11 := by rw [hw11]; exact bch hb10 (below_row (below_new _ _) (Nat.le_refl _) _)
            have HB11 : Hid (Below w6.heap.size w6 w11) := Lib.hid (bch HB9.out hn)
            have d0 : w11.cell? ⟨b10, 0, none⟩ = some (.string ⟨y.path.toArray⟩) := (X11.out.on hn).cell (k := 0) rfl
            have d1 : w11.cell? ⟨b10, 1, none⟩ = some (.int .i64 y.kind) := (X11.out.on hn).cell (k := 1) rfl
            have d2 : w11.cell? ⟨b10, 2, none⟩ = some (.string ⟨y.data.toArray⟩) := (X11.out.on hn).cell (k := 2) rfl
            have x13 : Box w11 b13 35 y.arr := by rw [hw11, hb13]; exact Box.row (box_new (w := w10) (t := 35) (cs := It.nil.arr)) _
            have f0 : w11.cell? ⟨b13, 0, none⟩ = some (.string ⟨y.path.toArray⟩) := x13.cell (k := 0) rfl
            have f1 : w11.cell? ⟨b13, 1, none⟩ = some (.int .i64 y.kind) := x13.cell (k := 1) rfl
            have f2 : w11.cell? ⟨b13, 2, none⟩ = some (.string ⟨y.data.toArray⟩) := x13.cell (k := 2) rfl
            rw [← hw11, ← hb13]
            clear hw11 hb13 hn hb10 x13 c0
            go_wp2_with fail
            go_roundw
            case rel => exact ⟨k + 1, hlt, by go_num, HB11⟩
            case measure => simp [Lib.intOf]; omega
    · have k1 : ¬ ((k : Int) < (n5 : Int)) := by omega
      have HWq : Hid (Below w.heap.size w wq) := Lib.hid (bch HW6.out HBk.out)
      go_wp2_with fail
      go_ret
      exact ⟨rfl, HWq.out⟩
end Go.Proofs.YtiakedoebecgpaaDoor

namespace Go.Proofs.YtiakedoebecgpaaDoor
open Go.RowKit Go.Shelf

theorem itM_is (M : Except Int (It × Nat)) : itM M = itW M := by cases M <;> rfl
theorem errM_is (M : Except Int (It × Nat)) : errM M = errW M := by cases M <;> rfl
theorem GoesL.flat {M : Except Int (It × Nat)} {w w' : World} {e : Ending} (h : GoesL M w e w') : ∃ (p : Str) (a : Option Addr) (n c : Nat), e = .returned (.tuple #[.agg (stpA p (.slice a n c) (hopW M)), .int .i64 (errW M)]) ∧ Below w.heap.size w w' := by
  obtain ⟨hb, hq⟩ := h
  cases M with
  | error z => exact ⟨[], none, 0, 0, hq.2, hb⟩
  | ok r =>
    obtain ⟨a, n, c, h⟩ := hq
    exact ⟨_, a, n, c, h, hb⟩
theorem walk_valid {l : List It} {p s : Str} {last : Bool} (h : validT l = true) (hs : ¬ 2000 < s.length) : walkM l p s last = leadM l p s last := by
  unfold walkM; rw [if_neg (by rw [h]; simp), if_neg hs]
theorem walk_long {l : List It} {p s : Str} {last : Bool} (h : validT l = true) (hs : 2000 < s.length) : walkM l p s last = .error 3 := by
  unfold walkM; rw [if_neg (by rw [h]; simp), if_pos hs]
theorem walk_bad {l : List It} {p s : Str} {last : Bool} (h : validT l = false) : walkM l p s last = .error 160 := by
  unfold walkM; rw [if_pos h]
theorem index490 (w : World) : (Instr.index 49 (.agg #[.bool true, .bool false]) (.int .i64 0)).run Tryd.prog w = .ok (.bool true) w := by kernel_rfl
theorem index491 (w : World) : (Instr.index 49 (.agg #[.bool true, .bool false]) (.int .i64 1)).run Tryd.prog w = .ok (.bool false) w := by kernel_rfl
theorem built49 : Tryd.prog.built 49 [(0, .bool true), (1, .bool false)] = some #[.bool true, .bool false] := by kernel_rfl

set_option maxRecDepth 100000 in
set_option maxHeartbeats 32000000 in
theorem leads_law (l0 : List It) (v : Value) (ds0 : List Str) (dv : Value) (ts0 : List Str) (tv : Value) (w : World) (hv : RdI w v l0) (hsz : ∀ x ∈ l0, x.path.length ≤ 2000000) (hdz : ∀ x ∈ l0, x.data.length ≤ 2000000) (hT : Tabs w) (hd : RdS w dv ds0) (hds : ∀ x ∈ ds0, x.length ≤ 140737488355328) (ht : RdS w tv ts0) (hts : ∀ x ∈ ts0, x.length ≤ 140737488355328) :
    Calls Tryd.prog 6 #[.agg #[v], dv, tv] w fun e w' => e = .returned (.bool true) ∧ Below w.heap.size w w' := by
  obtain ⟨w1, hw1⟩ : ∃ z, z = w.alloc (.cells #[v] 24) := ⟨_, rfl⟩
  have X : Hid (Box w1 w.heap.size 24 #[v]) := Lib.hid (by rw [hw1]; exact box_new)
  have HB1 : Hid (Below w.heap.size w w1) := Lib.hid (by rw [hw1]; exact below_new _ _)
  have HT := Lib.hid hT
  have HV := Lib.hid hv
  have HD := Lib.hid hd
  have HDS := Lib.hid hds
  have HX := Lib.hid ht
  have HXS := Lib.hid hts
  obtain ⟨l, hl⟩ : ∃ l, l = l0.take 60 := ⟨_, rfl⟩
  have HL : Hid (l.length ≤ 1000000) := Lib.hid (by rw [hl, List.length_take]; omega)
  have HSZ : Hid (∀ x ∈ l, x.path.length ≤ 2000000) := Lib.hid (fun x hx => hsz x (List.mem_of_mem_take (by rwa [hl] at hx)))
  have HDZ : Hid (∀ x ∈ l, x.data.length ≤ 2000000) := Lib.hid (fun x hx => hdz x (List.mem_of_mem_take (by rwa [hl] at hx)))
  have HW := Lib.hid (wwakes_any w1 (hT.on HB1.out))
  obtain ⟨va, vn, vc, rfl⟩ : ∃ a n c, v = .slice a n c := by obtain ⟨a, c, e, _⟩ := HV.out; exact ⟨_, _, _, e⟩
  obtain ⟨da, dn, dc, rfl⟩ : ∃ a n c, dv = .slice a n c := by obtain ⟨a, c, e, _⟩ := HD.out; exact ⟨_, _, _, e⟩
  obtain ⟨ta, tn, tc, rfl⟩ : ∃ a n c, tv = .slice a n c := by obtain ⟨a, c, e, _⟩ := HX.out; exact ⟨_, _, _, e⟩
  obtain ⟨b3, hb3⟩ : ∃ z, z = w.heap.size := ⟨_, rfl⟩
  have H3 : Hid (w.heap.size ≤ b3) := Lib.hid (by rw [hb3]; exact Nat.le_refl _)
  have HB3 := Lib.hid hb3
  rw [← hb3] at X
  clear hT hsz hdz hv hd hds ht hts
  go_enter Tryd.func6, Tryd.ntmps6
  go_upto_region 1 with fail
  rw [← hw1, ← HB3.out]
  clear hw1 hb3
  go_wp2_with fail
  refine HW.out.mono ?_
  rintro e w2 ⟨rfl, hb2⟩
  have x2 := X.out.on hb2
  have HB2 := Lib.hid (bch HB1.out hb2)
  have c0 := x2.cell (k := 0) rfl
  have X2 := Lib.hid x2
  have HF := Lib.hid (wfew_own l0 (.slice va vn vc) w2 (HV.out.on HB2.out))
  rw [← hl] at HF
  clear hb2 X HW x2
  go_wp2_with fail
  refine HF.out.mono ?_
  rintro e w3 ⟨x3, rfl, ho3, hb3⟩
  obtain ⟨n, hn⟩ : ∃ n, n = l.length := ⟨_, rfl⟩
  have HN := Lib.hid hn
  rw [← hn] at ho3
  obtain ⟨a3, c3, rfl⟩ := own_shp ho3
  have HO3 := Lib.hid ho3
  have X3 := Lib.hid (X2.out.on hb3)
  have HW3 := Lib.hid (bch HB2.out hb3)
  have HL2 : Hid (b3 < w2.heap.size) := Lib.hid X2.out.lt
  have HW32 : Hid (w2.heap.size ≤ w3.heap.size) := Lib.hid hb3.size
  obtain ⟨w4, hw4⟩ : ∃ z, z = w3.setRow b3 #[.slice a3 n c3] := ⟨_, rfl⟩
  have x4 : Box w4 b3 24 #[.slice a3 n c3] := by rw [hw4]; exact X3.out.row _
  have hg4 : w3.grownBy w4 (some b3) := by rw [hw4]; exact grown_row _ _ _
  have HI4 : Hid (RdI w4 (.slice a3 n c3) l) := Lib.hid (by
    show RdF _ _ _ _
    rw [← HN.out]
    exact rdF_grown HO3.out hg4 HL2.out)
  have HT4 : Hid (Tabs w4) := Lib.hid ((HT.out.on HW3.out).grown (Nat.le_trans HT.out.one H3.out) hg4)
  have HWW4 : Hid (Below w.heap.size w w4) := Lib.hid (by rw [hw4]; exact below_row HW3.out H3.out _)
  have X4 := Lib.hid x4
  have HW4 := Lib.hid hw4
  obtain ⟨bt, hbt⟩ : ∃ b, b = validT l := ⟨_, rfl⟩
  have HBT := Lib.hid hbt
  have HTR : Hid (Calls Tryd.prog 21 #[.agg #[.slice a3 n c3]] w4 fun e w' => e = .returned (.bool bt) ∧ Below w4.heap.size w4 w') := Lib.hid (by rw [HBT.out]; exact rtree_any l _ w4 HI4.out HSZ.out)
  have c0 : w4.cell? ⟨b3, 0, none⟩ = some (.slice a3 n c3) := X4.out.cell (k := 0) rfl
  clear hw4 hg4 x4 ho3 hn hb3 X2 HF hbt HW3 HB2
  go_upto_region 5 with (first
    | (refine wpList_store_row rfl 24 (.tmp 3) (.tmp 27) rfl b3 #[.slice a3 n c3] rfl rfl 24 _ X3.out (info24 _) rfl (slice_one _ _ _) ?_; rw [← HW4.out])
    | (go_at_call 21; refine HTR.out.mono ?_; rintro e w5 ⟨rfl, hb5⟩)
    | fail)
  have X5 := Lib.hid (X4.out.on hb5)
  have HI5 := Lib.hid (HI4.out.on hb5)
  have HT5 := Lib.hid (HT4.out.on hb5)
  have HWW5 := Lib.hid (bch HWW4.out hb5)
  have HCC := Lib.hid (cut7_any ds0 (.slice da dn dc) w5 (HD.out.below HWW5.out) HDS.out)
  clear hb5 c0 X4 HI4 HT4 HWW4 HW4 HTR X3
  go_wp2_with fail
  refine HCC.out.mono ?_
  rintro e w6 ⟨x4, rfl, ho4, hb4⟩
  obtain ⟨ds, hds⟩ : ∃ ds, ds = fewL ds0 := ⟨_, rfl⟩
  have hd8 : ds.length ≤ 8 := by rw [hds]; exact fewL_len _
  have hdl : ∀ x ∈ ds, x.length ≤ 2001 := by rw [hds]; exact fun x hx => fewL_sizes ds0 x hx
  rw [← hds] at ho4
  have HD6 : Hid (RdS w6 x4 ds) := Lib.hid (rdS_own ho4)
  obtain ⟨m, hm⟩ : ∃ m, m = ds.length := ⟨_, rfl⟩
  have HM := Lib.hid hm
  rw [← hm] at ho4 hd8
  obtain ⟨a4, c4, rfl⟩ := own_shp ho4
  have hmI : (m : Int) ≤ 8 := by omega
  have HDL := Lib.hid hdl
  have X6 := Lib.hid (X5.out.on hb4)
  have HI6 := Lib.hid (HI5.out.on hb4)
  have HT6 := Lib.hid (HT5.out.on hb4)
  have HW6 := Lib.hid (bch HWW5.out hb4)
  have HRES : Hid (∀ (p s : Str) (last : Bool) (W : World), p.length ≤ 2001 → Below w6.heap.size w6 W → Calls Tryd.prog 23 #[.agg #[.slice a3 n c3], .string ⟨p.toArray⟩, .string ⟨s.toArray⟩, .bool last] W (ItR (walkM l p s last) W)) := Lib.hid (fun p s last W hp hW => resolve_any l _ ⟨p.toArray⟩ ⟨s.toArray⟩ last W (HI6.out.on hW) HL.out (fun x hx => Nat.le_trans (HSZ.out x hx) (by decide)) (HT6.out.on hW) (Nat.le_trans (show p.toArray.size ≤ 2001 by simpa using hp) (by decide)))
  have HHOP : Hid (∀ (p s : Str) (W : World), p.length ≤ 2001 → Below w6.heap.size w6 W → Calls Tryd.prog 25 #[.agg #[.slice a3 n c3], .string ⟨p.toArray⟩, .string ⟨s.toArray⟩] W fun e w' => e = .returned (.tuple #[.int .i64 (hopW (walkM l p s true)), .int .i64 (errW (walkM l p s true))]) ∧ Below W.heap.size W w') := Lib.hid (fun p s W hp hW => hops_any l _ ⟨p.toArray⟩ ⟨s.toArray⟩ W (HI6.out.on hW) HL.out (fun x hx => Nat.le_trans (HSZ.out x hx) (by decide)) (HT6.out.on hW) (Nat.le_trans (show p.toArray.size ≤ 2001 by simpa using hp) (by decide)))
  have HRRE : Hid (∀ (p s : Str) (last : Bool) (W : World), bt = true → p.length ≤ 2001 → ¬ 2000 < s.length → Below w6.heap.size w6 W → Calls Tryd.prog 24 #[.agg #[.slice a3 n c3], .string ⟨p.toArray⟩, .string ⟨s.toArray⟩, .bool last] W fun e w' => e = .returned (.tuple #[.agg (itW (walkM l p s last)).arr, .int .i64 (errW (walkM l p s last))]) ∧ Below W.heap.size W w') := Lib.hid (fun p s last W hb hp hs hW => by
    have hv : validT l = true := by rw [← HBT.out]; exact hb
    rw [walk_valid hv hs, ← itM_is, ← errM_is]
    exact (rres_any l _ p s last W (HI6.out.on hW) HL.out ((valid_tree l).1 hv) (Nat.le_trans hp (by decide)) (by omega) HDZ.out).mono fun e w' hq => ⟨hq.flat.1, hq.flat.2.1⟩)
  have HRGO : Hid (∀ (p s : Str) (W : World), bt = true → p.length ≤ 2001 → ¬ 2000 < s.length → Below w6.heap.size w6 W → Calls Tryd.prog 26 #[.agg #[.slice a3 n c3], .string ⟨p.toArray⟩, .string ⟨s.toArray⟩, .bool true] W fun e w' => ∃ (q : Str) (a : Option Addr) (nn c : Nat), e = .returned (.tuple #[.agg (stpA q (.slice a nn c) (hopW (walkM l p s true))), .int .i64 (errW (walkM l p s true))]) ∧ Below W.heap.size W w') := Lib.hid (fun p s W hb hp hs hW => by
    have hv : validT l = true := by rw [← HBT.out]; exact hb
    rw [walk_valid hv hs]
    exact (rgoesl_any l _ p s true W (HI6.out.on hW) HL.out ((valid_tree l).1 hv) (Nat.le_trans hp (by decide)) (by omega) HDZ.out).mono fun e w' hq => hq.flat)
  obtain ⟨wx, hwx⟩ : ∃ q, q = w6 := ⟨_, rfl⟩
  clear hwx wx
  clear hds hd8 hdl hm ho4 hb4 HCC X5 HI5 HT5 HWW5 hl
  go_wp2_with fail
  go_loopw [33] (fun i W => ∃ k : Nat, k ≤ m ∧ i = .int .i64 k ∧ Hid (Below w6.heap.size w6 W)) (fun i _ => m - (Lib.intOf i).toNat)
  case atStart => exact ⟨0, Nat.zero_le _, rfl, Lib.hid (Below.refl _ _)⟩
  case round =>
    obtain ⟨k, hk, rfl, HBk⟩ := hrel
    obtain ⟨wq, hwq⟩ : ∃ q, q = wr := ⟨_, rfl⟩
    rw [← hwq] at HBk ⊢
    clear hwq
    by_cases hlt : k < m
    · obtain ⟨p, hp⟩ : ∃ s, ds[k]? = some s := ⟨_, List.getElem?_eq_getElem (by rw [← HM.out]; exact hlt)⟩
      obtain ⟨aa, cc, e, _, _, hcell⟩ := HD6.out
      rw [← HM.out] at e
      cases e
      obtain ⟨gg, o, rfl, hgg, hc⟩ := hcell (by rw [← HM.out]; omega)
      have q0 : wq.cell? ⟨gg, o + k, none⟩ = some (.string ⟨p.toArray⟩) := (HBk.out.cell (p := ⟨gg, _, none⟩) hgg).trans (hc k p hp)
      have k1 : (k : Int) < (m : Int) := by omega
      have k2 : (0 : Int) ≤ (k : Int) := by omega
      have k4 : IntKind.i64.wrap ((k : Int) + 1) = (k : Int) + 1 := IntWalk.i64_in _ (by omega)
      have HP : Hid (p.length ≤ 2001) := Lib.hid (HDL.out p (List.mem_of_getElem? hp))
      have HCT := Lib.hid (cut7_any ts0 (.slice ta tn tc) wq (HX.out.below (bch HW6.out HBk.out)) HXS.out)
      clear hc hcell hp
      go_wp2_with fail
      refine HCT.out.mono ?_
      rintro e w9 ⟨x5, rfl, ho5, hb5⟩
      obtain ⟨ts, hts⟩ : ∃ ts, ts = fewL ts0 := ⟨_, rfl⟩
      have h58 : ts.length ≤ 8 := by rw [hts]; exact fewL_len _
      rw [← hts] at ho5
      have HT9S : Hid (RdS w9 x5 ts) := Lib.hid (rdS_own ho5)
      obtain ⟨n5, hn5⟩ : ∃ n, n = ts.length := ⟨_, rfl⟩
      have HN5 := Lib.hid hn5
      rw [← hn5] at ho5 h58
      have hnI : (n5 : Int) ≤ 8 := by omega
      obtain ⟨a5, c5, rfl⟩ := own_shp ho5
      have HB9 := Lib.hid (bch HBk.out hb5)
      clear hts h58 hn5 ho5 hb5 HCT q0
      go_wp2_with fail
      go_loopw [40] (fun i W => ∃ j : Nat, j ≤ n5 ∧ i = .int .i64 j ∧ Hid (Below w9.heap.size w9 W)) (fun i _ => n5 - (Lib.intOf i).toNat)
      case atStart => exact ⟨0, Nat.zero_le _, rfl, Lib.hid (Below.refl _ _)⟩
      case round =>
        obtain ⟨j, hj, rfl, HBj⟩ := hrel
        obtain ⟨wp, hwp⟩ : ∃ q, q = wr := ⟨_, rfl⟩
        rw [← hwp] at HBj ⊢
        clear hwp
        by_cases hjt : j < n5
        · obtain ⟨s, hs⟩ : ∃ s, ts[j]? = some s := ⟨_, List.getElem?_eq_getElem (by rw [← HN5.out]; exact hjt)⟩
          obtain ⟨aa, cc, e, _, _, hcell⟩ := HT9S.out
          rw [← HN5.out] at e
          cases e
          obtain ⟨g5, o5, rfl, hg5, hc⟩ := hcell (by rw [← HN5.out]; omega)
          have q1 : wp.cell? ⟨g5, o5 + j, none⟩ = some (.string ⟨s.toArray⟩) := (HBj.out.cell (p := ⟨g5, _, none⟩) hg5).trans (hc j s hs)
          have m1 : (j : Int) < (n5 : Int) := by omega
          have m2 : (0 : Int) ≤ (j : Int) := by omega
          have m4 : IntKind.i64.wrap ((j : Int) + 1) = (j : Int) + 1 := IntWalk.i64_in _ (by omega)
          have hbl := built49
          clear hc hcell hs
          go_wp2_with fail
          clear hbl q1
          go_loopw [45] (fun i W => ∃ u : Nat, u ≤ 2 ∧ i = .int .i64 u ∧ Hid (Below w9.heap.size w9 W)) (fun i _ => 2 - (Lib.intOf i).toNat)
          case atStart => exact ⟨0, Nat.zero_le _, rfl, HBj⟩
          case round =>
            clear HBj
            obtain ⟨u, hu, rfl, HBu⟩ := hrel
            obtain ⟨wo, hwo⟩ : ∃ q, q = wr := ⟨_, rfl⟩
            rw [← hwo] at HBu ⊢
            clear hwo
            rcases (show u = 0 ∨ u = 1 ∨ u = 2 by omega) with rfl | rfl | rfl
            · rw [show ((0 : Nat) : Int) = 0 from rfl]
              have hix := index490
              have HB23 := Lib.hid (bch HB9.out HBu.out)
              have c0 : wo.cell? ⟨b3, 0, none⟩ = some (.slice a3 n c3) := (X6.out.on HB23.out).cell (k := 0) rfl
              obtain ⟨M, hM⟩ : ∃ M, M = walkM l p s true := ⟨_, rfl⟩
              have HRQ := Lib.hid (HRES.out p s true wo HP.out HB23.out)
              have HM0 := Lib.hid hM
              rw [← hM] at HRQ
              unfold ItR at HRQ
              obtain ⟨E, hE⟩ : ∃ E, E = errW M := ⟨_, rfl⟩
              obtain ⟨y, hy⟩ : ∃ y, y = itW M := ⟨_, rfl⟩
              rw [← hE, ← hy] at HRQ
              have HE := Lib.hid hE
              have HY := Lib.hid hy
              clear hM hE hy
              go_upto_region 15 with (first
                | (go_at_call 23; refine HRQ.out.mono ?_; rintro e w11 ⟨rfl, hz, hb11⟩)
                | (with_reducible refine wpList_zero rfl 35 rfl It.nil.arr zero35 ?_)
                | (refine wpList_store_row rfl 35 (.tmp 14) (.tmp 54) rfl w11.heap.size y.arr rfl rfl 35 It.nil.arr box_new (info35 _) rfl (iarr_one _) ?_))
              obtain ⟨w12, hw12⟩ : ∃ z, z = (w11.alloc (.cells #[.string ⟨#[]⟩, .int .i64 0, .string ⟨#[]⟩] 35)).setRow w11.heap.size y.arr := ⟨_, rfl⟩
              obtain ⟨b14, hb14⟩ : ∃ z, z = w11.heap.size := ⟨_, rfl⟩
              have X14 : Hid (Box w12 b14 35 y.arr) := Lib.hid (by rw [hw12, hb14]; exact Box.row (box_new (w := w11) (t := 35) (cs := It.nil.arr)) _)
              have HB12 : Hid (Below w9.heap.size w9 w12) := Lib.hid (bch HBu.out (by rw [hw12]; exact bch hb11 (below_row (below_new _ _) (Nat.le_refl _) _)))
              rw [← hw12, ← hb14]
              clear hw12 hb14 hb11 hz c0 HRQ hix
              go_upto_region 16 with (first
                | (with_reducible refine wpList_zero rfl 35 rfl It.nil.arr zero35 ?_)
                | (refine wpList_store_row rfl 35 (.tmp 16) (.tmp 56) rfl w12.heap.size It.nil.arr rfl rfl 35 It.nil.arr box_new (info35 _) rfl (iarr_one _) ?_))
              obtain ⟨w13, hw13⟩ : ∃ z, z = (w12.alloc (.cells #[.string ⟨#[]⟩, .int .i64 0, .string ⟨#[]⟩] 35)).setRow w12.heap.size It.nil.arr := ⟨_, rfl⟩
              obtain ⟨b16, hb16⟩ : ∃ z, z = w12.heap.size := ⟨_, rfl⟩
              have hn13 : Below w12.heap.size w12 w13 := by rw [hw13]; exact below_row (below_new _ _) (Nat.le_refl _) _
              have X16 : Hid (Box w13 b16 35 It.nil.arr) := Lib.hid (by rw [hw13, hb16]; exact Box.row (box_new (w := w12) (t := 35) (cs := It.nil.arr)) _)
              have Y14 : Hid (Box w13 b14 35 y.arr) := Lib.hid (X14.out.on hn13)
              have HB13 : Hid (Below w9.heap.size w9 w13) := Lib.hid (bch HB12.out hn13)
              have L16 : Hid (w9.heap.size ≤ b16 ∧ b14 < b16) := Lib.hid ⟨by rw [hb16]; exact HB12.out.size, by rw [hb16]; exact X14.out.lt⟩
              rw [← hw13, ← hb16]
              clear hw13 hb16 hn13 X14 HB12
              cases bt with
              | false =>
                have HMF : Hid (M = .error 160) := Lib.hid (by rw [HM0.out]; exact walk_bad HBT.out.symm)
                obtain rfl : E = 160 := by rw [HE.out, HMF.out]; rfl
                obtain rfl : y = It.nil := by rw [HY.out, HMF.out]; rfl
                have e35 : ∀ W, (Op.equalIn 10000 35 (.agg #[.string ⟨#[]⟩, .int .i64 0, .string ⟨#[]⟩]) (.agg #[.string ⟨#[]⟩, .int .i64 0, .string ⟨#[]⟩])).run Tryd.prog W = .ok true W := eq35_at .nil .nil true (decide_eq_true rfl)
                have d0 : w13.cell? ⟨b14, 0, none⟩ = some (.string ⟨#[]⟩) := Y14.out.cell (k := 0) rfl
                have d1 : w13.cell? ⟨b14, 1, none⟩ = some (.int .i64 0) := Y14.out.cell (k := 1) rfl
                have d2 : w13.cell? ⟨b14, 2, none⟩ = some (.string ⟨#[]⟩) := Y14.out.cell (k := 2) rfl
                have f0 : w13.cell? ⟨b16, 0, none⟩ = some (.string ⟨#[]⟩) := X16.out.cell (k := 0) rfl
                have f1 : w13.cell? ⟨b16, 1, none⟩ = some (.int .i64 0) := X16.out.cell (k := 1) rfl
                have f2 : w13.cell? ⟨b16, 2, none⟩ = some (.string ⟨#[]⟩) := X16.out.cell (k := 2) rfl
                go_wp2_with fail
                go_roundw
                case rel => exact ⟨0 + 1, by decide, by go_num, HB13⟩
                case measure => simp [Lib.intOf]
              | true =>
                by_cases hlong : 2000 < s.length
                · have HMF : Hid (M = .error 3) := Lib.hid (by rw [HM0.out]; exact walk_long HBT.out.symm hlong)
                  obtain rfl : E = 3 := by rw [HE.out, HMF.out]; rfl
                  obtain rfl : y = It.nil := by rw [HY.out, HMF.out]; rfl
                  have j2 : (2000 : Int) < (s.length : Int) := by omega
                  have e35 : ∀ W, (Op.equalIn 10000 35 (.agg #[.string ⟨#[]⟩, .int .i64 0, .string ⟨#[]⟩]) (.agg #[.string ⟨#[]⟩, .int .i64 0, .string ⟨#[]⟩])).run Tryd.prog W = .ok true W := eq35_at .nil .nil true (decide_eq_true rfl)
                  have d0 : w13.cell? ⟨b14, 0, none⟩ = some (.string ⟨#[]⟩) := Y14.out.cell (k := 0) rfl
                  have d1 : w13.cell? ⟨b14, 1, none⟩ = some (.int .i64 0) := Y14.out.cell (k := 1) rfl
                  have d2 : w13.cell? ⟨b14, 2, none⟩ = some (.string ⟨#[]⟩) := Y14.out.cell (k := 2) rfl
                  have f0 : w13.cell? ⟨b16, 0, none⟩ = some (.string ⟨#[]⟩) := X16.out.cell (k := 0) rfl
                  have f1 : w13.cell? ⟨b16, 1, none⟩ = some (.int .i64 0) := X16.out.cell (k := 1) rfl
                  have f2 : w13.cell? ⟨b16, 2, none⟩ = some (.string ⟨#[]⟩) := X16.out.cell (k := 2) rfl
                  go_wp2_with fail
                  go_roundw
                  case rel => exact ⟨0 + 1, by decide, by go_num, HB13⟩
                  case measure => simp [Lib.intOf]
                · have j2 : ¬ (2000 : Int) < (s.length : Int) := by omega
                  have HB25 := Lib.hid (bch HB9.out HB13.out)
                  have c0 : w13.cell? ⟨b3, 0, none⟩ = some (.slice a3 n c3) := (X6.out.on HB25.out).cell (k := 0) rfl
                  have HGQ := Lib.hid (HRRE.out p s true w13 (by trivial) HP.out hlong HB25.out)
                  rw [← HM0.out, ← HE.out, ← HY.out] at HGQ
                  have e35 : ∀ W, (Op.equalIn 10000 35 (.agg #[.string ⟨y.path.toArray⟩, .int .i64 y.kind, .string ⟨y.data.toArray⟩]) (.agg #[.string ⟨y.path.toArray⟩, .int .i64 y.kind, .string ⟨y.data.toArray⟩])).run Tryd.prog W = .ok true W := eq35_at y y true (decide_eq_true rfl)
                  go_upto_region 20 with (first
                    | (go_at_call 24; refine HGQ.out.mono ?_; rintro e w14 ⟨rfl, hb14⟩; have Z14 := Lib.hid (Y14.out.on hb14); have Z16 := Lib.hid (X16.out.on hb14); have HB14 := Lib.hid (bch HB13.out hb14); clear hb14 c0)
                    | (refine wpList_store_row rfl 35 (.tmp 16) (.tmp 72) rfl b16 y.arr rfl rfl 35 It.nil.arr Z16.out (info35 _) rfl (iarr_one _) ?_))
                  obtain ⟨w15, hw15⟩ : ∃ z, z = w14.setRow b16 y.arr := ⟨_, rfl⟩
                  have V16 : Box w15 b16 35 y.arr := by rw [hw15]; exact Z16.out.row _
                  have V14 : Box w15 b14 35 y.arr := by rw [hw15]; exact Z14.out.far_row (by have := L16.out.2; omega) _
                  have HB15 : Hid (Below w9.heap.size w9 w15) := Lib.hid (by rw [hw15]; exact below_row HB14.out L16.out.1 _)
                  rw [← hw15]
                  have d0 : w15.cell? ⟨b14, 0, none⟩ = some (.string ⟨y.path.toArray⟩) := V14.cell (k := 0) rfl
                  have d1 : w15.cell? ⟨b14, 1, none⟩ = some (.int .i64 y.kind) := V14.cell (k := 1) rfl
                  have d2 : w15.cell? ⟨b14, 2, none⟩ = some (.string ⟨y.data.toArray⟩) := V14.cell (k := 2) rfl
                  have f0 : w15.cell? ⟨b16, 0, none⟩ = some (.string ⟨y.path.toArray⟩) := V16.cell (k := 0) rfl
                  have f1 : w15.cell? ⟨b16, 1, none⟩ = some (.int .i64 y.kind) := V16.cell (k := 1) rfl
                  have f2 : w15.cell? ⟨b16, 2, none⟩ = some (.string ⟨y.data.toArray⟩) := V16.cell (k := 2) rfl
                  clear hw15 V16 V14
                  go_wp2_with fail
                  go_roundw
                  case rel => exact ⟨0 + 1, by decide, by go_num, HB15⟩
                  case measure => simp [Lib.intOf]
            · rw [show ((1 : Nat) : Int) = 1 from rfl]
              have hix := index491
              have HB23 := Lib.hid (bch HB9.out HBu.out)
              have c0 : wo.cell? ⟨b3, 0, none⟩ = some (.slice a3 n c3) := (X6.out.on HB23.out).cell (k := 0) rfl
              obtain ⟨M, hM⟩ : ∃ M, M = walkM l p s false := ⟨_, rfl⟩
              have HRQ := Lib.hid (HRES.out p s false wo HP.out HB23.out)
              have HM0 := Lib.hid hM
              rw [← hM] at HRQ
              unfold ItR at HRQ
              obtain ⟨E, hE⟩ : ∃ E, E = errW M := ⟨_, rfl⟩
              obtain ⟨y, hy⟩ : ∃ y, y = itW M := ⟨_, rfl⟩
              rw [← hE, ← hy] at HRQ
              have HE := Lib.hid hE
              have HY := Lib.hid hy
              clear hM hE hy
              go_upto_region 15 with (first
                | (go_at_call 23; refine HRQ.out.mono ?_; rintro e w11 ⟨rfl, hz, hb11⟩)
                | (with_reducible refine wpList_zero rfl 35 rfl It.nil.arr zero35 ?_)
                | (refine wpList_store_row rfl 35 (.tmp 14) (.tmp 54) rfl w11.heap.size y.arr rfl rfl 35 It.nil.arr box_new (info35 _) rfl (iarr_one _) ?_))
              obtain ⟨w12, hw12⟩ : ∃ z, z = (w11.alloc (.cells #[.string ⟨#[]⟩, .int .i64 0, .string ⟨#[]⟩] 35)).setRow w11.heap.size y.arr := ⟨_, rfl⟩
              obtain ⟨b14, hb14⟩ : ∃ z, z = w11.heap.size := ⟨_, rfl⟩
              have X14 : Hid (Box w12 b14 35 y.arr) := Lib.hid (by rw [hw12, hb14]; exact Box.row (box_new (w := w11) (t := 35) (cs := It.nil.arr)) _)
              have HB12 : Hid (Below w9.heap.size w9 w12) := Lib.hid (bch HBu.out (by rw [hw12]; exact bch hb11 (below_row (below_new _ _) (Nat.le_refl _) _)))
              rw [← hw12, ← hb14]
              clear hw12 hb14 hb11 hz c0 HRQ hix
              go_upto_region 16 with (first
                | (with_reducible refine wpList_zero rfl 35 rfl It.nil.arr zero35 ?_)
                | (refine wpList_store_row rfl 35 (.tmp 16) (.tmp 56) rfl w12.heap.size It.nil.arr rfl rfl 35 It.nil.arr box_new (info35 _) rfl (iarr_one _) ?_))
              obtain ⟨w13, hw13⟩ : ∃ z, z = (w12.alloc (.cells #[.string ⟨#[]⟩, .int .i64 0, .string ⟨#[]⟩] 35)).setRow w12.heap.size It.nil.arr := ⟨_, rfl⟩
              obtain ⟨b16, hb16⟩ : ∃ z, z = w12.heap.size := ⟨_, rfl⟩
              have hn13 : Below w12.heap.size w12 w13 := by rw [hw13]; exact below_row (below_new _ _) (Nat.le_refl _) _
              have X16 : Hid (Box w13 b16 35 It.nil.arr) := Lib.hid (by rw [hw13, hb16]; exact Box.row (box_new (w := w12) (t := 35) (cs := It.nil.arr)) _)
              have Y14 : Hid (Box w13 b14 35 y.arr) := Lib.hid (X14.out.on hn13)
              have HB13 : Hid (Below w9.heap.size w9 w13) := Lib.hid (bch HB12.out hn13)
              have L16 : Hid (w9.heap.size ≤ b16 ∧ b14 < b16) := Lib.hid ⟨by rw [hb16]; exact HB12.out.size, by rw [hb16]; exact X14.out.lt⟩
              rw [← hw13, ← hb16]
              clear hw13 hb16 hn13 X14 HB12
              cases bt with
              | false =>
                have HMF : Hid (M = .error 160) := Lib.hid (by rw [HM0.out]; exact walk_bad HBT.out.symm)
                obtain rfl : E = 160 := by rw [HE.out, HMF.out]; rfl
                obtain rfl : y = It.nil := by rw [HY.out, HMF.out]; rfl
                have e35 : ∀ W, (Op.equalIn 10000 35 (.agg #[.string ⟨#[]⟩, .int .i64 0, .string ⟨#[]⟩]) (.agg #[.string ⟨#[]⟩, .int .i64 0, .string ⟨#[]⟩])).run Tryd.prog W = .ok true W := eq35_at .nil .nil true (decide_eq_true rfl)
                have d0 : w13.cell? ⟨b14, 0, none⟩ = some (.string ⟨#[]⟩) := Y14.out.cell (k := 0) rfl
                have d1 : w13.cell? ⟨b14, 1, none⟩ = some (.int .i64 0) := Y14.out.cell (k := 1) rfl
                have d2 : w13.cell? ⟨b14, 2, none⟩ = some (.string ⟨#[]⟩) := Y14.out.cell (k := 2) rfl
                have f0 : w13.cell? ⟨b16, 0, none⟩ = some (.string ⟨#[]⟩) := X16.out.cell (k := 0) rfl
                have f1 : w13.cell? ⟨b16, 1, none⟩ = some (.int .i64 0) := X16.out.cell (k := 1) rfl
                have f2 : w13.cell? ⟨b16, 2, none⟩ = some (.string ⟨#[]⟩) := X16.out.cell (k := 2) rfl
                go_wp2_with fail
                go_roundw
                case rel => exact ⟨1 + 1, by decide, by go_num, HB13⟩
                case measure => simp [Lib.intOf]
              | true =>
                by_cases hlong : 2000 < s.length
                · have HMF : Hid (M = .error 3) := Lib.hid (by rw [HM0.out]; exact walk_long HBT.out.symm hlong)
                  obtain rfl : E = 3 := by rw [HE.out, HMF.out]; rfl
                  obtain rfl : y = It.nil := by rw [HY.out, HMF.out]; rfl
                  have j2 : (2000 : Int) < (s.length : Int) := by omega
                  have e35 : ∀ W, (Op.equalIn 10000 35 (.agg #[.string ⟨#[]⟩, .int .i64 0, .string ⟨#[]⟩]) (.agg #[.string ⟨#[]⟩, .int .i64 0, .string ⟨#[]⟩])).run Tryd.prog W = .ok true W := eq35_at .nil .nil true (decide_eq_true rfl)
                  have d0 : w13.cell? ⟨b14, 0, none⟩ = some (.string ⟨#[]⟩) := Y14.out.cell (k := 0) rfl
                  have d1 : w13.cell? ⟨b14, 1, none⟩ = some (.int .i64 0) := Y14.out.cell (k := 1) rfl
                  have d2 : w13.cell? ⟨b14, 2, none⟩ = some (.string ⟨#[]⟩) := Y14.out.cell (k := 2) rfl
                  have f0 : w13.cell? ⟨b16, 0, none⟩ = some (.string ⟨#[]⟩) := X16.out.cell (k := 0) rfl
                  have f1 : w13.cell? ⟨b16, 1, none⟩ = some (.int .i64 0) := X16.out.cell (k := 1) rfl
                  have f2 : w13.cell? ⟨b16, 2, none⟩ = some (.string ⟨#[]⟩) := X16.out.cell (k := 2) rfl
                  go_wp2_with fail
                  go_roundw
                  case rel => exact ⟨1 + 1, by decide, by go_num, HB13⟩
                  case measure => simp [Lib.intOf]
                · have j2 : ¬ (2000 : Int) < (s.length : Int) := by omega
                  have HB25 := Lib.hid (bch HB9.out HB13.out)
                  have c0 : w13.cell? ⟨b3, 0, none⟩ = some (.slice a3 n c3) := (X6.out.on HB25.out).cell (k := 0) rfl
                  have HGQ := Lib.hid (HRRE.out p s false w13 (by trivial) HP.out hlong HB25.out)
                  rw [← HM0.out, ← HE.out, ← HY.out] at HGQ
                  have e35 : ∀ W, (Op.equalIn 10000 35 (.agg #[.string ⟨y.path.toArray⟩, .int .i64 y.kind, .string ⟨y.data.toArray⟩]) (.agg #[.string ⟨y.path.toArray⟩, .int .i64 y.kind, .string ⟨y.data.toArray⟩])).run Tryd.prog W = .ok true W := eq35_at y y true (decide_eq_true rfl)
                  go_upto_region 20 with (first
                    | (go_at_call 24; refine HGQ.out.mono ?_; rintro e w14 ⟨rfl, hb14⟩; have Z14 := Lib.hid (Y14.out.on hb14); have Z16 := Lib.hid (X16.out.on hb14); have HB14 := Lib.hid (bch HB13.out hb14); clear hb14 c0)
                    | (refine wpList_store_row rfl 35 (.tmp 16) (.tmp 72) rfl b16 y.arr rfl rfl 35 It.nil.arr Z16.out (info35 _) rfl (iarr_one _) ?_))
                  obtain ⟨w15, hw15⟩ : ∃ z, z = w14.setRow b16 y.arr := ⟨_, rfl⟩
                  have V16 : Box w15 b16 35 y.arr := by rw [hw15]; exact Z16.out.row _
                  have V14 : Box w15 b14 35 y.arr := by rw [hw15]; exact Z14.out.far_row (by have := L16.out.2; omega) _
                  have HB15 : Hid (Below w9.heap.size w9 w15) := Lib.hid (by rw [hw15]; exact below_row HB14.out L16.out.1 _)
                  rw [← hw15]
                  have d0 : w15.cell? ⟨b14, 0, none⟩ = some (.string ⟨y.path.toArray⟩) := V14.cell (k := 0) rfl
                  have d1 : w15.cell? ⟨b14, 1, none⟩ = some (.int .i64 y.kind) := V14.cell (k := 1) rfl
                  have d2 : w15.cell? ⟨b14, 2, none⟩ = some (.string ⟨y.data.toArray⟩) := V14.cell (k := 2) rfl
                  have f0 : w15.cell? ⟨b16, 0, none⟩ = some (.string ⟨y.path.toArray⟩) := V16.cell (k := 0) rfl
                  have f1 : w15.cell? ⟨b16, 1, none⟩ = some (.int .i64 y.kind) := V16.cell (k := 1) rfl
                  have f2 : w15.cell? ⟨b16, 2, none⟩ = some (.string ⟨y.data.toArray⟩) := V16.cell (k := 2) rfl
                  clear hw15 V16 V14
                  go_wp2_with fail
                  go_roundw
                  case rel => exact ⟨1 + 1, by decide, by go_num, HB15⟩
                  case measure => simp [Lib.intOf]
            · have HB23 := Lib.hid (bch HB9.out HBu.out)
              have c0 : wo.cell? ⟨b3, 0, none⟩ = some (.slice a3 n c3) := (X6.out.on HB23.out).cell (k := 0) rfl
              obtain ⟨M, hM⟩ : ∃ M, M = walkM l p s true := ⟨_, rfl⟩
              have HHQ := Lib.hid (HHOP.out p s wo HP.out HB23.out)
              have HM0 := Lib.hid hM
              rw [← hM] at HHQ
              obtain ⟨E, hE⟩ : ∃ E, E = errW M := ⟨_, rfl⟩
              obtain ⟨H, hH⟩ : ∃ H, H = hopW M := ⟨_, rfl⟩
              rw [← hE, ← hH] at HHQ
              have HE := Lib.hid hE
              have HH := Lib.hid hH
              clear hM hE hH
              go_upto_region 24 with (go_at_call 25; refine HHQ.out.mono ?_; rintro e w11 ⟨rfl, hb11⟩; have HB11 := Lib.hid (bch HBu.out hb11); clear hb11 c0)
              cases bt with
              | false =>
                have HMF : Hid (M = .error 160) := Lib.hid (by rw [HM0.out]; exact walk_bad HBT.out.symm)
                obtain rfl : E = 160 := by rw [HE.out, HMF.out]; rfl
                obtain rfl : H = 0 := by rw [HH.out, HMF.out]; rfl
                go_wp2_with fail
                go_roundw
                case rel => exact ⟨j + 1, hjt, by go_num, HB11⟩
                case measure => simp [Lib.intOf]; omega
              | true =>
                by_cases hlong : 2000 < s.length
                · have HMF : Hid (M = .error 3) := Lib.hid (by rw [HM0.out]; exact walk_long HBT.out.symm hlong)
                  obtain rfl : E = 3 := by rw [HE.out, HMF.out]; rfl
                  obtain rfl : H = 0 := by rw [HH.out, HMF.out]; rfl
                  have j2 : (2000 : Int) < (s.length : Int) := by omega
                  go_wp2_with fail
                  go_roundw
                  case rel => exact ⟨j + 1, hjt, by go_num, HB11⟩
                  case measure => simp [Lib.intOf]; omega
                · have j2 : ¬ (2000 : Int) < (s.length : Int) := by omega
                  have HB25 := Lib.hid (bch HB9.out HB11.out)
                  have c0 : w11.cell? ⟨b3, 0, none⟩ = some (.slice a3 n c3) := (X6.out.on HB25.out).cell (k := 0) rfl
                  have HGQ := Lib.hid (HRGO.out p s w11 (by trivial) HP.out hlong HB25.out)
                  rw [← HM0.out, ← HE.out, ← HH.out] at HGQ
                  go_upto_region 29 with (first
                    | (go_at_call 26; refine HGQ.out.mono ?_; rintro e w12 ⟨q, ga, gn, gc, rfl, hb12⟩)
                    | (with_reducible refine wpList_zero rfl 55 rfl stpZ zero55s ?_)
                    | (refine wpList_store_row rfl 55 (.tmp 22) (.tmp 104) rfl w12.heap.size (stpA q (.slice ga gn gc) H) rfl rfl 55 stpZ box_new (info55 _ rfl) rfl (stp_one _ _ _ _ _) ?_))
                  obtain ⟨w13, hw13⟩ : ∃ z, z = (w12.alloc (.cells stpZ 55)).setRow w12.heap.size (stpA q (.slice ga gn gc) H) := ⟨_, rfl⟩
                  obtain ⟨b22, hb22⟩ : ∃ z, z = w12.heap.size := ⟨_, rfl⟩
                  have x22 : Box w13 b22 55 (stpA q (.slice ga gn gc) H) := by rw [hw13, hb22]; exact Box.row (box_new (w := w12) (t := 55) (cs := stpZ)) _
                  have HB13 : Hid (Below w9.heap.size w9 w13) := Lib.hid (bch HB11.out (by rw [hw13]; exact bch hb12 (below_row (below_new _ _) (Nat.le_refl _) _)))
                  have d2 : w13.cell? ⟨b22, 2, none⟩ = some (.int .i64 (H : Int)) := x22.cell (k := 2) rfl
                  rw [← hw13, ← hb22]
                  clear hw13 hb22 x22 hb12 c0
                  go_wp2_with fail
                  go_roundw
                  case rel => exact ⟨j + 1, hjt, by go_num, HB13⟩
                  case measure => simp [Lib.intOf]; omega
        · have m1 : ¬ ((j : Int) < (n5 : Int)) := by omega
          have HB20 := Lib.hid (bch HB9.out HBj.out)
          go_wp2_with fail
          go_roundw
          case rel => exact ⟨k + 1, hlt, by go_num, HB20⟩
          case measure => simp [Lib.intOf]; omega
    · have k1 : ¬ ((k : Int) < (m : Int)) := by omega
      have HWq : Hid (Below w.heap.size w wq) := Lib.hid (bch HW6.out HBk.out)
      go_wp2_with fail
      go_ret
      exact ⟨rfl, HWq.out⟩
end Go.Proofs.YtiakedoebecgpaaDoor

namespace Go.Proofs.YtiakedoebecgpaaDoor.WalkLeadsP
open Go.ChangeShapes Go.WideShapes Go.ChangeAt Go.RowKit Go.Joins Go.Deep
open Go.ChangeMaps (open_string shut_string)

theorem met (os : Os) : laidMet Tryd.prog Rows.walkLeadsUptoRow.laid ((laidWorld os).forCall (fun _ _ => 0) ⟨#[], #[zeroTree, .slice none 0 0, .slice none 0 0], []⟩).memory :=
  laid_met os _
theorem reads (os : Os) {H : Type} (enc : TypeId × Value → H) : ∃ places, DataW.whole enc Tryd.prog ((laidWorld os).forCall (fun _ _ => 0) ⟨#[], #[zeroTree, .slice none 0 0, .slice none 0 0], []⟩).memory Tryd.f6.params.toList Rows.walkLeadsSpec.vars false #[zeroTree, Value.slice none 0 0, Value.slice none 0 0].toList 8 = some ([zeroTreeD, .nil, .nil], [], places) :=
  ⟨[], by kernel_rfl⟩

set_option maxRecDepth 100000 in
theorem lifted (os : Os) (started : os.Started) (H : Type) (enc : TypeId × Value → H) (F : Stop.Interp) :
    ReturnsInHanded {} Tryd.checked os 6 .any ((Rows.OpenSpec.upto Rows.walkLeadsSpec).preRow enc Tryd.prog Tryd.f6 Rows.walkLeadsUptoRow.domain false Rows.walkLeadsUptoRow.laid) (((Rows.OpenSpec.upto Rows.walkLeadsSpec).at F).post enc Tryd.prog Tryd.f6 false true false false) := by
  obtain ⟨places, hx⟩ := reads os enc
  refine returnsInHanded_of_row (C := Tryd.checked) (s := Rows.OpenSpec.upto Rows.walkLeadsSpec) own0 started (by kernel_rfl) Tryd.func6
    (witness_row_at (enc := enc) (C := Tryd.checked) false (laidWorld os) #[zeroTree, .slice none 0 0, .slice none 0 0] rfl (by kernel_rfl) (by kernel_rfl) (by kernel_rfl)
      (OpenSpec.preRow_of_cond 8 hx (by kernel_rfl) (fun k hk => by cases hk; kernel_rfl) (by kernel_rfl) (met os))) ?_
  intro W base args ds gs before hval0 hW _ hcond hsz0 hL hsh _
  have hval : ∀ (j : Nat) t v, Tryd.f6.params[j]? = some t → args[j]? = some v → Value.okWide Tryd.prog W .any base t v := hval0
  have hsz : (DataW.weightsEach Tryd.prog (Tryd.f6.params.toList ++ Rows.walkLeadsSpec.plain.varTypes Tryd.prog) (ds ++ gs)).all (· ≤ reachBytes) = true := hsz0
  have hsm : Rows.uptoBulkAll (ds ++ gs) ≤ 1048576 := of_decide_eq_true (hcond _ rfl)
  clear hsz0 hcond
  have hW' := hW
  obtain ⟨p, q, hA0, hV, rfl, hfz, hnd⟩ := hW
  have hA : DataW.TrodAll enc Tryd.prog W 0 (fun _ => true) true Tryd.f6.params.toList args.toList ds p := hA0
  rw [Tryd.params6] at hA hval hsz
  obtain ⟨v0, vs0, d0, ds0, p0, q0, hargs, rfl, rfl, h0, r0⟩ := trodAll_cons hA
  obtain ⟨v1, vs1, d1, ds1, p1, q1, rfl, rfl, rfl, h1, r1⟩ := trodAll_cons r0
  obtain ⟨v2, vs2, d2, ds2, p2, q2, rfl, rfl, rfl, h2, r2⟩ := trodAll_cons r1
  obtain ⟨rfl, rfl, rfl⟩ := trodAll_nil r2
  obtain rfl : args = #[v0, v1, v2] := by cases args; simp_all
  obtain ⟨rfl, rfl⟩ := trodVars_none hV
  obtain ⟨cs0, rfl⟩ := okWide_tree (hval 0 24 v0 rfl rfl)
  obtain ⟨a1, n1, c1, rfl⟩ := okWide_slice Tryd.underlying46 (hval 1 46 v1 rfl rfl)
  have h0k := h0
  obtain ⟨fuel0, hf0⟩ := h0
  have h1k := h1
  obtain ⟨fuel1, hf1⟩ := h1
  obtain ⟨a2, n2, c2, rfl⟩ := okWide_slice Tryd.underlying46 (hval 2 46 v2 rfl rfl)
  have h2k := h2
  obtain ⟨fuel2, hf2⟩ := h2
  clear hA0 hval0
  simp only [List.append_nil] at hW'
  have hlt0 : ∀ x ∈ p0, x.block < W.heap.size := fun x hx => by simpa using hW'.lt x (by simp [hx])
  have hlt1 : ∀ x ∈ p1, x.block < W.heap.size := fun x hx => by simpa using hW'.lt x (by simp [hx])
  have hlt2 : ∀ x ∈ p2, x.block < W.heap.size := fun x hx => by simpa using hW'.lt x (by simp [hx])
  have hb0 : Rows.uptoBulk d0 ≤ 1048576 := Nat.le_trans (bulk_part (by simp)) hsm
  obtain ⟨x0, l0, rfl, hr0, hw0'⟩ := argTb_of (by simpa [Value.cells] using hf0) hlt0
  have hwp : ∀ y ∈ l0, y.path.length ≤ 2000000 := fun y hy => Nat.le_trans (hw0' y hy).1 (Nat.le_trans hb0 (by decide))
  have hwd : ∀ y ∈ l0, y.data.length ≤ 2000000 := fun y hy => Nat.le_trans (hw0' y hy).2 (Nat.le_trans hb0 (by decide))
  obtain ⟨l1, hr1, hw1'⟩ := argR_of (by simpa [Value.cells] using hf1) hlt1
  have hw1 : ∀ y ∈ l1, y.length ≤ 140737488355328 := fun y hy => reach_len (by simpa using List.all_eq_true.1 hsz _ (DataW.weights_mem_each (j := 1) (t := 46) rfl rfl _ (hw1' y hy)))
  obtain ⟨l2, hr2, hw2'⟩ := argR_of (by simpa [Value.cells] using hf2) hlt2
  have hw2 : ∀ y ∈ l2, y.length ≤ 140737488355328 := fun y hy => reach_len (by simpa using List.all_eq_true.1 hsz _ (DataW.weights_mem_each (j := 2) (t := 46) rfl rfl _ (hw2' y hy)))
  refine (leads_law l0 x0 l1 _ l2 _ W hr0 hwp hwd (tabs hL hsh) hr1 hw1 hr2 hw2).mono fun e W' ⟨he, hb⟩ => ?_
  subst he
  exact ⟨_, rfl, _, _, _, [], _, [], hW', (trodAll_cons_mk (shut_bool Tryd.underlying4 _) trodAll_mk0), (trodAll_cons_mk (Below.trod laidOut (by kernel_rfl) (of_decide_eq_true (by kernel_rfl)) h0k hb hlt0) (trodAll_cons_mk (Below.trod laidOut (by kernel_rfl) (of_decide_eq_true (by kernel_rfl)) h1k hb hlt1) (trodAll_cons_mk (Below.trod laidOut (by kernel_rfl) (of_decide_eq_true (by kernel_rfl)) h2k hb hlt2) trodAll_mk0))), rfl, hb.frame _, fun h => by cases h⟩

theorem said : Rows.WalkLeadsUptoSaid :=
  OpenClaim.holds_of_cond 6 Tryd.f6 rfl rfl rfl rfl rfl rfl rfl ⟨rfl, rfl, rfl, rfl, rfl⟩ rfl rfl rfl rfl rfl (by kernel_rfl) Tryd.func6 (by kernel_rfl)
    (of_decide_eq_true (by kernel_rfl)) (by unfold Func.isWrapper; first | (rw [if_pos (by decide +kernel)]; kernel_rfl) | (rw [if_neg (by decide +kernel)]; exact ⟨rfl, rfl⟩))
    (fun os started H enc _ F => by rw [OpenClaim.pre_eq_preRow]; exact lifted os started H enc F)

/-- No parameter wants a stand-in; the program's own looks are off: what the card asks. -/
theorem plain (f : FuncId) (fn : Func) (hf : Tryd.pinned.checked.prog.funcNamed "puncheon/puncheonlaw07.WalkLeads" = some f) (hfn : Tryd.pinned.checked.prog.funcs[f]? = some fn) :
    false = Tryd.pinned.checked.prog.looks [] ∧ ∀ (j : Nat) t, fn.params[j]? = some t → Tryd.pinned.checked.prog.wantsStandIn t = false := by
  obtain rfl : f = 6 := Option.some.inj ((show Tryd.prog.funcNamed "puncheon/puncheonlaw07.WalkLeads" = some 6 by kernel_rfl).symm.trans hf) |>.symm
  obtain rfl : fn = Tryd.f6 := (Option.some.inj (Tryd.func6.symm.trans hfn)).symm
  refine ⟨by kernel_rfl, fun j t ht => ?_⟩
  rw [Tryd.params6] at ht
  have hm : t ∈ [24, 46, 46] := by simpa using Array.mem_of_getElem? ht
  have hall : ([24, 46, 46].all fun u => !Tryd.prog.wantsStandIn u) = true := by kernel_rfl
  exact (show Tryd.prog.wantsStandIn t = false by simpa using List.all_eq_true.1 hall t hm)
end Go.Proofs.YtiakedoebecgpaaDoor.WalkLeadsP
namespace Go.Proofs.YtiakedoebecgpaaDoor
theorem walkLeads_upto_card : Rows.WalkLeadsUptoCardSaid :=
  Claim7.holds_tied_plain_at .later [] _ _ _ _ WalkLeadsP.said (fun _ h => by cases h) (by kernel_rfl) (fun _ h => by cases h) walkLeadsUpto_row_tie rfl ⟨rfl, rfl⟩ (by kernel_rfl) rfl WalkLeadsP.plain (by kernel_rfl)
#print axioms walkLeads_upto_card
end Go.Proofs.YtiakedoebecgpaaDoor
