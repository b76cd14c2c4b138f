/- Proved here: Sum of package sha: the sum of all bytes, one row behind the other. -/
import Derived.Test.YtkenbppoldfecaaDoorTakeIn
namespace Go.Proofs.YtkenbppoldfecaaDoor
open Go.RowKit Go.Shelf

theorem info27b (l : Bytes) (h : l.length = 32) : (Tryd.prog.info? 27).map (·.size) = some (bytesA l).size := by
  rw [info27]
  simp [bytesA, bytesV_len, h]
theorem zeros32 (l : Bytes) (h : l.length = 32) : (part z8 [] 32 0).size = (bytesA l).size := by
  rw [part_zero]
  simp [bytesA, bytesV_len, h]
theorem rd_box {w : World} {g n : Nat} {t : TypeId} {xs : List Value} (h : Box w g t xs.toArray) (hn : n = xs.length) (hm : n ≤ maxLen) : Rd w (.slice (some ⟨g, 0, none⟩) n n) xs := by
  subst hn
  have := own_of_box (base := 0) (n := xs.length) (cap := xs.length) h (Nat.zero_le _) (Nat.le_refl _) hm (by simp)
  have h2 := Rd.of_own this
  rw [List.take_of_length_le (by simp)] at h2
  exact h2

set_option maxRecDepth 100000 in
set_option maxHeartbeats 3000000 in
theorem sum_any (ls : List Bytes) (l : Bytes) (hls : ls.flatten = l) (v : Value) (t : TypeId) (fr : Nat × Nat) (w : World) (hP : Prim t fr w) (hv : RdR w v (ls.map bytesV)) (hn : ls.length ≤ 1000) (hl : l.length ≤ 1000000000) : Calls Tryd.prog 10 #[v] w fun e w' => e = .returned (.agg (bytesA (sumL l))) ∧ Below w.heap.size w w' := by
  have hflat : (ls.map bytesV).flatten = bytesV l := by rw [bytes_rows, hls]
  obtain ⟨vs, hR, hlen, hrow⟩ := id hv
  obtain ⟨a, cap, rfl, hlc, hcm, hnil, hcell⟩ := id hR
  unfold maxLen at hcm
  obtain ⟨n, hvn⟩ : ∃ n, n = vs.length := ⟨_, rfl⟩
  have hnl : n = ls.length := by rw [hvn, hlen, List.length_map]
  rw [← hvn] at hlc hcell hR hv ⊢
  have hB0 : Below w.heap.size w (w.alloc (.cells (part z8 [] 32 0) 27)) := (Below.refl _ _).alloc (Nat.le_refl _) _
  have HX0 : Hid (Box (w.alloc (.cells (part z8 [] 32 0) 27)) w.heap.size 27 (part z8 [] 32 0)) := Lib.hid (box_new _ _ _ rfl)
  have HP := Lib.hid hP
  have HR := Lib.hid hR
  have HROW := Lib.hid hrow
  have HC := Lib.hid hcell
  have HF := Lib.hid hflat
  have HL := Lib.hid hls
  have HNL := Lib.hid hnl
  have HVN := Lib.hid hvn
  have HLEN := Lib.hid hlen
  have hn1000 : n ≤ 1000 := by omega
  clear hflat hls hnl hvn hlen hP hR hrow hcell hv hnil
  go_enter Tryd.func10, Tryd.ntmps10
  go_wp2_with (with_reducible refine wpList_zero rfl 27 rfl (part z8 [] 32 0) (zero27 _) ?_)
  go_loop [3, 5, 11, 12, 13, 14, 15, 16, 17, 18, 19, 20] (fun s _ i _ _ _ _ _ _ _ _ _ => ∃ k : Nat, k ≤ n ∧ i = .int .i64 k ∧ s = .int .u64 (((ls.map bytesV).take k).flatten.length : Nat)) (fun _ _ i _ _ _ _ _ _ _ _ _ => n - (Lib.intOf i).toNat)
  case atStart => exact ⟨0, Nat.zero_le _, rfl, rfl⟩
  case round =>
    obtain ⟨k, hk, rfl, rfl⟩ := hrel
    by_cases hlt : k < n
    · obtain ⟨x, hx⟩ : ∃ x, vs[k]? = some x := ⟨_, List.getElem?_eq_getElem (by have := HVN.out; omega)⟩
      obtain ⟨r, hr⟩ : ∃ r, (ls.map bytesV)[k]? = some r := ⟨_, List.getElem?_eq_getElem (by have := HVN.out; have := HLEN.out; omega)⟩
      obtain ⟨g, o, rfl, hg, hc⟩ := HC.out (by omega)
      have c1 := (hB0.cell (p := ⟨g, _, none⟩) hg).trans (hc k x hx)
      obtain ⟨a2, cap2, rfl, hc21, hc22, _, _⟩ := HROW.out k x r hx hr
      unfold maxLen at hc22
      obtain ⟨m, hm⟩ : ∃ m, m = r.length := ⟨_, rfl⟩
      rw [← hm] at c1 hc21
      obtain ⟨q, hq⟩ : ∃ q, q = ((ls.map bytesV).take k).flatten.length := ⟨_, rfl⟩
      have hq2 : ((ls.map bytesV).take (k + 1)).flatten.length = q + m := by rw [flat_take hr, List.length_append, hq, hm]
      have hb : q + m ≤ 1000000000 := by
        have h1 := flat_le (ls.map bytesV) (k + 1)
        have h2 := congrArg List.length HF.out
        rw [bytesV_len] at h2
        omega
      rw [← hq]
      have HQ2 := Lib.hid hq2
      have hkn : (k : Int) < (n : Int) := by omega
      clear hx hr hc hq hq2 hm
      go_wp2
      go_round
      case rel => exact ⟨k + 1, hlt, by go_num, by rw [HQ2.out]; go_num⟩
      case measure => simp [Lib.intOf]; omega
    · have hkn : ¬ ((k : Int) < (n : Int)) := by omega
      have hq : ((ls.map bytesV).take k).flatten.length = l.length := by
        rw [List.take_of_length_le (by have := HVN.out; have := HLEN.out; omega), HF.out, bytesV_len]
      rw [hq]
      obtain ⟨q, hq2⟩ : ∃ q, q = l.length := ⟨_, rfl⟩
      rw [← hq2]
      have HQ := Lib.hid hq2
      clear hq hq2
      go_wp2_with fail
      refine (padding_any q (by have := HQ.out; omega) _).mono ?_
      rintro e w1 ⟨pv, rfl, hpo, hb1⟩
      have hB1 := bch hB0 hb1
      have hpr := Rd.of_own hpo
      have X1 : Box w1 w.heap.size 27 (part z8 [] 32 0) := HX0.out.below hb1 HX0.out.lt
      obtain ⟨pa, pcap, hpv, _⟩ := id hpr
      obtain ⟨pl, hpl⟩ : ∃ pl, pl = (bytesV (padL q)).length := ⟨_, rfl⟩
      rw [← hpl] at hpv
      subst hpv
      have hb2 : Below w1.heap.size w1 ((w1.alloc (.cells #[.slice pa pl pcap] 24)).alloc (.cells #[.slice a n cap, .slice (some ⟨w1.heap.size, 0, none⟩) 1 1] 22)) := ((Below.refl _ _).alloc (Nat.le_refl _) _).alloc (by simp) _
      have hcat := concat24_any [vs, [.slice pa pl pcap]] (.slice (some ⟨w1.heap.size + 1, 0, none⟩) 2 2) ((w1.alloc (.cells #[.slice pa pl pcap] 24)).alloc (.cells #[.slice a n cap, .slice (some ⟨w1.heap.size, 0, none⟩) 1 1] 22))
        ⟨[.slice a n cap, .slice (some ⟨w1.heap.size, 0, none⟩) 1 1], rd_box (xs := [.slice a n cap, .slice (some ⟨w1.heap.size, 0, none⟩) 1 1]) (box_new _ _ _ (by simp)) rfl (by unfold maxLen; omega), rfl, fun i x r hx hr => by
          rcases (by have := (List.getElem?_eq_some_iff.1 hx).1; simp at this; omega : i = 0 ∨ i = 1) with rfl | rfl
          · cases hx
            cases hr
            exact (HR.out.on hB1).on hb2
          · cases hx
            cases hr
            exact rd_box (xs := [.slice pa pl pcap]) ((box_new (g := w1.heap.size) w1 24 _ rfl).alloc _) rfl (by unfold maxLen; omega)⟩
        (fun r hr y hy => by
          rcases List.mem_cons.1 hr with rfl | hr
          · obtain ⟨i, hi⟩ := List.mem_iff_getElem?.1 hy
            obtain ⟨r2, hr2⟩ : ∃ r2, (ls.map bytesV)[i]? = some r2 := ⟨_, List.getElem?_eq_getElem (by have := (List.getElem?_eq_some_iff.1 hi).1; have := HLEN.out; omega)⟩
            obtain ⟨_, _, rfl, _⟩ := HROW.out i y r2 hi hr2
            rfl
          · rcases List.mem_cons.1 hr with rfl | hr
            · rcases List.mem_cons.1 hy with rfl | hy
              · rfl
              · cases hy
            · cases hr)
        (by simp; have := HVN.out; omega)
      have HCAT := Lib.hid hcat
      have HPR := Lib.hid hpr
      have HX1 := Lib.hid X1
      have HB1 := Lib.hid (hB1.trans (hb2.mono hB1.size))
      have HB2 := Lib.hid hb2
      clear hpo hpr X1 hb1 hcat hpl hb2
      go_wp2_with fail
      refine HCAT.out.mono ?_
      rintro e w3 ⟨v3, rfl, hown3, hb3⟩
      have hB3 := bch HB1.out hb3
      have hb13 := (HB2.out.trans (hb3.mono HB2.out.size))
      have X3 : Box w3 w.heap.size 27 (part z8 [] 32 0) := HX1.out.below hb13 HX1.out.lt
      have hR3 : RdR w3 v3 ((ls ++ [padL q]).map bytesV) := by
        refine ⟨vs ++ [.slice pa pl pcap], ?_, by simp; have := HLEN.out; simp at this; exact this, fun i x r hx hr => ?_⟩
        · have := Rd.of_own hown3
          simpa using this
        · rw [List.map_append] at hr
          by_cases hi : i < vs.length
          · rw [List.getElem?_append_left hi] at hx
            rw [List.getElem?_append_left (by have := HLEN.out; omega)] at hr
            exact ((HROW.out i x r hx hr).on hB1).on hb13
          · have h2 := (List.getElem?_eq_some_iff.1 hx).1
            simp at h2
            obtain rfl : i = vs.length := by omega
            rw [List.getElem?_append_right (Nat.le_refl _), Nat.sub_self] at hx
            rw [List.getElem?_append_right (by have := HLEN.out; omega), show vs.length - (ls.map bytesV).length = 0 by have := HLEN.out; omega] at hr
            cases hx
            cases hr
            exact HPR.out.on hb13
      have HR3 := Lib.hid hR3
      have HX3 := Lib.hid X3
      have HB3 := Lib.hid hB3
      clear hown3 hR3 X3 hB3 hb13 hb3 hB1
      go_wp2_with fail
      refine (beginnings_any t fr _ (HP.out.on HB3.out)).mono ?_
      rintro e w4 ⟨rfl, hb4⟩
      have hR4 := HR3.out.on hb4
      have X4 : Box w4 w.heap.size 27 (part z8 [] 32 0) := HX3.out.below hb4 HX3.out.lt
      have hB4 := bch HB3.out hb4
      have HR4 := Lib.hid hR4
      have HX4 := Lib.hid X4
      have HB4 := Lib.hid hB4
      have HFL : Hid ((ls ++ [padL q]).flatten = l ++ padL q) := Lib.hid (by rw [List.flatten_append, HL.out]; simp)
      have HSZ : Hid ((l ++ padL q).length ≤ 140737488355328) := Lib.hid (by
        have h1 := padT_len q 8 (by omega)
        rw [padT_all] at h1
        have h2 := noughts_lt q
        rw [List.length_append, h1]
        omega)
      clear hR4 X4 hB4 hb4
      go_wp2_with fail
      refine (takeIn_any first (ls ++ [padL q]) (l ++ padL q) HFL.out v3 t fr w4 (HP.out.on HB4.out) HR4.out HSZ.out).mono ?_
      rintro e w5 ⟨v5, rfl, _, hb5⟩
      have hsz5 := hb5.size
      have hX5 : Box w5 w.heap.size 27 (part z8 [] 32 0) := HX4.out.below hb5 HX4.out.lt
      have HX5 := Lib.hid hX5
      have HB5 := Lib.hid (bch HB4.out hb5)
      have hl5 := hX5.lt
      have HX6 : Hid (Box (w5.alloc (.cells (part z32 [] 8 0) 33)) w5.heap.size 33 (part z32 [] 8 0)) := Lib.hid (box_new _ _ _ rfl)
      obtain ⟨S, hS⟩ : ∃ S, S = wordsOf first (l ++ padL q) := ⟨_, rfl⟩
      rw [← hS]
      have HS := Lib.hid (Wrapped.mk hS)
      clear hS hX5 hb5
      have HX7 : Hid (Box ((w5.alloc (.cells (part z32 [] 8 0) 33)).setRow w5.heap.size (stA S)) w5.heap.size 33 (stA S)) := Lib.hid (HX6.out.row _)
      have HX8 : Hid (Box ((w5.alloc (.cells (part z32 [] 8 0) 33)).setRow w5.heap.size (stA S)) w.heap.size 27 (part z8 [] 32 0)) := Lib.hid ((HX5.out.alloc _).far_row (by omega) _)
      have HB8 : Hid (Below w.heap.size w ((w5.alloc (.cells (part z32 [] 8 0) 33)).setRow w5.heap.size (stA S))) := Lib.hid (below_row (HB5.out.alloc HB5.out.size _) HB5.out.size _)
      go_wp2_with (first
        | (with_reducible refine wpList_zero rfl 33 rfl (part z32 [] 8 0) (zero33 _) ?_)
        | (refine wpList_store_row rfl 33 (.tmp 7) (.tmp 31) rfl w5.heap.size (stA S) rfl rfl 33 (part z32 [] 8 0) HX6.out (info33s _) (zeros8s _ _) (stA_one _) ?_)
        | (refine wpList_load_row rfl 33 (.tmp 7) rfl w5.heap.size rfl 33 (stA S) (0, 0) (.array 8 30) HX7.out Tryd.underlying33 rfl (info33s _) ?_))
      refine (digest_any S _).mono ?_
      rintro e w6 ⟨rfl, hb6⟩
      have HX9 : Hid (Box w6 w.heap.size 27 (part z8 [] 32 0)) := Lib.hid (HX8.out.below hb6 HX8.out.lt)
      have HB9 := Lib.hid (bch HB8.out hb6)
      go_wp2_with (refine wpList_store_row rfl 27 (.tmp 2) (.tmp 34) rfl w.heap.size (bytesA (digestL S)) rfl rfl 27 (part z8 [] 32 0) HX9.out (info27b _ (digestL_len _)) (zeros32 _ (digestL_len _)) (bytesA_one _) ?_)
      refine bodyPost_ret (results_cell_row rfl _ _ w.heap.size 27 (bytesA (digestL S)) (0, 0) (.array 32 5) rfl (setRow_heap _ _ _ _ _ _ HX9.out) Tryd.underlying27 rfl (info27b _ (digestL_len _))) rfl ⟨?_, below_row HB9.out (Nat.le_refl _) _⟩
      unfold sumL
      rw [← HQ.out, ← HS.out.get]
end Go.Proofs.YtkenbppoldfecaaDoor
