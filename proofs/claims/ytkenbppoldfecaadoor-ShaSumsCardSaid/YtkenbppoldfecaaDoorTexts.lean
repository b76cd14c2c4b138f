/- Proved here: ShaTexts of puncheonlaw03 returns true, whatever digests and texts it is called with. -/
import Derived.Test.YtkenbppoldfecaaDoorRefR
import Derived.Test.YtkenbppoldfecaaDoorBack
import Derived.Deep.RegionHeld3
import Derived.Deep.MidRow
namespace Go.Proofs.YtkenbppoldfecaaDoor
open Go.RowKit Go.Shelf Go.Joins

/-- The slice reads as these digests, 32 cells each. -/
def RdD (w : World) (v : Value) (ds : List Bytes) : Prop :=
  ∃ (a : Option Addr) (cap : Nat), v = .slice a ds.length cap ∧ ds.length ≤ cap ∧ cap ≤ maxLen ∧ (∀ d ∈ ds, d.length = 32) ∧
    (0 < ds.length → ∃ g o, a = some ⟨g, o, none⟩ ∧ g < w.heap.size ∧ ∀ (j : Nat) (d : Bytes), ds[j]? = some d → w.rangeAt g (o + j * 32) (bytesV d))
theorem range_on {w w' : World} {B g o : Nat} {cs : List Value} (h : w.rangeAt g o cs) (hb : Below B w w') (hg : g < B) : w'.rangeAt g o cs := fun j v hv => (hb.cell (p := ⟨g, _, none⟩) hg).trans (h j v hv)
theorem range_box {w : World} {g : Nat} {t : TypeId} {l : Bytes} (h : Box w g t (bytesA l)) : w.rangeAt g 0 (bytesV l) := fun j v hv => by
  rw [Nat.zero_add]
  exact h.cell (by unfold bytesA; rw [List.getElem?_toArray]; exact hv)

theorem keep0 {w0 w : World} {g : Nat} {l : Bytes} (h1 : w.rangeAt g 0 (bytesV l)) (h2 : Below w0.heap.size w0 w) (h3 : g < w.heap.size) : w.drew.rangeAt g 0 (bytesV l) ∧ Below w0.heap.size w0 w.drew ∧ g < w.drew.heap.size := ⟨h1, h2.drew, h3⟩
theorem keep3 {w0 w w' : World} {g : Nat} {l : Bytes} (h : w.rangeAt g 0 (bytesV l) ∧ Below w0.heap.size w0 w ∧ g < w.heap.size) (hb : Below w.heap.size w w') : w'.rangeAt g 0 (bytesV l) ∧ Below w0.heap.size w0 w' ∧ g < w'.heap.size := ⟨range_on h.1 hb h.2.2, bch h.2.1 hb, Nat.lt_of_lt_of_le h.2.2 hb.size⟩

theorem rread_good (s : ByteArray) (h : s.data.toList.length = 64) (ha : allD s.data.toList = true) (W : World) : Calls Tryd.prog 18 #[.string s] W fun e w' => e = .returned (.tuple #[.agg (bytesA (bytesOf s.data.toList)), .bool true]) ∧ Below W.heap.size W w' := by
  have h2 := rread_any s W
  unfold RReadR readOk at h2
  rw [readV_good h ha] at h2
  exact h2
theorem rread_none (s : ByteArray) (h : ¬ (s.data.toList.length = 64 ∧ allD s.data.toList = true)) (W : World) : Calls Tryd.prog 18 #[.string s] W fun e w' => e = .returned (.tuple #[.agg (bytesA zero32), .bool false]) ∧ Below W.heap.size W w' := by
  have h2 := rread_any s W
  unfold RReadR readOk at h2
  rw [show readV s.data.toList = (zero32, 130) from if_neg h] at h2
  exact h2


set_option maxRecDepth 100000 in
set_option maxHeartbeats 3000000 in
theorem texts_law (ds : List Bytes) (ts : List ByteArray) (vd vt : Value) (t : TypeId) (fr : Nat × Nat) (w : World) (hP : Prim t fr w) (hd : RdD w vd ds) (ht : Rd w vt (ts.map Value.string)) (hts : ∀ s ∈ ts, s.size ≤ maxLen) : Calls Tryd.prog 4 #[vd, vt] w fun e w' => e = .returned (.bool true) ∧ Below w.heap.size w w' := by
  obtain ⟨a, cap, rfl, hlc, hcm, h32, hcell⟩ := hd
  obtain ⟨a2, cap2, rfl, hlc2, hcm2, _, hcell2⟩ := ht
  rw [List.length_map] at hlc2 hcell2 ⊢
  unfold maxLen at hcm hcm2
  obtain ⟨n, hn⟩ : ∃ n, n = ds.length := ⟨_, rfl⟩
  obtain ⟨m, hm⟩ : ∃ m, m = ts.length := ⟨_, rfl⟩
  rw [← hn] at hlc hcell ⊢
  rw [← hm] at hlc2 hcell2 ⊢
  have HN := Lib.hid hn
  have HM := Lib.hid hm
  have HC := Lib.hid hcell
  have HC2 := Lib.hid hcell2
  have H32 := Lib.hid h32
  have HP := Lib.hid hP
  have HS := Lib.hid hts
  clear hn hm hcell hcell2 h32 hP hts
  go_enter Tryd.func4, Tryd.ntmps4
  go_wp2_with fail
  refine (wakes_any t fr w HP.out).mono ?_
  rintro e w1 ⟨rfl, hb1⟩
  go_wp2_with fail
  go_loopw [5, 6, 17, 18, 19, 20, 21, 22, 23, 24, 25, 26, 27, 28, 29, 30, 31] (fun _ _ i _ _ _ _ _ _ _ _ _ _ _ _ _ _ wr => ∃ k : Nat, k ≤ n ∧ i = .int .i64 k ∧ Below w.heap.size w wr) (fun _ _ i _ _ _ _ _ _ _ _ _ _ _ _ _ _ _ => n - (Lib.intOf i).toNat)
  case atStart => exact ⟨0, Nat.zero_le _, rfl, hb1⟩
  case round =>
    obtain ⟨k, hk, rfl, hB⟩ := hrel
    have hsz := hB.size
    by_cases hlt : k < n
    · obtain ⟨d, hd⟩ : ∃ d, ds[k]? = some d := ⟨_, List.getElem?_eq_getElem (by have := HN.out; omega)⟩
      have hd32 := H32.out d (List.mem_of_getElem? hd)
      obtain ⟨g, o, rfl, hg, hc⟩ := HC.out (by omega)
      have hr := range_on (hc k d hd) hB hg
      have HR := Lib.hid hr
      have HD := Lib.hid hd32
      have HI := Lib.hid (show (Tryd.prog.info? 27).map (·.size) = some (bytesV d).length by rw [bytesV_len, hd32]; exact info27)
      have HI2 := Lib.hid (info27b d hd32)
      have HZ := Lib.hid (zeros32 d hd32)
      have X1 : Hid (Box (wr.alloc (.cells (part z8 [] 32 0) 27)) wr.heap.size 27 (part z8 [] 32 0)) := Lib.hid (box_new _ _ _ rfl)
      have X2 : Hid (Box ((wr.alloc (.cells (part z8 [] 32 0) 27)).setRow wr.heap.size (bytesA d)) wr.heap.size 27 (bytesA d)) := Lib.hid (X1.out.row _)
      have HB2 : Hid (Below w.heap.size w ((wr.alloc (.cells (part z8 [] 32 0) 27)).setRow wr.heap.size (bytesA d))) := Lib.hid (below_row (hB.alloc hsz _) hsz _)
      have k1 : (0 : Int) ≤ (k : Int) := by omega
      have k2 : (k : Int) < (n : Int) := by omega
      clear hd hd32 hc hr
      go_wp2_with (first
        | (with_reducible refine wpList_zero rfl 27 rfl (part z8 [] 32 0) (zero27 _) ?_)
        | (refine wpList_load_mid rfl 27 (.tmp 20) rfl g (o + k * 32) rfl (bytesV d) (.array 32 5) HR.out Tryd.underlying27 rfl HI.out ?_)
        | (refine wpList_store_row rfl 27 (.tmp 6) (.tmp 21) rfl wr.heap.size (bytesA d) rfl rfl 27 (part z8 [] 32 0) X1.out HI2.out HZ.out (bytesA_one _) ?_))
      obtain ⟨wb, hwb⟩ : ∃ x, x = (wr.alloc (.cells (part z8 [] 32 0) 27)).setRow wr.heap.size (bytesA d) := ⟨_, rfl⟩
      rw [← hwb] at X2 HB2 ⊢
      obtain ⟨gb, hgb⟩ : ∃ x, x = wr.heap.size := ⟨_, rfl⟩
      rw [← hgb] at X2 ⊢
      clear hwb hgb X1 HR
      have h1 : wb.rangeAt gb 0 (bytesV d) := range_box X2.out
      have h2 := HB2.out
      have h3 := X2.out.lt
      have hu := Tryd.underlying27
      have hi := HI.out
      by_cases h8 : k < 8
      · have d8 : decide ((k : Int) < 8) = true := decide_eq_true (by omega)
        go_wp2_with fail
        have s0 := keep0 h1 h2 h3
        refine wp_region_held_drew (S := fun w' => w'.rangeAt gb 0 (bytesV d) ∧ Below w.heap.size w w' ∧ gb < w'.heap.size) (by kernel_rfl) s0 (fun hHeld => ?_)
        refine wpAnyH_take (i := 0) (v := ?_) rfl (by kernel_rfl) (by kernel_rfl) (by kernel_rfl) (fun _ _ _ h => h) (Or.inl ⟨by rfl, ?_⟩) hHeld ?_
        rotate_left
        · (intro wz hSz; go_simp; try with_reducible rfl)
        (try simp only [Act.put, List.setIfInBounds_toArray])
        refine wpAnyH_take (i := 1) (v := ?_) rfl (by kernel_rfl) (by kernel_rfl) (by kernel_rfl) (fun _ _ _ h => h) (Or.inl ⟨by rfl, ?_⟩) hHeld ?_
        rotate_left
        · (intro wz hSz; go_simp; try with_reducible rfl)
        (try simp only [Act.put])
        refine wpAnyH_take (i := 2) (v := ?_) rfl (by kernel_rfl) (by kernel_rfl) (by kernel_rfl) (fun _ _ _ h => h) (Or.inl ⟨by rfl, ?_⟩) hHeld ?_
        rotate_left
        · (intro wz hSz; go_simp; try with_reducible rfl)
        (try simp only [Act.put])
        refine wpAnyH_take (i := 3) (v := _) rfl (by kernel_rfl) (by kernel_rfl) (by kernel_rfl) (fun _ _ _ h => h) (yieldsIf_load_mid (by rfl) 27 (.tmp 6) rfl gb 0 rfl (bytesV d) (.array 32 5) (fun _ h => h.1) hu rfl hi) hHeld ?_
        (try simp only [Act.put])
        refine wpAnyH_take (i := 5) (v := _) rfl (by kernel_rfl) (by kernel_rfl) (by kernel_rfl) (fun _ _ _ h => h) (yieldsIf_load_mid (by rfl) 27 (.tmp 6) rfl gb 0 rfl (bytesV d) (.array 32 5) (fun _ h => h.1) hu rfl hi) hHeld ?_
        (try simp only [Act.put])
        refine wpAnyH_ready (rs := [4]) (by kernel_rfl) (by simp) (AllReadyH.cons (o := _) rfl (fun K hK => ?_) AllReadyH.nil)
        go_simp
        refine (text_any d HD.out _).mono ?_
        rintro e wc ⟨rfl, hbc⟩
        refine hK.out _ _ (keep3 hHeld hbc) (fun hHeld => ?_)
        (try simp only [Act.put, List.setIfInBounds_toArray, List.set_cons_zero, List.set_cons_succ])
        refine wpAnyH_ready (rs := [6]) (by kernel_rfl) (by simp) (AllReadyH.cons (o := _) rfl (fun K hK => ?_) AllReadyH.nil)
        go_simp
        refine (rtext_any d HD.out _).mono ?_
        rintro e we ⟨rfl, hbe⟩
        refine hK.out _ _ (keep3 hHeld hbe) (fun hHeld => ?_)
        (try simp only [Act.put, List.setIfInBounds_toArray, List.set_cons_zero, List.set_cons_succ])
        refine wpAnyH_take (i := 7) (v := ?_) rfl (by kernel_rfl) (by kernel_rfl) (by kernel_rfl) (fun _ _ _ h => h) (Or.inl ⟨by rfl, ?_⟩) hHeld ?_
        rotate_left
        · (intro wz hSz; go_simp; try with_reducible rfl)
        (try simp only [Act.put, List.setIfInBounds_toArray])
        refine wpAnyH_take (i := 8) (v := ?_) rfl (by kernel_rfl) (by kernel_rfl) (by kernel_rfl) (fun _ _ _ h => h) (Or.inl ⟨by rfl, ?_⟩) hHeld ?_
        rotate_left
        · (intro wz hSz; go_simp; try with_reducible rfl)
        (try simp only [Act.put])
        refine wpAnyH_done (by kernel_rfl) ?_ _
        have hB9 := hHeld.2.1
        clear hHeld
        go_wp2_with fail
        refine ⟨⟨k + 1, hlt, by go_num, hB9⟩, ?_⟩
        simp only [Lib.intOf]
        omega
      · have d8 : decide ((k : Int) < 8) = false := decide_eq_false (by omega)
        go_wp2_with fail
        go_quiet (fail)
        go_wp2_with fail
        refine ⟨⟨k + 1, hlt, by go_num, below_drewN HB2.out _⟩, ?_⟩
        simp only [Lib.intOf]
        omega
    · have hx : ¬ ((k : Int) < (n : Int)) := by omega
      obtain ⟨wq, rfl⟩ : ∃ x, x = wr := ⟨_, rfl⟩
      go_wp2_with fail
      go_loopw [7, 8, 9, 10, 11, 12, 34, 35, 36, 37, 38, 39, 40, 41, 42, 43, 44, 45, 46, 47, 48, 49, 50, 51, 52, 53, 54, 55, 56, 57, 58, 59, 60, 61, 62, 63, 64, 65, 66, 67, 68, 69, 70, 71, 72, 73, 74] (fun _ _ _ _ _ _ i _ _ _ _ _ _ _ _ _ _ _ _ _ _ _ _ _ _ _ _ _ _ _ _ _ _ _ _ _ _ _ _ _ _ _ _ _ _ _ _ wr => ∃ k : Nat, k ≤ m ∧ i = .int .i64 k ∧ Below w.heap.size w wr) (fun _ _ _ _ _ _ i _ _ _ _ _ _ _ _ _ _ _ _ _ _ _ _ _ _ _ _ _ _ _ _ _ _ _ _ _ _ _ _ _ _ _ _ _ _ _ _ _ => m - (Lib.intOf i).toNat)
      case atStart => exact ⟨0, Nat.zero_le _, rfl, hB⟩
      case round =>
        clear hB hsz hx
        obtain ⟨j, hj, rfl, hB⟩ := hrel
        have hsz := hB.size
        by_cases hlt : j < m
        · obtain ⟨s, hs⟩ : ∃ s, ts[j]? = some s := ⟨_, List.getElem?_eq_getElem (by have := HM.out; omega)⟩
          obtain ⟨g, o, rfl, hg, hc⟩ := HC2.out (by omega)
          have r0 := (hB.cell (p := ⟨g, _, none⟩) hg).trans (hc j (.string s) (by rw [List.getElem?_map, hs]; rfl))
          have hss := HS.out s (List.mem_of_getElem? hs)
          unfold maxLen at hss
          clear hc hs
          by_cases h8 : j = 8
          · subst h8
            go_wp2_with fail
            go_ret
            exact ⟨rfl, hB⟩
          · have q1 : ((j : Int) == 8) = false := by rw [beq_eq_false_iff_ne]; omega
            obtain ⟨q, hq⟩ : ∃ q, q = min s.size 70 := ⟨_, rfl⟩
            have m1 : (0 : Int) ≤ (q : Int) := by omega
            have m2 : (q : Int) ≤ (s.size : Int) := by omega
            have m3 : min (s.size : Int) 70 = (q : Int) := by omega
            clear hq h8
            go_wp2_with fail
            obtain ⟨c, hc⟩ : ∃ c, c = s.extract 0 q := ⟨_, rfl⟩
            rw [← hc]
            clear hc r0 hss m1 m2 m3 q1
            by_cases hg : c.data.toList.length = 64 ∧ allD c.data.toList = true
            · refine (read_good c hg.1 hg.2 _).mono ?_
              rintro e w5 ⟨rfl, hb5⟩
              have hB5 := bch hB hb5
              have HI := Lib.hid (info27b (bytesOf c.data.toList) (bytesOf_len c.data.toList))
              have HZ := Lib.hid (zeros32 (bytesOf c.data.toList) (bytesOf_len c.data.toList))
              have Y5 : Hid (Box (w5.alloc (.cells (part z8 [] 32 0) 27)) w5.heap.size 27 (part z8 [] 32 0)) := Lib.hid (box_new _ _ _ rfl)
              have Y6 : Hid (Box ((w5.alloc (.cells (part z8 [] 32 0) 27)).setRow w5.heap.size (bytesA (bytesOf c.data.toList))) w5.heap.size 27 (bytesA (bytesOf c.data.toList))) := Lib.hid (Y5.out.row _)
              have hB6 : Below w.heap.size w ((w5.alloc (.cells (part z8 [] 32 0) 27)).setRow w5.heap.size (bytesA (bytesOf c.data.toList))) := below_row (hB5.alloc hB5.size _) hB5.size _
              clear hB hb5 hB5 hsz
              go_wp2_with (first
                | (with_reducible refine wpList_zero rfl 27 rfl (part z8 [] 32 0) (zero27 _) ?_)
                | (refine wpList_store_row rfl 27 (.tmp 9) (.tmp 49) rfl w5.heap.size (bytesA (bytesOf c.data.toList)) rfl rfl 27 (part z8 [] 32 0) Y5.out HI.out HZ.out (bytesA_one _) ?_))
              obtain ⟨w6, hw6⟩ : ∃ x, x = (w5.alloc (.cells (part z8 [] 32 0) 27)).setRow w5.heap.size (bytesA (bytesOf c.data.toList)) := ⟨_, rfl⟩
              rw [← hw6] at hB6 Y6 ⊢
              obtain ⟨g6, hg6⟩ : ∃ x, x = w5.heap.size := ⟨_, rfl⟩
              rw [← hg6] at Y6 ⊢
              clear hw6 hg6 Y5
              refine (rread_good c hg.1 hg.2 _).mono ?_
              rintro e w7 ⟨rfl, hb7⟩
              have hB7 := bch hB6 hb7
              have Y7 : Box w7 g6 27 (bytesA (bytesOf c.data.toList)) := Y6.out.below hb7 Y6.out.lt
              have l7 := Y7.lt
              have HI2 := Lib.hid (info26b (bytesOf c.data.toList) (bytesOf_len c.data.toList))
              have HZ2 := Lib.hid (zeros32 (bytesOf c.data.toList) (bytesOf_len c.data.toList))
              have V7 : Hid (Box (w7.alloc (.cells (part z8 [] 32 0) 26)) w7.heap.size 26 (part z8 [] 32 0)) := Lib.hid (box_new _ _ _ rfl)
              have V8 : Hid (Box ((w7.alloc (.cells (part z8 [] 32 0) 26)).setRow w7.heap.size (bytesA (bytesOf c.data.toList))) w7.heap.size 26 (bytesA (bytesOf c.data.toList))) := Lib.hid (V7.out.row _)
              have Y8 : Hid (Box ((w7.alloc (.cells (part z8 [] 32 0) 26)).setRow w7.heap.size (bytesA (bytesOf c.data.toList))) g6 27 (bytesA (bytesOf c.data.toList))) := Lib.hid ((Y7.alloc _).far_row (by omega) _)
              have hB8 : Below w.heap.size w ((w7.alloc (.cells (part z8 [] 32 0) 26)).setRow w7.heap.size (bytesA (bytesOf c.data.toList))) := below_row (hB7.alloc hB7.size _) hB7.size _
              have hne := neq27 (bytesOf c.data.toList) (bytesOf_len c.data.toList)
              have hgd := guard27
              clear hB6 hb7 hB7 Y6 Y7 l7
              go_wp2_with (first
                | (with_reducible refine wpList_zero rfl 26 rfl (part z8 [] 32 0) (zero26 _) ?_)
                | (refine wpList_store_row rfl 26 (.tmp 11) (.tmp 54) rfl w7.heap.size (bytesA (bytesOf c.data.toList)) rfl rfl 26 (part z8 [] 32 0) V7.out HI2.out HZ2.out (bytesA_one _) ?_)
                | (refine wpList_load_row rfl 27 (.tmp 9) rfl g6 rfl 27 (bytesA (bytesOf c.data.toList)) (0, 0) (.array 32 5) Y8.out Tryd.underlying27 rfl HI.out ?_)
                | (refine wpList_load_row rfl 26 (.tmp 11) rfl w7.heap.size rfl 26 (bytesA (bytesOf c.data.toList)) (0, 0) (.array 32 5) V8.out Tryd.underlying26 rfl HI2.out ?_))
              refine ⟨⟨j + 1, hlt, by go_num, hB8⟩, ?_⟩
              simp only [Lib.intOf]
              omega
            · refine (read_none c hg _).mono ?_
              rintro e w5 ⟨rfl, hb5⟩
              have hB5 := bch hB hb5
              have HI := Lib.hid (info27b (zero32) rfl)
              have HZ := Lib.hid (zeros32 (zero32) rfl)
              have Y5 : Hid (Box (w5.alloc (.cells (part z8 [] 32 0) 27)) w5.heap.size 27 (part z8 [] 32 0)) := Lib.hid (box_new _ _ _ rfl)
              have Y6 : Hid (Box ((w5.alloc (.cells (part z8 [] 32 0) 27)).setRow w5.heap.size (bytesA (zero32))) w5.heap.size 27 (bytesA (zero32))) := Lib.hid (Y5.out.row _)
              have hB6 : Below w.heap.size w ((w5.alloc (.cells (part z8 [] 32 0) 27)).setRow w5.heap.size (bytesA (zero32))) := below_row (hB5.alloc hB5.size _) hB5.size _
              clear hB hb5 hB5 hsz
              go_wp2_with (first
                | (with_reducible refine wpList_zero rfl 27 rfl (part z8 [] 32 0) (zero27 _) ?_)
                | (refine wpList_store_row rfl 27 (.tmp 9) (.tmp 49) rfl w5.heap.size (bytesA (zero32)) rfl rfl 27 (part z8 [] 32 0) Y5.out HI.out HZ.out (bytesA_one _) ?_))
              obtain ⟨w6, hw6⟩ : ∃ x, x = (w5.alloc (.cells (part z8 [] 32 0) 27)).setRow w5.heap.size (bytesA (zero32)) := ⟨_, rfl⟩
              rw [← hw6] at hB6 Y6 ⊢
              obtain ⟨g6, hg6⟩ : ∃ x, x = w5.heap.size := ⟨_, rfl⟩
              rw [← hg6] at Y6 ⊢
              clear hw6 hg6 Y5
              refine (rread_none c hg _).mono ?_
              rintro e w7 ⟨rfl, hb7⟩
              have hB7 := bch hB6 hb7
              have Y7 : Box w7 g6 27 (bytesA (zero32)) := Y6.out.below hb7 Y6.out.lt
              have l7 := Y7.lt
              have HI2 := Lib.hid (info26b (zero32) rfl)
              have HZ2 := Lib.hid (zeros32 (zero32) rfl)
              have V7 : Hid (Box (w7.alloc (.cells (part z8 [] 32 0) 26)) w7.heap.size 26 (part z8 [] 32 0)) := Lib.hid (box_new _ _ _ rfl)
              have V8 : Hid (Box ((w7.alloc (.cells (part z8 [] 32 0) 26)).setRow w7.heap.size (bytesA (zero32))) w7.heap.size 26 (bytesA (zero32))) := Lib.hid (V7.out.row _)
              have Y8 : Hid (Box ((w7.alloc (.cells (part z8 [] 32 0) 26)).setRow w7.heap.size (bytesA (zero32))) g6 27 (bytesA (zero32))) := Lib.hid ((Y7.alloc _).far_row (by omega) _)
              have hB8 : Below w.heap.size w ((w7.alloc (.cells (part z8 [] 32 0) 26)).setRow w7.heap.size (bytesA (zero32))) := below_row (hB7.alloc hB7.size _) hB7.size _
              have hne := neq27 (zero32) rfl
              have hgd := guard27
              clear hB6 hb7 hB7 Y6 Y7 l7
              go_wp2_with (first
                | (with_reducible refine wpList_zero rfl 26 rfl (part z8 [] 32 0) (zero26 _) ?_)
                | (refine wpList_store_row rfl 26 (.tmp 11) (.tmp 54) rfl w7.heap.size (bytesA (zero32)) rfl rfl 26 (part z8 [] 32 0) V7.out HI2.out HZ2.out (bytesA_one _) ?_)
                | (refine wpList_load_row rfl 27 (.tmp 9) rfl g6 rfl 27 (bytesA (zero32)) (0, 0) (.array 32 5) Y8.out Tryd.underlying27 rfl HI.out ?_)
                | (refine wpList_load_row rfl 26 (.tmp 11) rfl w7.heap.size rfl 26 (bytesA (zero32)) (0, 0) (.array 32 5) V8.out Tryd.underlying26 rfl HI2.out ?_))
              refine ⟨⟨j + 1, hlt, by go_num, hB8⟩, ?_⟩
              simp only [Lib.intOf]
              omega
        · have hx : ¬ ((j : Int) < (m : Int)) := by omega
          go_wp2_with fail
          go_ret
          exact ⟨rfl, hB⟩
end Go.Proofs.YtkenbppoldfecaaDoor
