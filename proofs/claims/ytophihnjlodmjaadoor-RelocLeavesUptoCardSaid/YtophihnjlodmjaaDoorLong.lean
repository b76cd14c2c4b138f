/- Proved here: RelocLong of the laws of package reloc answers true. -/
import Derived.Test.YtophihnjlodmjaaDoorCase
import Derived.Test.YtophihnjlodmjaaDoorLawRuns
import Derived.Deep.RegionHeld
namespace Go.Proofs.YtophihnjlodmjaaDoor
open Go.RowKit Go.Shelf
attribute [local go_sem] Oper.semAt_some

theorem lruns_is (p l : Bs) (hp : 1 ≤ p.length) : lrunsL p l = runPl p l := by
  unfold lrunsL runPl
  by_cases h : 0 ∈ l
  · rw [if_pos h, if_pos h, splA_is p l hp]
  · rw [if_neg h, if_neg h]
theorem chk_t {p : Bs} (h : okB p = true) : chkI p = 0 := by unfold chkI; rw [if_pos h]
theorem chk_f {p : Bs} (h : okB p = false) : chkI p = 240 := by unfold chkI; rw [if_neg (by rw [h]; decide)]
/-- What Move answers where one of the prefixes may not be. -/
theorem move_bad (l fr tt : Bs) (hl : l.length ≤ 1000000) (hlf : fr.length ≤ 1000000) (hlt : tt.length ≤ 1000000) (h : ¬ (okB fr = true ∧ okB tt = true)) (w : World) : Calls Tryd.prog 18 #[.string ⟨l.toArray⟩, .string ⟨fr.toArray⟩, .string ⟨tt.toArray⟩] w fun e w' => e = .returned (.tuple #[.string ⟨#[]⟩, .slice none 0 0, .int .i64 240]) ∧ Below w.heap.size w w' :=
  (move_any l fr tt hl hlf hlt w).mono (by
    rintro e w' ⟨⟨h1, h2, _⟩ | ⟨_, h2⟩, hb⟩
    · exact absurd ⟨h1, h2⟩ h
    · exact ⟨h2, hb⟩)
theorem move_none (l fr tt : Bs) (hl : l.length ≤ 1000000) (hlf : fr.length ≤ 1000000) (hlt : tt.length ≤ 1000000) (h1 : okB fr = true) (h2 : okB tt = true) (h : movL fr tt l = none) (w : World) : Calls Tryd.prog 18 #[.string ⟨l.toArray⟩, .string ⟨fr.toArray⟩, .string ⟨tt.toArray⟩] w fun e w' => e = .returned (.tuple #[.string ⟨#[]⟩, .slice none 0 0, .int .i64 3]) ∧ Below w.heap.size w w' :=
  (move_any l fr tt hl hlf hlt w).mono (by
    rintro e w' ⟨⟨_, _, ⟨o', a', v, h3, _⟩ | ⟨_, h3⟩⟩ | ⟨h3, _⟩, hb⟩
    · rw [h] at h3; cases h3
    · exact ⟨h3, hb⟩
    · exact absurd ⟨h1, h2⟩ h3)
theorem move_some (l fr tt : Bs) (hl : l.length ≤ 1000000) (hlf : fr.length ≤ 1000000) (hlt : tt.length ≤ 1000000) (h1 : okB fr = true) (h2 : okB tt = true) {o : Bs} {al : List Nat} (h : movL fr tt l = some (o, al)) (w : World) : Calls Tryd.prog 18 #[.string ⟨l.toArray⟩, .string ⟨fr.toArray⟩, .string ⟨tt.toArray⟩] w fun e w' => ∃ a c, e = .returned (.tuple #[.string ⟨o.toArray⟩, .slice a al.length c, .int .i64 0]) ∧ w'.ownsRow w.heap.size 3 1 (.slice a al.length c) al.length (natsV al) ∧ Below w.heap.size w w' :=
  (move_any l fr tt hl hlf hlt w).mono (by
    rintro e w' ⟨⟨_, _, ⟨o', a', v, h3, h4, h5⟩ | ⟨h3, _⟩⟩ | ⟨h3, _⟩, hb⟩
    · rw [h] at h3; cases h3
      obtain ⟨a, c, rfl⟩ := own_slice h5
      exact ⟨a, c, h4, h5, hb⟩
    · rw [h] at h3; cases h3
    · exact absurd ⟨h1, h2⟩ h3)
theorem movL_room {fr tt l o : Bs} {a : List Nat} (hf : 1 ≤ fr.length) (h : movL fr tt l = some (o, a)) (h0 : 0 ∉ l) : a.length ≤ l.length := by
  have := movL_count h
  unfold runPl at this
  rw [if_neg h0] at this
  have := plcs_count fr l hf
  omega

set_option maxRecDepth 100000 in
set_option maxHeartbeats 8000000 in
theorem long_law (v : Cs) (m : Int) (w : World) (hm : w.cell? ⟨0, 0, none⟩ = some (.int .i64 m)) (hw0 : 0 < w.heap.size) : Calls Tryd.prog 7 #[.agg v.arr] w fun e w' => e = .returned (.bool true) ∧ Below w.heap.size w w' := by
  have HM0 := Lib.hid hm
  have HW0 := Lib.hid hw0
  clear hm hw0
  have X1 : Hid (Box (w.alloc (.cells v.arr 25)) w.heap.size 25 v.arr) := Lib.hid (heap_alloc_new w _)
  have B1 : Hid (Below w.heap.size w (w.alloc (.cells v.arr 25))) := Lib.hid (below_new w _)
  obtain ⟨w1, hw1⟩ : ∃ q, q = (w.alloc (.cells v.arr 25)) := ⟨_, rfl⟩
  obtain ⟨bx, hbx⟩ : ∃ q, q = w.heap.size := ⟨_, rfl⟩
  have HSW : Hid (w.heap.size ≤ bx) := Lib.hid (by omega)
  rw [← hw1] at X1 B1
  go_enter Tryd.func7, Tryd.ntmps7
  go_upto_region 1 with fail
  rw [← hw1, ← hbx]
  rw [← hbx] at X1
  clear hw1 hbx
  go_upto_region 3 with (go_at_call 9; refine (wakes_any _).mono ?_; rintro e w2 ⟨rfl, hb⟩; have B2 := Lib.hid (bch B1.out hb); have X2 : Hid (Box w2 bx 25 v.arr) := Lib.hid ((hb.block _ (Array.getElem?_eq_some_iff.1 X1.out).1).trans X1.out); clear hb B1 X1)
  go_wp2_with (first
    | (refine wpList_load_row rfl 25 (.tmp 1) rfl bx rfl 25 v.arr (0, 0) _ X2.out Tryd.underlying25 rfl (info25 _) ?_)
    | (go_at_call 10; fail))
  refine (own_case v _).mono ?_
  rintro e w3 ⟨rfl, hb⟩
  have X3 := Lib.hid ((hb.block _ (Array.getElem?_eq_some_iff.1 X2.out).1).trans X2.out)
  obtain ⟨y, hy⟩ : ∃ y, y = v.cut := ⟨_, rfl⟩
  have YD : Hid (y.d.length ≤ 1000) := Lib.hid (by rw [hy]; exact v.cut_d)
  have YF : Hid (y.f.length ≤ 64) := Lib.hid (by rw [hy]; exact v.cut_f)
  have YT : Hid (y.t.length ≤ 64) := Lib.hid (by rw [hy]; exact v.cut_t)
  rw [← hy]
  obtain ⟨w4, hw4⟩ : ∃ q, q = w3.setRow bx y.arr := ⟨_, rfl⟩
  have X4 : Hid (Box w4 bx 25 y.arr) := Lib.hid (by rw [hw4]; exact Boxed.row14 X3.out _)
  have B4 : Hid (Below w.heap.size w w4) := Lib.hid (by rw [hw4]; exact below_row14 (bch B2.out hb) HSW.out _)
  clear hb hy B2 X2
  go_upto_region 4 with (refine wpList_store_row rfl 25 (.tmp 1) (.tmp 12) rfl bx y.arr rfl rfl 25 _ X3.out (info25 _) rfl (carr_one _) ?_)
  rw [← hw4]
  clear hw4 X3
  have x0 : w4.cell? ⟨bx, 0, none⟩ = some (.string ⟨y.d.toArray⟩) := X4.out.cell (k := 0) rfl
  have x1 : w4.cell? ⟨bx, 1, none⟩ = some (.string ⟨y.f.toArray⟩) := X4.out.cell (k := 1) rfl
  have x2 : w4.cell? ⟨bx, 2, none⟩ = some (.string ⟨y.t.toArray⟩) := X4.out.cell (k := 2) rfl
  cases hrf : okB y.f with
  | false =>
    have E1 : Hid (chkI y.f = 240) := Lib.hid (chk_f hrf)
    have E2 := E1
    have N1 : Hid (¬ (okB y.f = true ∧ okB y.t = true)) := Lib.hid (by rw [hrf]; simp)
    have N2 : Hid (¬ (okB y.f = true ∧ okB y.f = true)) := Lib.hid (by rw [hrf]; simp)
    clear hrf
    go_upto_region 5 with (go_at_call 18; refine (move_bad _ _ _ (by have := YD.out; omega) (by have := YF.out; omega) (by have := YT.out; omega) N1.out _).mono ?_; rintro e w5 ⟨rfl, hb⟩; have HB5 := Lib.hid hb; clear hb)
    clear x0 x1 x2
    have X5 : Hid (Box w5 bx 25 y.arr) := Lib.hid ((HB5.out.block _ (Array.getElem?_eq_some_iff.1 X4.out).1).trans X4.out)
    have B5 := Lib.hid (bch B4.out HB5.out)
    have x0 : w5.cell? ⟨bx, 0, none⟩ = some (.string ⟨y.d.toArray⟩) := X5.out.cell (k := 0) rfl
    have x1 : w5.cell? ⟨bx, 1, none⟩ = some (.string ⟨y.f.toArray⟩) := X5.out.cell (k := 1) rfl
    have x2 : w5.cell? ⟨bx, 2, none⟩ = some (.string ⟨y.t.toArray⟩) := X5.out.cell (k := 2) rfl
    go_upto_region 6 with (go_at_call 18; refine (move_bad _ _ _ (by have := YD.out; omega) (by have := YF.out; omega) (by have := YF.out; omega) N2.out _).mono ?_; rintro e w6 ⟨rfl, hb⟩; have HB6 := Lib.hid hb; clear hb)
    clear x0 x1 x2
    have X6 : Hid (Box w6 bx 25 y.arr) := Lib.hid ((HB6.out.block _ (Array.getElem?_eq_some_iff.1 X5.out).1).trans X5.out)
    have B6 := Lib.hid (bch B5.out HB6.out)
    have x0 : w6.cell? ⟨bx, 0, none⟩ = some (.string ⟨y.d.toArray⟩) := X6.out.cell (k := 0) rfl
    have x1 : w6.cell? ⟨bx, 1, none⟩ = some (.string ⟨y.f.toArray⟩) := X6.out.cell (k := 1) rfl
    have x2 : w6.cell? ⟨bx, 2, none⟩ = some (.string ⟨y.t.toArray⟩) := X6.out.cell (k := 2) rfl
    go_wp2_with (go_at_call 13; refine (chk_any _ (by have := YF.out; have := YT.out; omega) _).mono ?_; rintro e w' ⟨rfl, rfl⟩; first | rw [E1.out] | rw [E2.out])
    go_ret
    exact ⟨rfl, B6.out⟩
  | true =>
    have E1 : Hid (chkI y.f = 0) := Lib.hid (chk_t hrf)
    obtain ⟨sf, has⟩ := movL_self y.f y.d
    have HAS := Lib.hid has
    have HF := Lib.hid hrf
    have hf1 := (okB_iff y.f).1 hrf
    have HF1 := Lib.hid hf1.1
    clear hrf has hf1
    cases hrt : okB y.t with
    | false =>
      have E2 : Hid (chkI y.t = 240) := Lib.hid (chk_f hrt)
      have N1 : Hid (¬ (okB y.f = true ∧ okB y.t = true)) := Lib.hid (by rw [hrt]; simp)
      clear hrt
      go_upto_region 5 with (go_at_call 18; refine (move_bad _ _ _ (by have := YD.out; omega) (by have := YF.out; omega) (by have := YT.out; omega) N1.out _).mono ?_; rintro e w5 ⟨rfl, hb⟩; have HB5 := Lib.hid hb; clear hb)
      clear x0 x1 x2
      have X5 : Hid (Box w5 bx 25 y.arr) := Lib.hid ((HB5.out.block _ (Array.getElem?_eq_some_iff.1 X4.out).1).trans X4.out)
      have B5 := Lib.hid (bch B4.out HB5.out)
      have x0 : w5.cell? ⟨bx, 0, none⟩ = some (.string ⟨y.d.toArray⟩) := X5.out.cell (k := 0) rfl
      have x1 : w5.cell? ⟨bx, 1, none⟩ = some (.string ⟨y.f.toArray⟩) := X5.out.cell (k := 1) rfl
      have x2 : w5.cell? ⟨bx, 2, none⟩ = some (.string ⟨y.t.toArray⟩) := X5.out.cell (k := 2) rfl
      go_upto_region 6 with (go_at_call 18; refine (move_some _ _ _ (by have := YD.out; omega) (by have := YF.out; omega) (by have := YF.out; omega) HF.out HF.out HAS.out _).mono ?_; rintro e w6 ⟨a7, c7, rfl, _, hb⟩; have HB6 := Lib.hid hb; clear hb)
      clear x0 x1 x2
      have X6 : Hid (Box w6 bx 25 y.arr) := Lib.hid ((HB6.out.block _ (Array.getElem?_eq_some_iff.1 X5.out).1).trans X5.out)
      have B6 := Lib.hid (bch B5.out HB6.out)
      have x0 : w6.cell? ⟨bx, 0, none⟩ = some (.string ⟨y.d.toArray⟩) := X6.out.cell (k := 0) rfl
      have x1 : w6.cell? ⟨bx, 1, none⟩ = some (.string ⟨y.f.toArray⟩) := X6.out.cell (k := 1) rfl
      have x2 : w6.cell? ⟨bx, 2, none⟩ = some (.string ⟨y.t.toArray⟩) := X6.out.cell (k := 2) rfl
      go_wp2_with (go_at_call 13; refine (chk_any _ (by have := YF.out; have := YT.out; omega) _).mono ?_; rintro e w' ⟨rfl, rfl⟩; first | rw [E1.out] | rw [E2.out])
      go_ret
      exact ⟨rfl, B6.out⟩
    | true =>
      have E2 : Hid (chkI y.t = 0) := Lib.hid (chk_t hrt)
      have HT := Lib.hid hrt
      have ht1 := (okB_iff y.t).1 hrt
      cases hml : movL y.f y.t y.d with
      | none =>
        have EB : Hid (binB y.d = true) := Lib.hid (decide_eq_true (by
          rcases Classical.em (0 ∈ y.d) with h | h
          · exact h
          · unfold movL at hml; rw [if_neg h] at hml; cases hml))
        have tl : decide ((y.t.length : Int) > (y.f.length : Int)) = true := decide_eq_true (by
          rcases Nat.lt_or_ge y.f.length y.t.length with h | h
          · omega
          · exact absurd hml (movL_shrink ht1.1 ht1.2.2 h))
        have HLT : Hid (y.f.length < y.t.length) := Lib.hid (by have := of_decide_eq_true tl; omega)
        have HML := Lib.hid hml
        clear hrt ht1 hml tl
        go_upto_region 5 with (go_at_call 18; refine (move_none _ _ _ (by have := YD.out; omega) (by have := YF.out; omega) (by have := YT.out; omega) HF.out HT.out HML.out _).mono ?_; rintro e w5 ⟨rfl, hb⟩; have HB5 := Lib.hid hb; clear hb)
        clear x0 x1 x2
        have X5 : Hid (Box w5 bx 25 y.arr) := Lib.hid ((HB5.out.block _ (Array.getElem?_eq_some_iff.1 X4.out).1).trans X4.out)
        have B5 := Lib.hid (bch B4.out HB5.out)
        have x0 : w5.cell? ⟨bx, 0, none⟩ = some (.string ⟨y.d.toArray⟩) := X5.out.cell (k := 0) rfl
        have x1 : w5.cell? ⟨bx, 1, none⟩ = some (.string ⟨y.f.toArray⟩) := X5.out.cell (k := 1) rfl
        have x2 : w5.cell? ⟨bx, 2, none⟩ = some (.string ⟨y.t.toArray⟩) := X5.out.cell (k := 2) rfl
        go_upto_region 6 with (go_at_call 18; refine (move_some _ _ _ (by have := YD.out; omega) (by have := YF.out; omega) (by have := YF.out; omega) HF.out HF.out HAS.out _).mono ?_; rintro e w6 ⟨a7, c7, rfl, _, hb⟩; have HB6 := Lib.hid hb; clear hb)
        clear x0 x1 x2
        have X6 : Hid (Box w6 bx 25 y.arr) := Lib.hid ((HB6.out.block _ (Array.getElem?_eq_some_iff.1 X5.out).1).trans X5.out)
        have B6 := Lib.hid (bch B5.out HB6.out)
        have x0 : w6.cell? ⟨bx, 0, none⟩ = some (.string ⟨y.d.toArray⟩) := X6.out.cell (k := 0) rfl
        have x1 : w6.cell? ⟨bx, 1, none⟩ = some (.string ⟨y.f.toArray⟩) := X6.out.cell (k := 1) rfl
        have x2 : w6.cell? ⟨bx, 2, none⟩ = some (.string ⟨y.t.toArray⟩) := X6.out.cell (k := 2) rfl
        go_wp2_with (first | (go_at_call 13; refine (chk_any _ (by have := YF.out; have := YT.out; omega) _).mono ?_; rintro e w' ⟨rfl, rfl⟩; first | rw [E1.out] | rw [E2.out]) | (go_at_call 14; refine (bin_any _ _).mono ?_; rintro e w' ⟨rfl, rfl⟩; rw [EB.out]))
        go_ret
        refine ⟨?_, B6.out⟩
        show Ending.returned (.bool (decide (y.f.length < y.t.length))) = _
        rw [decide_eq_true HLT.out]
      | some z =>
        obtain ⟨o, al⟩ := z
        have hlen := movL_len hml
        have hrun : (lrunsL y.f y.d).length = al.length := by rw [lruns_is _ _ HF1.out, movL_count hml]
        have hroom := fun h0 => movL_room HF1.out hml h0
        have HSAME := Lib.hid (fun h : al = [] => movL_same hml h)
        have HML := Lib.hid hml
        have HLEN := Lib.hid hlen
        have HROOM := Lib.hid hroom
        have HRUN := Lib.hid hrun
        clear hrt ht1 hml hlen hroom hrun
        go_upto_region 5 with (go_at_call 18; refine (move_some _ _ _ (by have := YD.out; omega) (by have := YF.out; omega) (by have := YT.out; omega) HF.out HT.out HML.out _).mono ?_; rintro e w5 ⟨a4, c4, rfl, _, hb⟩; have HB5 := Lib.hid hb; clear hb)
        clear x0 x1 x2
        have X5 : Hid (Box w5 bx 25 y.arr) := Lib.hid ((HB5.out.block _ (Array.getElem?_eq_some_iff.1 X4.out).1).trans X4.out)
        have B5 := Lib.hid (bch B4.out HB5.out)
        have x0 : w5.cell? ⟨bx, 0, none⟩ = some (.string ⟨y.d.toArray⟩) := X5.out.cell (k := 0) rfl
        have x1 : w5.cell? ⟨bx, 1, none⟩ = some (.string ⟨y.f.toArray⟩) := X5.out.cell (k := 1) rfl
        have x2 : w5.cell? ⟨bx, 2, none⟩ = some (.string ⟨y.t.toArray⟩) := X5.out.cell (k := 2) rfl
        go_upto_region 6 with (go_at_call 18; refine (move_some _ _ _ (by have := YD.out; omega) (by have := YF.out; omega) (by have := YF.out; omega) HF.out HF.out HAS.out _).mono ?_; rintro e w6 ⟨a7, c7, rfl, _, hb⟩; have HB6 := Lib.hid hb; clear hb)
        clear x0 x1 x2
        have X6 : Hid (Box w6 bx 25 y.arr) := Lib.hid ((HB6.out.block _ (Array.getElem?_eq_some_iff.1 X5.out).1).trans X5.out)
        have B6 := Lib.hid (bch B5.out HB6.out)
        have x0 : w6.cell? ⟨bx, 0, none⟩ = some (.string ⟨y.d.toArray⟩) := X6.out.cell (k := 0) rfl
        have x1 : w6.cell? ⟨bx, 1, none⟩ = some (.string ⟨y.f.toArray⟩) := X6.out.cell (k := 1) rfl
        have x2 : w6.cell? ⟨bx, 2, none⟩ = some (.string ⟨y.t.toArray⟩) := X6.out.cell (k := 2) rfl
        have hm6 : w6.cell? ⟨0, 0, none⟩ = some (.int .i64 m) := (B6.out.cell (p := ⟨0, 0, none⟩) HW0.out).trans HM0.out
        have HR : Hid (∀ e w', LRunsR y.f y.d w6 e w' → ∃ a c, e = .returned (.slice a al.length c) ∧ Below w6.heap.size w6 w') := Lib.hid (by
          rintro e w' ⟨v9, rfl, ho, hb⟩
          obtain ⟨a, c, rfl⟩ := own_slice ho
          exact ⟨a, c, by rw [HRUN.out], hb⟩)
        have HRC := Lib.hid ((lruns_any y.d y.f HF.out (by have := YD.out; omega) m w6 hm6).mono HR.out)
        clear hm6 HR
        obtain ⟨n, hn⟩ : ∃ n, n = al.length := ⟨_, rfl⟩
        have HN := Lib.hid hn
        rw [← hn] at HRC ⊢
        clear hn
        go_upto_region 10 with (go_at_call 13; refine (chk_any _ (by have := YF.out; have := YT.out; omega) _).mono ?_; rintro e w' ⟨rfl, rfl⟩; first | rw [E1.out] | rw [E2.out])
        have tn : ((n : Int) != (n : Int)) = false := by simp
        by_cases hn0 : n = 0
        · obtain rfl : o = y.d := HSAME.out (List.length_eq_zero_iff.1 (by rw [← HN.out]; exact hn0))
          subst hn0
          go_upto_region 12 with (go_at_call 26; refine HRC.out.mono ?_; rintro e w7 ⟨a9, c9, rfl, hb⟩; have HB7 := Lib.hid hb; clear hb x0 x1 x2; have X7 : Hid (Box w7 bx 25 y.arr) := Lib.hid ((HB7.out.block _ (Array.getElem?_eq_some_iff.1 X6.out).1).trans X6.out); have B7 := Lib.hid (bch B6.out HB7.out); have x0 : w7.cell? ⟨bx, 0, none⟩ = some (.string ⟨y.d.toArray⟩) := X7.out.cell (k := 0) rfl; have x1 : w7.cell? ⟨bx, 1, none⟩ = some (.string ⟨y.f.toArray⟩) := X7.out.cell (k := 1) rfl; have x2 : w7.cell? ⟨bx, 2, none⟩ = some (.string ⟨y.t.toArray⟩) := X7.out.cell (k := 2) rfl)
          cases hbn : binB y.d with
          | true =>
            have EB := Lib.hid hbn
            clear hbn
            go_wp2_with (go_at_call 14; refine (bin_any _ _).mono ?_; rintro e w' ⟨rfl, rfl⟩; rw [EB.out])
            go_ret
            exact ⟨by simp, B7.out⟩
          | false =>
            have EB := Lib.hid hbn
            clear hbn
            have w1' : IntKind.i64.wrap ((y.t.length : Int) - (y.f.length : Int)) = (y.t.length : Int) - (y.f.length : Int) := IntWalk.i64_in _ (by have := YF.out; have := YT.out; omega)
            have w2' : IntKind.i64.wrap (0 : Int) = 0 := by decide
            have w3' : IntKind.i64.wrap (y.d.length : Int) = (y.d.length : Int) := IntWalk.i64_in _ (by have := YD.out; omega)
            go_wp2_with (go_at_call 14; refine (bin_any _ _).mono ?_; rintro e w' ⟨rfl, rfl⟩; rw [EB.out])
            go_ret
            exact ⟨by simp, B7.out⟩
        · have tz : ((n : Int) == 0) = false := by rw [beq_eq_false_iff_ne]; omega
          go_upto_region 12 with (go_at_call 26; refine HRC.out.mono ?_; rintro e w7 ⟨a9, c9, rfl, hb⟩; have HB7 := Lib.hid hb; clear hb x0 x1 x2; have X7 : Hid (Box w7 bx 25 y.arr) := Lib.hid ((HB7.out.block _ (Array.getElem?_eq_some_iff.1 X6.out).1).trans X6.out); have B7 := Lib.hid (bch B6.out HB7.out); have x0 : w7.cell? ⟨bx, 0, none⟩ = some (.string ⟨y.d.toArray⟩) := X7.out.cell (k := 0) rfl; have x1 : w7.cell? ⟨bx, 1, none⟩ = some (.string ⟨y.f.toArray⟩) := X7.out.cell (k := 1) rfl; have x2 : w7.cell? ⟨bx, 2, none⟩ = some (.string ⟨y.t.toArray⟩) := X7.out.cell (k := 2) rfl)
          cases hbn : binB y.d with
          | true =>
            have EB := Lib.hid hbn
            have tl : ((o.length : Int) == (y.d.length : Int)) = true := by rw [(HLEN.out).1 (of_decide_eq_true hbn)]; simp
            clear hbn
            go_wp2_with (go_at_call 14; refine (bin_any _ _).mono ?_; rintro e w' ⟨rfl, rfl⟩; rw [EB.out])
            go_ret
            exact ⟨rfl, B7.out⟩
          | false =>
            have EB := Lib.hid hbn
            have h0 : 0 ∉ y.d := of_decide_eq_false hbn
            have h1 := (HLEN.out).2 h0
            have h2 := HROOM.out h0
            rw [← HN.out] at h1 h2
            have h3 : n * y.t.length ≤ 1000 * 64 := Nat.mul_le_mul (by have := YD.out; omega) YT.out
            have h4 : n * y.f.length ≤ 1000 * 64 := Nat.mul_le_mul (by have := YD.out; omega) YF.out
            have h5 : (n : Int) * ((y.t.length : Int) - (y.f.length : Int)) = (o.length : Int) - (y.d.length : Int) := by
              rw [Int.mul_sub]
              have e1 : (n : Int) * (y.t.length : Int) = ((n * y.t.length : Nat) : Int) := by simp
              have e2 : (n : Int) * (y.f.length : Int) = ((n * y.f.length : Nat) : Int) := by simp
              rw [e1, e2]
              omega
            have w1' : IntKind.i64.wrap ((y.t.length : Int) - (y.f.length : Int)) = (y.t.length : Int) - (y.f.length : Int) := IntWalk.i64_in _ (by have := YF.out; have := YT.out; omega)
            have w2' : IntKind.i64.wrap ((n : Int) * ((y.t.length : Int) - (y.f.length : Int))) = (o.length : Int) - (y.d.length : Int) := by rw [h5]; exact IntWalk.i64_in _ (by have := YD.out; omega)
            have w3' : IntKind.i64.wrap ((y.d.length : Int) + ((o.length : Int) - (y.d.length : Int))) = (o.length : Int) := by rw [IntWalk.i64_in _ (by have := YD.out; omega)]; omega
            have tq : ((o.length : Int) == (o.length : Int)) = true := by simp
            clear hbn h0 h1 h2 h3 h4 h5
            go_wp2_with (go_at_call 14; refine (bin_any _ _).mono ?_; rintro e w' ⟨rfl, rfl⟩; rw [EB.out])
            go_ret
            exact ⟨rfl, B7.out⟩
end Go.Proofs.YtophihnjlodmjaaDoor
