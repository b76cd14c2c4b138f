/- Proved here: RelocBack of the laws of package reloc answers true. -/
import Derived.Test.YtophihnjlodmjaaDoorLong
import Derived.Deep.QuietTactic
import Derived.RegionTactic
namespace Go.Proofs.YtophihnjlodmjaaDoor
open Go.RowKit Go.Shelf
attribute [local go_sem] Oper.semAt_some

theorem bin_flip (l : Bs) (w : World) : Calls Tryd.prog 14 #[.string ⟨l.toArray⟩] w fun e w' => e = .returned (.bool (binB l)) ∧ w' = w := (bin_any l w).mono fun _ _ ⟨h1, h2⟩ => ⟨h1, h2.symm⟩
theorem Box.to14 {w w' : World} {g : Nat} {t : TypeId} {cs : Array Value} (h : Box w g t cs) (hb : Below w.heap.size w w') : Box w' g t cs := (hb.block g h.lt).trans h
theorem hp_of {s p : List UInt8} (h : p <+: s) : Lib.hasPrefix s p = true := by
  rw [← Lib.hasPrefix_of_take]
  obtain ⟨r, rfl⟩ := h
  simp
theorem pre_ext {t o : Bs} {i : Nat} (h : t <+: o.drop i) : (⟨t.toArray⟩ : ByteArray).data.toList <+: ((⟨o.toArray⟩ : ByteArray).extract i (⟨o.toArray⟩ : ByteArray).size).data.toList := by
  rw [Lib.extract_to_end]; exact h

set_option maxRecDepth 100000 in
set_option maxHeartbeats 8000000 in
theorem back_law (v : Cs) (m : Int) (w : World) (hm : w.cell? ⟨0, 0, none⟩ = some (.int .i64 m)) (hw0 : 0 < w.heap.size) : Calls Tryd.prog 6 #[.agg v.arr] w fun e w' => e = .returned (.bool true) ∧ Below w.heap.size w w' := by
  have HM0 := Lib.hid hm
  have HW0 := Lib.hid hw0
  clear hm hw0
  have X1 : Hid (Box (w.alloc (.cells v.arr 25)) w.heap.size 25 v.arr) := Lib.hid (heap_alloc_new w _)
  have B1 : Hid (Below w.heap.size w (w.alloc (.cells v.arr 25))) := Lib.hid (below_new w _)
  obtain ⟨w1, hw1⟩ : ∃ q, q = (w.alloc (.cells v.arr 25)) := ⟨_, rfl⟩
  obtain ⟨bx, hbx⟩ : ∃ q, q = w.heap.size := ⟨_, rfl⟩
  have HSW : Hid (w.heap.size ≤ bx) := Lib.hid (by omega)
  rw [← hw1] at X1 B1
  go_enter Tryd.func6, Tryd.ntmps6
  go_upto_region 1 with fail
  rw [← hw1, ← hbx]
  rw [← hbx] at X1
  clear hw1 hbx
  go_upto_region 3 with (go_at_call 9; refine (wakes_any _).mono ?_; rintro e w2 ⟨rfl, hb⟩; have B2 := Lib.hid (bch B1.out hb); have X2 : Hid (Box w2 bx 25 v.arr) := Lib.hid ((hb.block _ (Array.getElem?_eq_some_iff.1 X1.out).1).trans X1.out); clear hb B1 X1)
  go_wp2_with (first
    | (refine wpList_load_row rfl 25 (.tmp 1) rfl bx rfl 25 v.arr (0, 0) _ X2.out Tryd.underlying25 rfl (info25 _) ?_)
    | (go_at_call 10; fail))
  refine (own_case v _).mono ?_
  rintro e w3 ⟨rfl, hb⟩
  have X3 := Lib.hid ((hb.block _ (Array.getElem?_eq_some_iff.1 X2.out).1).trans X2.out)
  obtain ⟨y, hy⟩ : ∃ y, y = v.cut := ⟨_, rfl⟩
  have YD : Hid (y.d.length ≤ 1000) := Lib.hid (by rw [hy]; exact v.cut_d)
  have YF : Hid (y.f.length ≤ 64) := Lib.hid (by rw [hy]; exact v.cut_f)
  have YT : Hid (y.t.length ≤ 64) := Lib.hid (by rw [hy]; exact v.cut_t)
  rw [← hy]
  obtain ⟨w4, hw4⟩ : ∃ q, q = w3.setRow bx y.arr := ⟨_, rfl⟩
  have X4 : Hid (Box w4 bx 25 y.arr) := Lib.hid (by rw [hw4]; exact Boxed.row14 X3.out _)
  have B4 : Hid (Below w.heap.size w w4) := Lib.hid (by rw [hw4]; exact below_row14 (bch B2.out hb) HSW.out _)
  clear hb hy B2 X2
  go_upto_region 4 with (refine wpList_store_row rfl 25 (.tmp 1) (.tmp 13) rfl bx y.arr rfl rfl 25 _ X3.out (info25 _) rfl (carr_one _) ?_)
  rw [← hw4]
  clear hw4 X3
  have x0 : w4.cell? ⟨bx, 0, none⟩ = some (.string ⟨y.d.toArray⟩) := X4.out.cell (k := 0) rfl
  have x1 : w4.cell? ⟨bx, 1, none⟩ = some (.string ⟨y.f.toArray⟩) := X4.out.cell (k := 1) rfl
  have x2 : w4.cell? ⟨bx, 2, none⟩ = some (.string ⟨y.t.toArray⟩) := X4.out.cell (k := 2) rfl
  by_cases hok : okB y.f = true ∧ okB y.t = true
  · have HF := Lib.hid hok.1
    have HT := Lib.hid hok.2
    have hf1 := (okB_iff y.f).1 hok.1
    have ht1 := (okB_iff y.t).1 hok.2
    clear hok
    cases hml : movL y.f y.t y.d with
    | none =>
      have HML := Lib.hid hml
      clear hf1 ht1 hml
      go_wp2_with (go_at_call 18; refine (move_none _ _ _ (by have := YD.out; omega) (by have := YF.out; omega) (by have := YT.out; omega) HF.out HT.out HML.out _).mono ?_; rintro e w5 ⟨rfl, hb⟩; have HB5 := Lib.hid hb; clear hb)
      go_ret
      exact ⟨rfl, bch B4.out HB5.out⟩
    | some z =>
      obtain ⟨o, al⟩ := z
      have hbin := movL_bin ht1.2.2 hml
      have HBI : Hid (binB o = binB y.d) := Lib.hid (by unfold binB; exact decide_eq_decide.2 hbin)
      have hat := movL_at hml
      have HAT := Lib.hid hat
      have HBK := Lib.hid (fun h : runPl y.t o = al => movL_back ht1.1 ht1.2.2 hml h)
      have HRP : Hid (lrunsL y.t o = runPl y.t o) := Lib.hid (lruns_is _ _ ht1.1)
      have HT1 := Lib.hid ht1.1
      have OL : Hid (o.length ≤ 65000) := Lib.hid (by
        have hl := movL_len hml
        have hd := YD.out
        rcases Classical.em (0 ∈ y.d) with h | h
        · have := hl.1 h; omega
        · have h1 := hl.2 h
          have h2 := movL_room hf1.1 hml h
          have h3 : al.length * y.t.length ≤ 1000 * 64 := Nat.mul_le_mul (by omega) YT.out
          omega)
      have HML := Lib.hid hml
      clear hf1 ht1 hml hbin hat
      go_upto_region 5 with (go_at_call 18; refine (move_some _ _ _ (by have := YD.out; omega) (by have := YF.out; omega) (by have := YT.out; omega) HF.out HT.out HML.out _).mono ?_; rintro e w5 ⟨a4, c4, rfl, ho, hb⟩; have HO5 := Lib.hid ho; have HB5 := Lib.hid hb; clear ho hb)
      clear x0 x1 x2
      have X5 : Hid (Box w5 bx 25 y.arr) := Lib.hid ((HB5.out.block _ (Array.getElem?_eq_some_iff.1 X4.out).1).trans X4.out)
      have B5 := Lib.hid (bch B4.out HB5.out)
      have x0 : w5.cell? ⟨bx, 0, none⟩ = some (.string ⟨y.d.toArray⟩) := X5.out.cell (k := 0) rfl
      have x1 : w5.cell? ⟨bx, 1, none⟩ = some (.string ⟨y.f.toArray⟩) := X5.out.cell (k := 1) rfl
      have x2 : w5.cell? ⟨bx, 2, none⟩ = some (.string ⟨y.t.toArray⟩) := X5.out.cell (k := 2) rfl
      obtain ⟨n, hn⟩ : ∃ n, n = al.length := ⟨_, rfl⟩
      have HN := Lib.hid hn
      rw [← hn] at HO5 ⊢
      clear hn
      go_upto_region 7 with fail
      go_quiet ((go_at_call 14; exact Calls.quiet_of_same (bin_flip _ _)))
      have tb : (binB o == binB y.d) = true := by rw [HBI.out]; simp
      rw [tb]
      clear tb
      obtain ⟨w6, hw6⟩ : ∃ q, q = w5.drewN nq := ⟨_, rfl⟩
      rw [← hw6]
      have HB6 : Hid (Below w5.heap.size w5 w6) := Lib.hid (by rw [hw6]; exact below_drewN (Below.refl _ _) _)
      clear hw6
      clear x0 x1 x2
      have X6 : Hid (Box w6 bx 25 y.arr) := Lib.hid ((HB6.out.block _ (Array.getElem?_eq_some_iff.1 X5.out).1).trans X5.out)
      have B6 := Lib.hid (bch B5.out HB6.out)
      have x0 : w6.cell? ⟨bx, 0, none⟩ = some (.string ⟨y.d.toArray⟩) := X6.out.cell (k := 0) rfl
      have x1 : w6.cell? ⟨bx, 1, none⟩ = some (.string ⟨y.f.toArray⟩) := X6.out.cell (k := 1) rfl
      have x2 : w6.cell? ⟨bx, 2, none⟩ = some (.string ⟨y.t.toArray⟩) := X6.out.cell (k := 2) rfl
      have HR6 : Hid (Rd w6 (.slice a4 n c4) (natsV al)) := Lib.hid (Rd.of_own (owns_on HO5.out HB6.out))
      have hc4 : n ≤ c4 ∧ c4 ≤ 9223372036854775807 := by
        obtain ⟨a', c', e, h1, h2⟩ := HR6.out.numShape
        cases e
        rw [HN.out]
        exact ⟨h1, h2⟩
      obtain ⟨hc41, hc42⟩ := hc4
      go_wp2_with fail
      go_loopw [42] (fun i wr => ∃ k : Nat, i = .int .i64 (k : Int) ∧ k ≤ n ∧ Hid (Below w6.heap.size w6 wr)) (fun i _ => n - (Lib.intOf i).toNat)
      case atStart => exact ⟨0, rfl, Nat.zero_le _, Lib.hid (Below.refl _ _)⟩
      case round =>
        obtain ⟨k, rfl, hk, HB⟩ := hrel
        clear x0 x1 x2
        have x0 : wr.cell? ⟨bx, 0, none⟩ = some (.string ⟨y.d.toArray⟩) := (X6.out.to14 HB.out).cell (k := 0) rfl
        have x1 : wr.cell? ⟨bx, 1, none⟩ = some (.string ⟨y.f.toArray⟩) := (X6.out.to14 HB.out).cell (k := 1) rfl
        have x2 : wr.cell? ⟨bx, 2, none⟩ = some (.string ⟨y.t.toArray⟩) := (X6.out.to14 HB.out).cell (k := 2) rfl
        by_cases hlt : k < n
        · have hkp : k < al.length := by rw [← HN.out]; exact hlt
          obtain ⟨q, hq⟩ : ∃ q, q = al[k] := ⟨_, rfl⟩
          obtain ⟨g4, o4, rfl, hg4, e4⟩ := (Rd.on HR6.out HB.out).numAt hkp
          rw [← hq] at e4
          have hpre := HAT.out q (by rw [hq]; exact List.getElem_mem hkp)
          have hql : q + y.t.length ≤ o.length := by
            have := hpre.length_le
            rw [List.length_drop] at this
            have := HT1.out
            omega
          have q0 : (0 : Int) ≤ (q : Int) := by omega
          have q1 : (q : Int) ≤ (o.length : Int) := by omega
          have k4 : IntKind.i64.wrap ((k : Int) + 1) = (k : Int) + 1 := IntWalk.i64_in _ (by omega)
          have k1 : (k : Int) < (n : Int) := by omega
          have HPX : Hid (∀ X : World, Calls Tryd.prog 25 #[.string ((⟨o.toArray⟩ : ByteArray).extract q (⟨o.toArray⟩ : ByteArray).size), .string ⟨y.t.toArray⟩] X fun e w' => e = .returned (.bool true) ∧ w' = X) := Lib.hid (fun X => (Tryd.strings_HasPrefix _ _ X).mono (by
            rintro e w' ⟨h1, h2⟩
            refine ⟨?_, h2⟩
            rw [h1, hp_of (pre_ext hpre)]))
          clear hq hpre hkp
          go_upto_region 12 with fail
          go_quiet ((go_at_call 25; exact Calls.quiet_of_same (HPX.out _)))
          have HBQ : ∀ z, Hid (Below w6.heap.size w6 (wr.drewN z)) := fun z => Lib.hid (below_drewN HB.out z)
          go_wp2
          go_roundw
          case rel => exact ⟨k + 1, by go_num, by omega, HBQ _⟩
          case measure => simp [Lib.intOf]; omega
        · obtain rfl : k = n := by omega
          have hmr : wr.cell? ⟨0, 0, none⟩ = some (.int .i64 m) := ((bch B6.out HB.out).cell (p := ⟨0, 0, none⟩) HW0.out).trans HM0.out
          have HRC : Hid (Calls Tryd.prog 26 #[.string ⟨o.toArray⟩, .string ⟨y.t.toArray⟩] wr fun e w' => ∃ a c, e = .returned (.slice a (lrunsL y.t o).length c) ∧ Rd w' (.slice a (lrunsL y.t o).length c) (natsV (lrunsL y.t o)) ∧ Below wr.heap.size wr w') := Lib.hid ((lruns_any o y.t HT.out (by have := OL.out; omega) m wr hmr).mono (by
            rintro e w' ⟨v9, rfl, ho, hb⟩
            obtain ⟨a, c, rfl⟩ := own_slice ho
            exact ⟨a, c, rfl, Rd.of_own ho, hb⟩))
          clear hmr
          obtain ⟨L, hL⟩ : ∃ L, L = lrunsL y.t o := ⟨_, rfl⟩
          have HL := Lib.hid hL
          rw [← hL] at HRC
          clear hL
          obtain ⟨nL, hnL⟩ : ∃ nL, nL = L.length := ⟨_, rfl⟩
          rw [← hnL] at HRC
          clear hnL
          have HB16 := Lib.hid (bch B6.out HB.out)
          have HR16 := Lib.hid (Rd.on HR6.out HB.out)
          have X16 := Lib.hid (X6.out.to14 HB.out)
          cases heq : eqB L al with
          | false =>
            have HEQ := Lib.hid heq
            clear heq
            go_wp2_with (first
              | (go_at_call 26; refine HRC.out.mono ?_; rintro e w7 ⟨a9, c9, rfl, hr7, hb⟩; have HB7 := Lib.hid hb; have HR7 := Lib.hid hr7; clear hb hr7)
              | (go_at_call 16; refine (eqn_any L al _ _ _ HR7.out (Rd.on HR16.out HB7.out)).mono ?_; rintro e w8 ⟨rfl, hb⟩; rw [HEQ.out]; have HB8 := Lib.hid (bch (bch HB16.out HB7.out) hb); clear hb))
            go_ret
            exact ⟨rfl, HB8.out⟩
          | true =>
            obtain ⟨sb, hsb⟩ := HBK.out (by rw [← HRP.out, ← HL.out]; exact of_decide_eq_true heq)
            have HSB := Lib.hid hsb
            have HEQ := Lib.hid heq
            clear heq hsb
            go_upto_region 17 with (first
              | (go_at_call 26; refine HRC.out.mono ?_; rintro e w7 ⟨a9, c9, rfl, hr7, hb⟩; have HB7 := Lib.hid hb; have HR7 := Lib.hid hr7; clear hb hr7)
              | (go_at_call 16; refine (eqn_any L al _ _ _ HR7.out (Rd.on HR16.out HB7.out)).mono ?_; rintro e w8 ⟨rfl, hb⟩; rw [HEQ.out]; have HB8 := Lib.hid (bch (bch HB16.out HB7.out) hb); have X8 := Lib.hid ((X16.out.to14 HB7.out).to14 hb); clear hb))
            clear x0 x1 x2
            have x0 : w8.cell? ⟨bx, 0, none⟩ = some (.string ⟨y.d.toArray⟩) := X8.out.cell (k := 0) rfl
            have x1 : w8.cell? ⟨bx, 1, none⟩ = some (.string ⟨y.f.toArray⟩) := X8.out.cell (k := 1) rfl
            have x2 : w8.cell? ⟨bx, 2, none⟩ = some (.string ⟨y.t.toArray⟩) := X8.out.cell (k := 2) rfl
            go_upto_region 18 with (go_at_call 18; refine (move_some _ _ _ (by have := OL.out; omega) (by have := YT.out; omega) (by have := YF.out; omega) HT.out HF.out HSB.out _).mono ?_; rintro e w9 ⟨a9, c9, rfl, _, hb⟩; have HB9 := Lib.hid hb; clear hb)
            clear x0 x1 x2
            have X9 := Lib.hid (X8.out.to14 HB9.out)
            have x0 : w9.cell? ⟨bx, 0, none⟩ = some (.string ⟨y.d.toArray⟩) := X9.out.cell (k := 0) rfl
            go_wp2
            go_ret
            exact ⟨rfl, bch HB8.out HB9.out⟩
  · have N1 := Lib.hid hok
    clear hok
    go_wp2_with (go_at_call 18; refine (move_bad _ _ _ (by have := YD.out; omega) (by have := YF.out; omega) (by have := YT.out; omega) N1.out _).mono ?_; rintro e w5 ⟨rfl, hb⟩; have HB5 := Lib.hid hb; clear hb)
    go_ret
    exact ⟨rfl, bch B4.out HB5.out⟩
end Go.Proofs.YtophihnjlodmjaaDoor
