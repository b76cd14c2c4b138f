/- Proved here: digits and Text of puncheonref04, the latter at a version that may be. -/
import Derived.Test.YtjekibhaabkecaaDoorPure
import Derived.Test.YtjekibhaabkecaaDoorRefC
namespace Go.Proofs.YtjekibhaabkecaaDoor
open Go.RowKit Go.Shelf

theorem cat_b (a b : Str) : ofB (a ++ b) = ofB a ++ ofB b := by
  apply ByteArray.ext
  simp [ofB, ByteArray.data_append]
theorem dig_lit (n : Nat) : ((UInt8.ofNat (48 + n % 10)).toNat : Int) = 48 + (n : Int) % 10 := by
  rw [digit_nat (Nat.mod_lt _ (by omega))]
  omega
theorem addr_at (b j : Nat) : (⟨b, 0, none⟩ : Addr).add j = ⟨b, j, none⟩ := by
  unfold Addr.add
  split <;> simp_all
def Digs (n : Nat) : Prop := ∀ W, Calls Tryd.prog 32 #[.int .i64 (n : Int)] W fun e w' => e = .returned (.string (ofB (Lib.decDigits n))) ∧ Below W.heap.size W w'

set_option maxRecDepth 100000 in
set_option maxHeartbeats 1000000 in
theorem rdigits_any (n : Nat) (hn : n ≤ 9999) : Digs n := by
  induction n using Nat.strongRecOn with
  | ind n ih =>
    intro w
    obtain ⟨c, hc⟩ : ∃ c, c = UInt8.ofNat (48 + n % 10) := ⟨_, rfl⟩
    have hcv : (convert 62 9 (.slice (some ⟨w.heap.size, 0, none⟩) 1 1)).run Tryd.prog (w.alloc (.cells #[.int .u8 (48 + (n : Int) % 10)] 5)) = .ok (.string ⟨#[c]⟩) (w.alloc (.cells #[.int .u8 (48 + (n : Int) % 10)] 5)) := by
      refine run_convert_bytes_back (P := Tryd.prog) _ 62 9 5 ⟨w.heap.size, 0, none⟩ 1 [c] Tryd.underlying62 Tryd.underlying5 Tryd.underlying9 (fun j hj => ?_)
      have : j = 0 := by simpa using hj
      subst this
      rw [addr_at, World.cell?_alloc_new]
      simp only [List.getElem_cons_zero]
      rw [hc, dig_lit]
      rfl
    have hm0 : (0 : Int) ≤ (n : Int) % 10 := by omega
    have hm1 : (n : Int) % 10 ≤ 9 := by omega
    have hb0 := below_new w (.cells #[.int .u8 (48 + (n : Int) % 10)] 5)
    have r0 : (n : Int).tmod 10 = (n : Int) % 10 := Int.tmod_eq_emod_of_nonneg (by omega)
    have r1 : (n : Int).tdiv 10 = ((n / 10 : Nat) : Int) := by rw [Int.tdiv_eq_ediv_of_nonneg (by omega)]; omega
    have r2 : IntKind.i64.wrap (48 + (n : Int) % 10) = 48 + (n : Int) % 10 := IntWalk.i64_in _ (by omega)
    by_cases h : n < 10
    · have HD : Hid (ofB (Lib.decDigits n) = ⟨#[c]⟩) := Lib.hid (by rw [Lib.decDigits_one h, hc, Nat.mod_eq_of_lt h]; rfl)
      rw [HD.out]
      have t1 : decide ((n : Int) ≥ 10) = false := decide_eq_false (by omega)
      have t2 : decide ((10 : Int) ≤ (n : Int)) = false := decide_eq_false (by omega)
      clear ih hc
      go_enter Tryd.func32, Tryd.ntmps32
      go_wp2_with fail
      go_ret
      exact ⟨rfl, hb0⟩
    · have HD : Hid (ofB (Lib.decDigits n) = ofB (Lib.decDigits (n / 10)) ++ ⟨#[c]⟩) := Lib.hid (by rw [dec_big h, cat_b, hc]; rfl)
      rw [HD.out]
      have t1 : decide ((n : Int) ≥ 10) = true := decide_eq_true (by omega)
      have t2 : decide ((10 : Int) ≤ (n : Int)) = true := decide_eq_true (by omega)
      have hl : (ofB (Lib.decDigits (n / 10))).size ≤ 4 := nD_le (n / 10) (by omega)
      have HI := Lib.hid (ih (n / 10) (by omega) (by omega))
      clear ih hc
      go_enter Tryd.func32, Tryd.ntmps32
      go_wp2_with fail
      refine (HI.out _).mono ?_
      rintro e w1 ⟨rfl, hb1⟩
      go_wp2_with fail
      go_ret
      exact ⟨rfl, bch hb0 hb1⟩

theorem digs_of {x : Int} (h0 : 0 ≤ x) (h9 : x ≤ 9999) (W : World) : Calls Tryd.prog 32 #[.int .i64 x] W fun e w' => e = .returned (.string (ofB (Lib.decDigits x.toNat))) ∧ Below W.heap.size W w' := by
  have := rdigits_any x.toNat (by omega) W
  rw [show ((x.toNat : Nat) : Int) = x by omega] at this
  exact this
theorem size_ofB (l : Str) : (ofB l).size = l.length := rfl

set_option maxRecDepth 100000 in
set_option maxHeartbeats 4000000 in
theorem rtext_any (v : Ver) (hv : v.ok = true) (w : World) : Calls Tryd.prog 16 #[.agg v.arr] w fun e w' => e = .returned (.string (ofB v.text)) ∧ Below w.heap.size w w' := by
  obtain ⟨hm1, hm4⟩ := ok_many hv
  obtain ⟨k, hk⟩ : ∃ k : Nat, v.many = (k : Int) := ⟨v.many.toNat, by omega⟩
  have hnum : ∀ j, j < k → 0 ≤ v.num j ∧ v.num j ≤ 9999 := fun j hj => ok_num hv (by omega)
  have X0 : Box (w.alloc (.cells v.arr 26)) w.heap.size 26 v.arr := box_new
  have HB0 : Hid (Box (w.alloc (.cells v.arr 26)) w.heap.size 26 v.arr ∧ Below w.heap.size w (w.alloc (.cells v.arr 26))) := Lib.hid ⟨X0, below_new _ _⟩
  have c4 : (w.alloc (.cells v.arr 26)).cell? ⟨w.heap.size, 4, none⟩ = some (.int .i64 (k : Int)) := by rw [← hk]; exact X0.ver.c4
  have HNUM := Lib.hid hnum
  have hk4 : k ≤ 4 := by omega
  have HLEN : Hid (∀ j, j ≤ k → (dotsL v.num j).length ≤ 20) := Lib.hid (fun j hj => by
    have := dots_len v.num j (fun i hi => hnum i (by omega))
    omega)
  have HV := Lib.hid hv
  have HK := Lib.hid hk
  clear X0 hnum hv hm1 hm4 hk
  go_enter Tryd.func16, Tryd.ntmps16
  go_wp2_with fail
  go_loopw [3, 4, 7, 8, 9, 10, 11, 12, 13, 14, 15, 16, 17, 18, 19, 20, 21] (fun s _ i _ _ _ _ _ _ _ _ _ _ _ _ _ _ W => ∃ (j : Nat) (b : ByteArray), j ≤ k ∧ i = .int .i64 j ∧ s = .string b ∧ Hid (b = ofB (dotsL v.num j)) ∧ Hid (Box W w.heap.size 26 v.arr ∧ Below w.heap.size w W)) (fun _ _ i _ _ _ _ _ _ _ _ _ _ _ _ _ _ _ => k - (Lib.intOf i).toNat)
  case atStart => exact ⟨0, ⟨#[]⟩, Nat.zero_le _, rfl, rfl, Lib.hid rfl, HB0⟩
  case round =>
    obtain ⟨j, b, hj, rfl, rfl, HB, HX⟩ := hrel
    have hbs : b.size ≤ 20 := by rw [HB.out, size_ofB]; exact HLEN.out j hj
    by_cases hlt : j < k
    · have j1 : (j : Int) < (k : Int) := by omega
      have j2 : (0 : Int) ≤ (j : Int) := by omega
      have j3 : (j : Int) < 4 := by omega
      have j4 : IntKind.i64.wrap ((j : Int) + 1) = (j : Int) + 1 := IntWalk.i64_in _ (by omega)
      have cj := HX.out.1.ver.num (k := j) (by omega)
      obtain ⟨x, hx⟩ : ∃ x, x = v.num j := ⟨_, rfl⟩
      rw [← hx] at cj
      have hxb := HNUM.out j hlt
      rw [← hx] at hxb
      have HD := Lib.hid (digs_of hxb.1 hxb.2)
      have hdl : (ofB (Lib.decDigits x.toNat)).size ≤ 4 := nD_le x.toNat (by omega)
      have HS : Hid (ofB (dotsL v.num (j + 1)) = b ++ (if j = 0 then ⟨#[]⟩ else ⟨#[46]⟩) ++ ofB (Lib.decDigits x.toNat)) := Lib.hid (by
        rw [dotsL, cat_b, cat_b, ← hx, HB.out]
        split <;> rfl)
      clear hx hxb
      by_cases h0 : j = 0
      · subst h0
        have e0 : b ++ (⟨#[]⟩ : ByteArray) = b := by apply ByteArray.ext; simp [ByteArray.data_append]
        have HS2 : Hid (ofB (dotsL v.num (0 + 1)) = b ++ ofB (Lib.decDigits x.toNat)) := Lib.hid (by rw [HS.out, if_pos rfl, e0])
        clear HS e0
        go_wp2_with fail
        refine (HD.out _).mono ?_
        rintro e w1 ⟨rfl, hb⟩
        have H1 : Hid (Box w1 w.heap.size 26 v.arr ∧ Below w.heap.size w w1) := Lib.hid ⟨HX.out.1.on hb, bch HX.out.2 hb⟩
        clear hb HX
        go_wp2_with fail
        go_roundw
        case rel => exact ⟨1, _, hlt, rfl, rfl, Lib.hid HS2.out.symm, H1⟩
        case measure => simp [Lib.intOf]; omega
      · have d0 : decide ((j : Int) > 0) = true := decide_eq_true (by omega)
        have d1 : (j : Int) > 0 := by omega
        have HS2 : Hid (ofB (dotsL v.num (j + 1)) = b ++ ⟨#[46]⟩ ++ ofB (Lib.decDigits x.toNat)) := Lib.hid (by rw [HS.out, if_neg h0])
        clear HS h0
        go_wp2_with fail
        refine (HD.out _).mono ?_
        rintro e w1 ⟨rfl, hb⟩
        have H1 : Hid (Box w1 w.heap.size 26 v.arr ∧ Below w.heap.size w w1) := Lib.hid ⟨HX.out.1.on hb, bch HX.out.2 hb⟩
        clear hb HX
        go_wp2_with fail
        go_roundw
        case rel => exact ⟨j + 1, _, hlt, by go_num, rfl, Lib.hid HS2.out.symm, H1⟩
        case measure => simp [Lib.intOf]; omega
    · have hje : j = k := by omega
      have hj1 : ¬ ((j : Int) < (k : Int)) := by omega
      have hkn : v.many.toNat = k := by have := HK.out; omega
      have HE : Hid (ofB v.text = b ++ ofB (if v.tag.data.toList = [] then [] else 45 :: v.tag.data.toList) ++ ofB (if v.step = 0 then [] else Lib.decDigits v.step.toNat)) := Lib.hid (by
        unfold Ver.text
        rw [cat_b, cat_b, hkn, ← hje, ← HB.out])
      obtain ⟨wq, hwq⟩ : ∃ q, q = wr := ⟨_, rfl⟩
      rw [← hwq] at HX ⊢
      have c5 := HX.out.1.ver.c5
      have c6 := HX.out.1.ver.c6
      clear hje hlt hkn hwq
      by_cases ht : v.tag.data.toList = []
      · have hs := ok_step0 HV.out ht
        have htag : v.tag = ⟨#[]⟩ := ba_empty _ ht
        rw [htag] at c5
        rw [hs] at c6
        have HE2 : Hid (ofB v.text = b) := Lib.hid (by
          rw [HE.out, if_pos ht, if_pos hs]
          apply ByteArray.ext
          simp [ofB, ByteArray.data_append])
        clear ht hs htag HE
        go_wp2_with fail
        go_ret
        exact ⟨by rw [HE2.out]; rfl, HX.out.2⟩
      · have h6 := ok_tag HV.out ht
        obtain ⟨s0, s9⟩ := ok_stepb HV.out ht
        obtain ⟨t, htt⟩ : ∃ t, t = v.tag := ⟨_, rfl⟩
        obtain ⟨y, hy⟩ : ∃ y, y = v.step := ⟨_, rfl⟩
        rw [← htt] at c5
        rw [← hy] at c6 s0 s9
        have hts : t.size ≤ 6 := by rw [htt]; exact h6
        have f1 := isEmpty_no (l := t.toList) (by rw [Lib.toList_data, htt]; exact ht)
        have HE2 : Hid (ofB v.text = b ++ ((⟨#[45]⟩ : ByteArray) ++ t) ++ ofB (if y = 0 then [] else Lib.decDigits y.toNat)) := Lib.hid (by
          rw [HE.out, if_neg ht, ← hy, htt]
          congr 2)
        clear ht htt h6 HE
        by_cases hz : y = 0
        · have HE3 : Hid (ofB v.text = b ++ ((⟨#[45]⟩ : ByteArray) ++ t)) := Lib.hid (by
            rw [HE2.out, if_pos hz]
            apply ByteArray.ext
            simp [ofB, ByteArray.data_append])
          subst hz
          clear HE2 hy
          go_wp2_with fail
          go_ret
          exact ⟨by rw [HE3.out]; rfl, HX.out.2⟩
        · have HE3 : Hid (ofB v.text = b ++ ((⟨#[45]⟩ : ByteArray) ++ t) ++ ofB (Lib.decDigits y.toNat)) := Lib.hid (by rw [HE2.out, if_neg hz])
          have d2 : decide (y > 0) = true := decide_eq_true (by omega)
          have d3 : y > 0 := by omega
          have HD := Lib.hid (digs_of (x := y) (by omega) (by omega))
          have hdl : (ofB (Lib.decDigits y.toNat)).size ≤ 4 := nD_le y.toNat (by omega)
          clear HE2 hy hz
          go_wp2_with fail
          refine (HD.out _).mono ?_
          rintro e w1 ⟨rfl, hb⟩
          go_wp2_with fail
          go_ret
          exact ⟨by rw [HE3.out]; rfl, bch HX.out.2 hb⟩
end Go.Proofs.YtjekibhaabkecaaDoor
