/- Proved here: RelocMoves of the laws of package reloc answers true. -/
import Derived.Test.YtophihnjlodmjaaDoorCase
import Derived.Test.YtophihnjlodmjaaDoorTells
import Derived.Test.YtophihnjlodmjaaDoorPlaces
import Derived.Test.YtophihnjlodmjaaDoorEqn
import Derived.Deep.RegionHeld
namespace Go.Proofs.YtophihnjlodmjaaDoor
open Go.RowKit Go.Shelf
attribute [local go_sem] Oper.semAt_some

set_option maxRecDepth 100000 in
set_option maxHeartbeats 8000000 in
theorem moves_law (l : List Cs) (sl : Value) (w : World) (hsl : RdC w sl l) : Calls Tryd.prog 4 #[sl] w fun e w' => e = .returned (.bool true) ∧ Below w.heap.size w w' := by
  obtain ⟨a, c, rfl, hlc, hcm, hcell⟩ := hsl
  have HC := Lib.hid hcell
  obtain ⟨n, hn⟩ : ∃ n, n = l.length := ⟨_, rfl⟩
  rw [← hn] at hlc HC ⊢
  have HN := Lib.hid hn
  unfold maxLen at hcm
  clear hn hcell
  go_enter Tryd.func4, Tryd.ntmps4
  go_wp2_with (go_at_call 9; refine (wakes_any _).mono ?_; rintro e w1 ⟨rfl, hb⟩; have B1 := Lib.hid hb; clear hb)
  go_loopw [16] (fun i wr => ∃ k : Nat, i = .int .i64 (k : Int) ∧ k ≤ n ∧ k ≤ 8 ∧ Hid (Below w.heap.size w wr)) (fun i _ => n - (Lib.intOf i).toNat)
  case atStart => exact ⟨0, rfl, Nat.zero_le _, Nat.zero_le _, B1⟩
  case round =>
    obtain ⟨k, rfl, hk, hk8, HB⟩ := hrel
    clear B1
    by_cases hlt : k < n
    · obtain ⟨v, hv⟩ : ∃ v, l[k]? = some v := ⟨_, List.getElem?_eq_getElem (by have := HN.out; omega)⟩
      obtain ⟨g, o, rfl, hg, hc⟩ := HC.out (by omega)
      obtain ⟨q0, q1, q2⟩ := hc k v hv
      have r0 := (HB.out.cell (p := ⟨g, _, none⟩) hg).trans q0
      have r1 := (HB.out.cell (p := ⟨g, _, none⟩) hg).trans q1
      have r2 := (HB.out.cell (p := ⟨g, _, none⟩) hg).trans q2
      have k1 : (k : Int) < (n : Int) := by omega
      have k4 : IntKind.i64.wrap ((k : Int) + 1) = (k : Int) + 1 := IntWalk.i64_in _ (by omega)
      clear q0 q1 q2 hc hv
      have X0 : Hid (Box (wr.alloc (.cells #[.string ⟨#[]⟩, .string ⟨#[]⟩, .string ⟨#[]⟩] 25)) wr.heap.size 25 Cs.nil.arr) := Lib.hid (heap_alloc_new wr _)
      obtain ⟨w2, hw2⟩ : ∃ q, q = (wr.alloc (.cells #[.string ⟨#[]⟩, .string ⟨#[]⟩, .string ⟨#[]⟩] 25)).setRow wr.heap.size v.arr := ⟨_, rfl⟩
      have X2 : Hid (Box w2 wr.heap.size 25 v.arr) := Lib.hid (by rw [hw2]; exact Boxed.row14 X0.out _)
      have B2 : Hid (Below w.heap.size w w2) := Lib.hid (by rw [hw2]; exact below_row14 (HB.out.alloc HB.out.size _) HB.out.size _)
      have HSW := Lib.hid HB.out.size
      go_upto_region 6 with (first
        | (with_reducible refine wpList_zero rfl 25 rfl Cs.nil.arr zero25 ?_)
        | (refine wpList_store_row rfl 25 (.tmp 4) (.tmp 20) rfl wr.heap.size v.arr rfl rfl 25 _ X0.out (info25 _) rfl (carr_one _) ?_))
      rw [← hw2]
      obtain ⟨bx, hbx⟩ : ∃ q, q = wr.heap.size := ⟨_, rfl⟩
      rw [← hbx] at X2 HSW ⊢
      clear hw2 X0 r0 r1 r2 hbx
      by_cases h8 : k = 8
      · have t8 : ((k : Int) == 8) = true := by simp [h8]
        clear h8
        go_wp2
        go_ret
        exact ⟨rfl, B2.out⟩
      · have t8 : ((k : Int) == 8) = false := by rw [beq_eq_false_iff_ne]; omega
        have hk9 : k < 8 := by omega
        clear h8
        go_wp2_with (first
          | (refine wpList_load_row rfl 25 (.tmp 4) rfl bx rfl 25 v.arr (0, 0) _ X2.out Tryd.underlying25 rfl (info25 _) ?_)
          | (go_at_call 10; fail))
        refine (own_case v _).mono ?_
        rintro e w3 ⟨rfl, hb⟩
        have X3 := Lib.hid ((hb.block _ (Array.getElem?_eq_some_iff.1 X2.out).1).trans X2.out)
        obtain ⟨y, hy⟩ : ∃ y, y = v.cut := ⟨_, rfl⟩
        have YD : Hid (y.d.length ≤ 1000) := Lib.hid (by rw [hy]; exact v.cut_d)
        have YF : Hid (y.f.length ≤ 64) := Lib.hid (by rw [hy]; exact v.cut_f)
        have YT : Hid (y.t.length ≤ 64) := Lib.hid (by rw [hy]; exact v.cut_t)
        rw [← hy]
        obtain ⟨w4, hw4⟩ : ∃ q, q = w3.setRow bx y.arr := ⟨_, rfl⟩
        have X4 : Hid (Box w4 bx 25 y.arr) := Lib.hid (by rw [hw4]; exact Boxed.row14 X3.out _)
        have B4 : Hid (Below w.heap.size w w4) := Lib.hid (by rw [hw4]; exact below_row14 (bch B2.out hb) HSW.out _)
        clear hb hy B2 X2
        go_upto_region 8 with (refine wpList_store_row rfl 25 (.tmp 4) (.tmp 24) rfl bx y.arr rfl rfl 25 _ X3.out (info25 _) rfl (carr_one _) ?_)
        rw [← hw4]
        clear hw4 X3
        have x0 : w4.cell? ⟨bx, 0, none⟩ = some (.string ⟨y.d.toArray⟩) := X4.out.cell (k := 0) rfl
        have x1 : w4.cell? ⟨bx, 1, none⟩ = some (.string ⟨y.f.toArray⟩) := X4.out.cell (k := 1) rfl
        have x2 : w4.cell? ⟨bx, 2, none⟩ = some (.string ⟨y.t.toArray⟩) := X4.out.cell (k := 2) rfl
        have HM := Lib.hid (move_any y.d y.f y.t (by have := YD.out; omega) (by have := YF.out; omega) (by have := YT.out; omega) w4)
        cases hrf : okB y.f with
        | false =>
          have E1 : Hid (okB y.f = false) := Lib.hid hrf
          have E2 : Hid (okB y.t = okB y.t) := Lib.hid rfl
          clear hrf
          have HM2 : Hid (Calls Tryd.prog 18 #[.string ⟨y.d.toArray⟩, .string ⟨y.f.toArray⟩, .string ⟨y.t.toArray⟩] w4 fun e w' => e = .returned (.tuple #[.string ⟨#[]⟩, .slice none 0 0, .int .i64 240]) ∧ Below w4.heap.size w4 w') := Lib.hid (HM.out.mono (by
            rintro e w' ⟨⟨h1, h2, _⟩ | ⟨_, h2⟩, hb⟩
            · exact absurd h1 (by rw [E1.out]; decide)
            · exact ⟨h2, hb⟩))
          clear HM
          go_upto_region 9 with (go_at_call 18; refine HM2.out.mono ?_; rintro e w5 ⟨rfl, hb5⟩; have HB5 := Lib.hid hb5; clear hb5)
          clear x0 x1 x2
          have X5 : Hid (Box w5 bx 25 y.arr) := Lib.hid ((HB5.out.block _ (Array.getElem?_eq_some_iff.1 X4.out).1).trans X4.out)
          have B5 := Lib.hid (bch B4.out HB5.out)
          have x0 : w5.cell? ⟨bx, 0, none⟩ = some (.string ⟨y.d.toArray⟩) := X5.out.cell (k := 0) rfl
          have x1 : w5.cell? ⟨bx, 1, none⟩ = some (.string ⟨y.f.toArray⟩) := X5.out.cell (k := 1) rfl
          have x2 : w5.cell? ⟨bx, 2, none⟩ = some (.string ⟨y.t.toArray⟩) := X5.out.cell (k := 2) rfl
          have HQ := Lib.hid (eqn_any [] [] _ _ w5 (Rd.nil14 w5) (Rd.nil14 w5))
          rw [eqB_self] at HQ
          go_wp2_with (first
            | (go_at_call 11; refine (rright_any _ (by have := YF.out; have := YT.out; omega) _).mono ?_; rintro e w' ⟨rfl, rfl⟩; first | rw [E1.out] | rw [E2.out])
            | (go_at_call 16; refine HQ.out.mono ?_; rintro e w7 ⟨rfl, hb7⟩; have B7 := Lib.hid (bch B5.out hb7); clear hb7))
          go_roundw
          case rel => exact ⟨k + 1, by go_num, by omega, by omega, B7⟩
          case measure => simp [Lib.intOf]; omega
        | true =>
          have E1 : Hid (okB y.f = true) := Lib.hid hrf
          clear hrf
          cases hrt : okB y.t with
          | false =>
            have E2 : Hid (okB y.t = false) := Lib.hid hrt
            clear hrt
            have HM2 : Hid (Calls Tryd.prog 18 #[.string ⟨y.d.toArray⟩, .string ⟨y.f.toArray⟩, .string ⟨y.t.toArray⟩] w4 fun e w' => e = .returned (.tuple #[.string ⟨#[]⟩, .slice none 0 0, .int .i64 240]) ∧ Below w4.heap.size w4 w') := Lib.hid (HM.out.mono (by
              rintro e w' ⟨⟨h1, h2, _⟩ | ⟨_, h2⟩, hb⟩
              · exact absurd h2 (by rw [E2.out]; decide)
              · exact ⟨h2, hb⟩))
            clear HM
            go_upto_region 9 with (go_at_call 18; refine HM2.out.mono ?_; rintro e w5 ⟨rfl, hb5⟩; have HB5 := Lib.hid hb5; clear hb5)
            clear x0 x1 x2
            have X5 : Hid (Box w5 bx 25 y.arr) := Lib.hid ((HB5.out.block _ (Array.getElem?_eq_some_iff.1 X4.out).1).trans X4.out)
            have B5 := Lib.hid (bch B4.out HB5.out)
            have x0 : w5.cell? ⟨bx, 0, none⟩ = some (.string ⟨y.d.toArray⟩) := X5.out.cell (k := 0) rfl
            have x1 : w5.cell? ⟨bx, 1, none⟩ = some (.string ⟨y.f.toArray⟩) := X5.out.cell (k := 1) rfl
            have x2 : w5.cell? ⟨bx, 2, none⟩ = some (.string ⟨y.t.toArray⟩) := X5.out.cell (k := 2) rfl
            have HQ := Lib.hid (eqn_any [] [] _ _ w5 (Rd.nil14 w5) (Rd.nil14 w5))
            rw [eqB_self] at HQ
            go_wp2_with (first
              | (go_at_call 11; refine (rright_any _ (by have := YF.out; have := YT.out; omega) _).mono ?_; rintro e w' ⟨rfl, rfl⟩; first | rw [E1.out] | rw [E2.out])
              | (go_at_call 16; refine HQ.out.mono ?_; rintro e w7 ⟨rfl, hb7⟩; have B7 := Lib.hid (bch B5.out hb7); clear hb7))
            go_roundw
            case rel => exact ⟨k + 1, by go_num, by omega, by omega, B7⟩
            case measure => simp [Lib.intOf]; omega
          | true =>
            have E2 : Hid (okB y.t = true) := Lib.hid hrt
            clear hrt
            cases hml : movL y.f y.t y.d with
            | none =>
              have hf1 := (okB_iff y.f).1 E1.out
              have HRM := Lib.hid (fun X : World => rmove_any y.d y.f y.t hf1.1 (by have := YD.out; omega) (by have := YF.out; omega) (by have := YT.out; omega) X)
              clear hf1
              have HM2 : Hid (Calls Tryd.prog 18 #[.string ⟨y.d.toArray⟩, .string ⟨y.f.toArray⟩, .string ⟨y.t.toArray⟩] w4 fun e w' => e = .returned (.tuple #[.string ⟨#[]⟩, .slice none 0 0, .int .i64 3]) ∧ Below w4.heap.size w4 w') := Lib.hid (HM.out.mono (by
                rintro e w' ⟨⟨_, _, ⟨o, a, v, h1, _⟩ | ⟨_, h2⟩⟩ | ⟨h1, _⟩, hb⟩
                · rw [hml] at h1; cases h1
                · exact ⟨h2, hb⟩
                · exact absurd ⟨E1.out, E2.out⟩ h1))
              clear HM
              go_upto_region 9 with (go_at_call 18; refine HM2.out.mono ?_; rintro e w5 ⟨rfl, hb5⟩; have HB5 := Lib.hid hb5; clear hb5)
              clear x0 x1 x2
              have X5 : Hid (Box w5 bx 25 y.arr) := Lib.hid ((HB5.out.block _ (Array.getElem?_eq_some_iff.1 X4.out).1).trans X4.out)
              have B5 := Lib.hid (bch B4.out HB5.out)
              have x0 : w5.cell? ⟨bx, 0, none⟩ = some (.string ⟨y.d.toArray⟩) := X5.out.cell (k := 0) rfl
              have x1 : w5.cell? ⟨bx, 1, none⟩ = some (.string ⟨y.f.toArray⟩) := X5.out.cell (k := 1) rfl
              have x2 : w5.cell? ⟨bx, 2, none⟩ = some (.string ⟨y.t.toArray⟩) := X5.out.cell (k := 2) rfl
              have HR2 : Hid (Calls Tryd.prog 19 #[.string ⟨y.d.toArray⟩, .string ⟨y.f.toArray⟩, .string ⟨y.t.toArray⟩] w5 fun e w' => e = .returned (.tuple #[.string ⟨#[]⟩, .slice none 0 0, .bool false]) ∧ Below w5.heap.size w5 w') := Lib.hid ((HRM.out w5).mono (by
                rintro e w' ⟨⟨o, a, v, h1, _⟩ | ⟨_, h2⟩, hb⟩
                · rw [hml] at h1; cases h1
                · exact ⟨h2, hb⟩))
              clear HRM hml
              go_upto_region 16 with (first
                | (go_at_call 11; refine (rright_any _ (by have := YF.out; have := YT.out; omega) _).mono ?_; rintro e w' ⟨rfl, rfl⟩; first | rw [E1.out] | rw [E2.out])
                | (go_at_call 19; refine HR2.out.mono ?_; rintro e w6 ⟨rfl, hb6⟩; have B6 := Lib.hid (bch B5.out hb6); clear hb6))
              have HQ := Lib.hid (eqn_any [] [] _ _ w6 (Rd.nil14 w6) (Rd.nil14 w6))
              rw [eqB_self] at HQ
              go_wp2_with (go_at_call 16; refine HQ.out.mono ?_; rintro e w7 ⟨rfl, hb7⟩; have B7 := Lib.hid (bch B6.out hb7); clear hb7)
              go_roundw
              case rel => exact ⟨k + 1, by go_num, by omega, by omega, B7⟩
              case measure => simp [Lib.intOf]; omega
            | some z =>
              obtain ⟨o, al⟩ := z
              have hf1 := (okB_iff y.f).1 E1.out
              have HRM := Lib.hid (fun X : World => rmove_any y.d y.f y.t hf1.1 (by have := YD.out; omega) (by have := YF.out; omega) (by have := YT.out; omega) X)
              clear hf1
              have HM2 : Hid (Calls Tryd.prog 18 #[.string ⟨y.d.toArray⟩, .string ⟨y.f.toArray⟩, .string ⟨y.t.toArray⟩] w4 fun e w' => ∃ v, e = .returned (.tuple #[.string ⟨o.toArray⟩, v, .int .i64 0]) ∧ w'.ownsRow w4.heap.size 3 1 v al.length (natsV al) ∧ Below w4.heap.size w4 w') := Lib.hid (HM.out.mono (by
                rintro e w' ⟨⟨_, _, ⟨o', a', v, h1, h2, h3⟩ | ⟨h1, _⟩⟩ | ⟨h1, _⟩, hb⟩
                · rw [hml] at h1; cases h1; exact ⟨v, h2, h3, hb⟩
                · rw [hml] at h1; cases h1
                · exact absurd ⟨E1.out, E2.out⟩ h1))
              clear HM
              go_upto_region 9 with (go_at_call 18; refine HM2.out.mono ?_; rintro e w5 ⟨v5, rfl, ho5, hb5⟩; have HB5 := Lib.hid hb5; obtain ⟨a5, c5, rfl⟩ := own_slice ho5; have HO5 := Lib.hid ho5; clear hb5 ho5)
              clear x0 x1 x2
              have X5 : Hid (Box w5 bx 25 y.arr) := Lib.hid ((HB5.out.block _ (Array.getElem?_eq_some_iff.1 X4.out).1).trans X4.out)
              have B5 := Lib.hid (bch B4.out HB5.out)
              have x0 : w5.cell? ⟨bx, 0, none⟩ = some (.string ⟨y.d.toArray⟩) := X5.out.cell (k := 0) rfl
              have x1 : w5.cell? ⟨bx, 1, none⟩ = some (.string ⟨y.f.toArray⟩) := X5.out.cell (k := 1) rfl
              have x2 : w5.cell? ⟨bx, 2, none⟩ = some (.string ⟨y.t.toArray⟩) := X5.out.cell (k := 2) rfl
              have HR2 : Hid (Calls Tryd.prog 19 #[.string ⟨y.d.toArray⟩, .string ⟨y.f.toArray⟩, .string ⟨y.t.toArray⟩] w5 fun e w' => ∃ v, e = .returned (.tuple #[.string ⟨o.toArray⟩, v, .bool true]) ∧ w'.ownsRow w5.heap.size 3 1 v al.length (natsV al) ∧ Below w5.heap.size w5 w') := Lib.hid ((HRM.out w5).mono (by
                rintro e w' ⟨⟨o', a', v, h1, h2, h3⟩ | ⟨h1, _⟩, hb⟩
                · rw [hml] at h1; cases h1; exact ⟨v, h2, h3, hb⟩
                · rw [hml] at h1; cases h1))
              clear HRM hml
              go_upto_region 16 with (first
                | (go_at_call 11; refine (rright_any _ (by have := YF.out; have := YT.out; omega) _).mono ?_; rintro e w' ⟨rfl, rfl⟩; first | rw [E1.out] | rw [E2.out])
                | (go_at_call 19; refine HR2.out.mono ?_; rintro e w6 ⟨v6, rfl, ho6, hb6⟩; have HB6 := Lib.hid hb6; obtain ⟨a6, c6, rfl⟩ := own_slice ho6; have HO6 := Lib.hid ho6; clear hb6 ho6))
              have HQ := Lib.hid (eqn_any al al _ _ w6 (Rd.of_own (owns_on HO5.out HB6.out)) (Rd.of_own HO6.out))
              rw [eqB_self] at HQ
              have B6 := Lib.hid (bch B5.out HB6.out)
              go_wp2_with (go_at_call 16; refine HQ.out.mono ?_; rintro e w7 ⟨rfl, hb7⟩; have B7 := Lib.hid (bch B6.out hb7); clear hb7)
              go_roundw
              case rel => exact ⟨k + 1, by go_num, by omega, by omega, B7⟩
              case measure => simp [Lib.intOf]; omega
    · obtain rfl : k = n := by omega
      go_wp2
      go_ret
      exact ⟨rfl, HB.out⟩
end Go.Proofs.YtophihnjlodmjaaDoor
