/- Proved here: CheckOp of puncheonref06, for operations whose paths have at most two million letters each. -/
import Derived.Test.YtigopecainocgaaGreatDoorRBen
import Derived.Test.YtigopecainocgaaGreatDoorRMath
import Derived.Test.YtigopecainocgaaGreatDoorDMA
set_option maxRecDepth 100000
set_option maxHeartbeats 32000000
namespace Go.Proofs.YtigopecainocgaaGreatDoor
open Go.RowKit Go.Shelf
theorem rcheck_any (o : Opn) (hp : o.path.length ≤ 2000000) (ht : o.to.length ≤ 2000000) (w : World) : Calls Tryz.prog 72 #[.agg o.arr] w fun e w' => e = .returned (.int .i64 (checkR o)) ∧ Below w.heap.size w w':=by
 obtain ⟨w1,hw1⟩:=nmq (w.alloc (.cells #[.int .i64 o.kind,.string ⟨o.path.toArray⟩,.string ⟨o.to.toArray⟩,.string ⟨o.data.toArray⟩] 46))
 have X : Hid (Box w1 w.heap.size 46 o.arr):=hyq (by rw [hw1]; exact box_new)
 have HB : Hid (Below w.heap.size w w1):=hyq (by rw [hw1]; exact below_new _ _)
 obtain ⟨vp,hvp⟩:=nmq (validB o.path)
 obtain ⟨vt,hvt⟩:=nmq (validB o.to)
 have HP : Hid (∀ W,Calls Tryz.prog 53 #[.string ⟨o.path.toArray⟩] W fun e w' => e = .returned (.bool vp) ∧ Below W.heap.size W w'):=hyq (fun W => by rw [hvp]; exact rright_any ⟨o.path.toArray⟩ hp W)
 have HT : Hid (∀ W,Calls Tryz.prog 53 #[.string ⟨o.to.toArray⟩] W fun e w' => e = .returned (.bool vt) ∧ Below W.heap.size W w'):=hyq (fun W => by rw [hvt]; exact rright_any ⟨o.to.toArray⟩ ht W)
 have HVP:=hyq hvp
 have HVT:=hyq hvt
 have e1 : (.agg o.arr : Value) = .agg #[.int .i64 o.kind,.string ⟨o.path.toArray⟩,.string ⟨o.to.toArray⟩,.string ⟨o.data.toArray⟩]:=rfl
 rw [e1]
 clear hp ht hvp hvt e1
 have m0 : w1.cell? ⟨w.heap.size,0,none⟩ = some (.int .i64 o.kind):=X.out.cell (k:=0) rfl
 have m1 : w1.cell? ⟨w.heap.size,1,none⟩ = some (.string ⟨o.path.toArray⟩):=X.out.cell (k:=1) rfl
 have m2 : w1.cell? ⟨w.heap.size,2,none⟩ = some (.string ⟨o.to.toArray⟩):=X.out.cell (k:=2) rfl
 have m3 : w1.cell? ⟨w.heap.size,3,none⟩ = some (.string ⟨o.data.toArray⟩):=X.out.cell (k:=3) rfl
 have hsz : (⟨o.data.toArray⟩ : ByteArray).size = o.data.length:=by show o.data.toArray.size = _; rw [List.size_toArray]
 go_enter Tryz.func72,Tryz.ntmps72
 go_upto_region 1 with fail
 rw [← hw1]
 clear hw1
 by_cases k1 : o.kind < 1
 ·have d1 : decide (o.kind < 1) = true:=decide_eq_true k1
  have HR : Hid (checkR o = 2):=hyq (by unfold checkR; rw [if_pos (.inl k1)])
  clear hsz
  go_wp2_with fail
  go_ret
  exact ⟨by rw [HR.out]; rfl,HB.out⟩
 by_cases k7 : o.kind > 7
 ·have d1 : decide (o.kind < 1) = false:=decide_eq_false k1
  have d7 : decide (o.kind > 7) = true:=decide_eq_true k7
  have HR : Hid (checkR o = 2):=hyq (by unfold checkR; rw [if_pos (.inr k7)])
  clear hsz
  go_wp2_with fail
  go_ret
  exact ⟨by rw [HR.out]; rfl,HB.out⟩
 have hkk : o.kind = 1 ∨ o.kind = 2 ∨ o.kind = 3 ∨ o.kind = 4 ∨ o.kind = 5 ∨ o.kind = 6 ∨ o.kind = 7:=by omega
 clear k1 k7
 rcases hkk with hk | hk | hk | hk | hk | hk | hk
 ·rw [hk] at m0
  have HK:=hyq hk
  clear hk
  by_cases hd : o.data = []
  ·have HD:=hyq hd
   have s1 : (o.data == []) = true:=by simp [HD.out]
   have s2 : (o.data != []) = false:=by simp [HD.out]
   clear hd
   by_cases ht : o.to = []
   ·have HTE:=hyq ht
    have s3 : (o.to == []) = true:=by simp [HTE.out]
    have s4 : (o.to != []) = false:=by simp [HTE.out]
    clear ht
    go_wp2_with fail
    refine (HP.out _).mono ?_
    rintro e w2 ⟨rfl,hb⟩
    have HB2:=hyq (bch HB.out hb)
    replace X:=hyq (X.out.on hb)
    clear hb m0 m1 m2 m3
    have m0 : w2.cell? ⟨w.heap.size,0,none⟩ = some (.int .i64 1):=by rw [← HK.out]; exact X.out.cell (k:=0) rfl
    have m2 : w2.cell? ⟨w.heap.size,2,none⟩ = some (.string ⟨o.to.toArray⟩):=X.out.cell (k:=2) rfl
    have m3 : w2.cell? ⟨w.heap.size,3,none⟩ = some (.string ⟨o.data.toArray⟩):=X.out.cell (k:=3) rfl
    cases vp with
    | false =>
     clear hsz
     have HR : Hid (checkR o = 110):=hyq (by unfold checkR; rw [HK.out]; simp [dataR,HD.out,HTE.out,← HVP.out])
     go_wp2_with fail
     go_ret
     exact ⟨by rw [HR.out]; rfl,HB2.out⟩
    | true =>
     have l5 : decide ((o.data.length : Int) > 524288) = false:=by rw [HD.out]; rfl
     have HR : Hid (checkR o = 0):=hyq (by unfold checkR; rw [HK.out]; simp [dataR,HD.out,HTE.out,← HVP.out])
     go_wp2_with fail
     go_ret
     exact ⟨by rw [HR.out]; rfl,HB2.out⟩
   ·have HTE:=hyq ht
    have s3 : (o.to == []) = false:=by simp [HTE.out]
    have s4 : (o.to != []) = true:=by simp [HTE.out]
    clear ht
    clear hsz
    have HR : Hid (checkR o = 2):=hyq (by unfold checkR; rw [HK.out]; simp [dataR,HD.out,HTE.out])
    go_wp2_with fail
    go_ret
    exact ⟨by rw [HR.out]; rfl,HB.out⟩
  ·have HD:=hyq hd
   have s1 : (o.data == []) = false:=by simp [HD.out]
   have s2 : (o.data != []) = true:=by simp [HD.out]
   clear hd
   by_cases ht : o.to = []
   ·have HTE:=hyq ht
    have s3 : (o.to == []) = true:=by simp [HTE.out]
    have s4 : (o.to != []) = false:=by simp [HTE.out]
    clear ht
    clear hsz
    have HR : Hid (checkR o = 2):=hyq (by unfold checkR; rw [HK.out]; simp [dataR,HD.out,HTE.out])
    go_wp2_with fail
    go_ret
    exact ⟨by rw [HR.out]; rfl,HB.out⟩
   ·have HTE:=hyq ht
    have s3 : (o.to == []) = false:=by simp [HTE.out]
    have s4 : (o.to != []) = true:=by simp [HTE.out]
    clear ht
    clear hsz
    have HR : Hid (checkR o = 2):=hyq (by unfold checkR; rw [HK.out]; simp [dataR,HD.out,HTE.out])
    go_wp2_with fail
    go_ret
    exact ⟨by rw [HR.out]; rfl,HB.out⟩
 ·rw [hk] at m0
  have HK:=hyq hk
  clear hk
  by_cases hd : o.data = []
  ·have HD:=hyq hd
   have s1 : (o.data == []) = true:=by simp [HD.out]
   have s2 : (o.data != []) = false:=by simp [HD.out]
   clear hd
   by_cases ht : o.to = []
   ·have HTE:=hyq ht
    have s3 : (o.to == []) = true:=by simp [HTE.out]
    have s4 : (o.to != []) = false:=by simp [HTE.out]
    clear ht
    go_wp2_with fail
    refine (HP.out _).mono ?_
    rintro e w2 ⟨rfl,hb⟩
    have HB2:=hyq (bch HB.out hb)
    replace X:=hyq (X.out.on hb)
    clear hb m0 m1 m2 m3
    have m0 : w2.cell? ⟨w.heap.size,0,none⟩ = some (.int .i64 2):=by rw [← HK.out]; exact X.out.cell (k:=0) rfl
    have m2 : w2.cell? ⟨w.heap.size,2,none⟩ = some (.string ⟨o.to.toArray⟩):=X.out.cell (k:=2) rfl
    have m3 : w2.cell? ⟨w.heap.size,3,none⟩ = some (.string ⟨o.data.toArray⟩):=X.out.cell (k:=3) rfl
    cases vp with
    | false =>
     clear hsz
     have HR : Hid (checkR o = 110):=hyq (by unfold checkR; rw [HK.out]; simp [dataR,HD.out,HTE.out,← HVP.out])
     go_wp2_with fail
     go_ret
     exact ⟨by rw [HR.out]; rfl,HB2.out⟩
    | true =>
     have l5 : decide ((o.data.length : Int) > 524288) = false:=by rw [HD.out]; rfl
     have HR : Hid (checkR o = 0):=hyq (by unfold checkR; rw [HK.out]; simp [dataR,HD.out,HTE.out,← HVP.out])
     go_wp2_with fail
     go_ret
     exact ⟨by rw [HR.out]; rfl,HB2.out⟩
   ·have HTE:=hyq ht
    have s3 : (o.to == []) = false:=by simp [HTE.out]
    have s4 : (o.to != []) = true:=by simp [HTE.out]
    clear ht
    clear hsz
    have HR : Hid (checkR o = 2):=hyq (by unfold checkR; rw [HK.out]; simp [dataR,HD.out,HTE.out])
    go_wp2_with fail
    go_ret
    exact ⟨by rw [HR.out]; rfl,HB.out⟩
  ·have HD:=hyq hd
   have s1 : (o.data == []) = false:=by simp [HD.out]
   have s2 : (o.data != []) = true:=by simp [HD.out]
   clear hd
   by_cases ht : o.to = []
   ·have HTE:=hyq ht
    have s3 : (o.to == []) = true:=by simp [HTE.out]
    have s4 : (o.to != []) = false:=by simp [HTE.out]
    clear ht
    go_wp2_with fail
    refine (HP.out _).mono ?_
    rintro e w2 ⟨rfl,hb⟩
    have HB2:=hyq (bch HB.out hb)
    replace X:=hyq (X.out.on hb)
    clear hb m0 m1 m2 m3
    have m0 : w2.cell? ⟨w.heap.size,0,none⟩ = some (.int .i64 2):=by rw [← HK.out]; exact X.out.cell (k:=0) rfl
    have m2 : w2.cell? ⟨w.heap.size,2,none⟩ = some (.string ⟨o.to.toArray⟩):=X.out.cell (k:=2) rfl
    have m3 : w2.cell? ⟨w.heap.size,3,none⟩ = some (.string ⟨o.data.toArray⟩):=X.out.cell (k:=3) rfl
    cases vp with
    | false =>
     clear hsz
     have HR : Hid (checkR o = 110):=hyq (by unfold checkR; rw [HK.out]; simp [dataR,HD.out,HTE.out,← HVP.out])
     go_wp2_with fail
     go_ret
     exact ⟨by rw [HR.out]; rfl,HB2.out⟩
    | true =>
     by_cases hl : o.data.length > 524288
     ·have l4 : decide ((o.data.length : Int) > 524288) = true:=decide_eq_true (by omega)
      have HL:=hyq hl
      clear hl
      have HR : Hid (checkR o = 3):=hyq (by unfold checkR; rw [HK.out]; simp [dataR,HD.out,HTE.out,← HVP.out,HL.out])
      go_wp2_with fail
      go_ret
      exact ⟨by rw [HR.out]; rfl,HB2.out⟩
     ·have l4 : decide ((o.data.length : Int) > 524288) = false:=decide_eq_false (by omega)
      have HL:=hyq hl
      clear hl
      have HR : Hid (checkR o = 0):=hyq (by have h9:=HL.out; unfold checkR; rw [HK.out]; simp [dataR,HD.out,HTE.out,← HVP.out]; omega)
      go_wp2_with fail
      go_ret
      exact ⟨by rw [HR.out]; rfl,HB2.out⟩
   ·have HTE:=hyq ht
    have s3 : (o.to == []) = false:=by simp [HTE.out]
    have s4 : (o.to != []) = true:=by simp [HTE.out]
    clear ht
    clear hsz
    have HR : Hid (checkR o = 2):=hyq (by unfold checkR; rw [HK.out]; simp [dataR,HD.out,HTE.out])
    go_wp2_with fail
    go_ret
    exact ⟨by rw [HR.out]; rfl,HB.out⟩
 ·rw [hk] at m0
  have HK:=hyq hk
  clear hk
  by_cases hd : o.data = []
  ·have HD:=hyq hd
   have s1 : (o.data == []) = true:=by simp [HD.out]
   have s2 : (o.data != []) = false:=by simp [HD.out]
   clear hd
   by_cases ht : o.to = []
   ·have HTE:=hyq ht
    have s3 : (o.to == []) = true:=by simp [HTE.out]
    have s4 : (o.to != []) = false:=by simp [HTE.out]
    clear ht
    go_wp2_with fail
    refine (HP.out _).mono ?_
    rintro e w2 ⟨rfl,hb⟩
    have HB2:=hyq (bch HB.out hb)
    replace X:=hyq (X.out.on hb)
    clear hb m0 m1 m2 m3
    have m0 : w2.cell? ⟨w.heap.size,0,none⟩ = some (.int .i64 3):=by rw [← HK.out]; exact X.out.cell (k:=0) rfl
    have m2 : w2.cell? ⟨w.heap.size,2,none⟩ = some (.string ⟨o.to.toArray⟩):=X.out.cell (k:=2) rfl
    have m3 : w2.cell? ⟨w.heap.size,3,none⟩ = some (.string ⟨o.data.toArray⟩):=X.out.cell (k:=3) rfl
    cases vp with
    | false =>
     clear hsz
     have HR : Hid (checkR o = 110):=hyq (by unfold checkR; rw [HK.out]; simp [dataR,HD.out,HTE.out,← HVP.out])
     go_wp2_with fail
     go_ret
     exact ⟨by rw [HR.out]; rfl,HB2.out⟩
    | true =>
     have l5 : decide ((o.data.length : Int) > 524288) = false:=by rw [HD.out]; rfl
     have HR : Hid (checkR o = 0):=hyq (by unfold checkR; rw [HK.out]; simp [dataR,HD.out,HTE.out,← HVP.out])
     go_wp2_with fail
     go_ret
     exact ⟨by rw [HR.out]; rfl,HB2.out⟩
   ·have HTE:=hyq ht
    have s3 : (o.to == []) = false:=by simp [HTE.out]
    have s4 : (o.to != []) = true:=by simp [HTE.out]
    clear ht
    clear hsz
    have HR : Hid (checkR o = 2):=hyq (by unfold checkR; rw [HK.out]; simp [dataR,HD.out,HTE.out])
    go_wp2_with fail
    go_ret
    exact ⟨by rw [HR.out]; rfl,HB.out⟩
  ·have HD:=hyq hd
   have s1 : (o.data == []) = false:=by simp [HD.out]
   have s2 : (o.data != []) = true:=by simp [HD.out]
   clear hd
   by_cases ht : o.to = []
   ·have HTE:=hyq ht
    have s3 : (o.to == []) = true:=by simp [HTE.out]
    have s4 : (o.to != []) = false:=by simp [HTE.out]
    clear ht
    go_wp2_with fail
    refine (HP.out _).mono ?_
    rintro e w2 ⟨rfl,hb⟩
    have HB2:=hyq (bch HB.out hb)
    replace X:=hyq (X.out.on hb)
    clear hb m0 m1 m2 m3
    have m0 : w2.cell? ⟨w.heap.size,0,none⟩ = some (.int .i64 3):=by rw [← HK.out]; exact X.out.cell (k:=0) rfl
    have m2 : w2.cell? ⟨w.heap.size,2,none⟩ = some (.string ⟨o.to.toArray⟩):=X.out.cell (k:=2) rfl
    have m3 : w2.cell? ⟨w.heap.size,3,none⟩ = some (.string ⟨o.data.toArray⟩):=X.out.cell (k:=3) rfl
    cases vp with
    | false =>
     clear hsz
     have HR : Hid (checkR o = 110):=hyq (by unfold checkR; rw [HK.out]; simp [dataR,HD.out,HTE.out,← HVP.out])
     go_wp2_with fail
     go_ret
     exact ⟨by rw [HR.out]; rfl,HB2.out⟩
    | true =>
     by_cases hl : o.data.length > 524288
     ·have l4 : decide ((o.data.length : Int) > 524288) = true:=decide_eq_true (by omega)
      have HL:=hyq hl
      clear hl
      have HR : Hid (checkR o = 3):=hyq (by unfold checkR; rw [HK.out]; simp [dataR,HD.out,HTE.out,← HVP.out,HL.out])
      go_wp2_with fail
      go_ret
      exact ⟨by rw [HR.out]; rfl,HB2.out⟩
     ·have l4 : decide ((o.data.length : Int) > 524288) = false:=decide_eq_false (by omega)
      have HL:=hyq hl
      clear hl
      have HR : Hid (checkR o = 0):=hyq (by have h9:=HL.out; unfold checkR; rw [HK.out]; simp [dataR,HD.out,HTE.out,← HVP.out]; omega)
      go_wp2_with fail
      go_ret
      exact ⟨by rw [HR.out]; rfl,HB2.out⟩
   ·have HTE:=hyq ht
    have s3 : (o.to == []) = false:=by simp [HTE.out]
    have s4 : (o.to != []) = true:=by simp [HTE.out]
    clear ht
    clear hsz
    have HR : Hid (checkR o = 2):=hyq (by unfold checkR; rw [HK.out]; simp [dataR,HD.out,HTE.out])
    go_wp2_with fail
    go_ret
    exact ⟨by rw [HR.out]; rfl,HB.out⟩
 ·rw [hk] at m0
  have HK:=hyq hk
  clear hk
  by_cases hd : o.data = []
  ·have HD:=hyq hd
   have s1 : (o.data == []) = true:=by simp [HD.out]
   have s2 : (o.data != []) = false:=by simp [HD.out]
   clear hd
   by_cases ht : o.to = []
   ·have HTE:=hyq ht
    have s3 : (o.to == []) = true:=by simp [HTE.out]
    have s4 : (o.to != []) = false:=by simp [HTE.out]
    clear ht
    clear hsz
    have HR : Hid (checkR o = 2):=hyq (by unfold checkR; rw [HK.out]; simp [dataR,HD.out,HTE.out])
    go_wp2_with fail
    go_ret
    exact ⟨by rw [HR.out]; rfl,HB.out⟩
   ·have HTE:=hyq ht
    have s3 : (o.to == []) = false:=by simp [HTE.out]
    have s4 : (o.to != []) = true:=by simp [HTE.out]
    clear ht
    clear hsz
    have HR : Hid (checkR o = 2):=hyq (by unfold checkR; rw [HK.out]; simp [dataR,HD.out,HTE.out])
    go_wp2_with fail
    go_ret
    exact ⟨by rw [HR.out]; rfl,HB.out⟩
  ·have HD:=hyq hd
   have s1 : (o.data == []) = false:=by simp [HD.out]
   have s2 : (o.data != []) = true:=by simp [HD.out]
   clear hd
   by_cases ht : o.to = []
   ·have HTE:=hyq ht
    have s3 : (o.to == []) = true:=by simp [HTE.out]
    have s4 : (o.to != []) = false:=by simp [HTE.out]
    clear ht
    go_wp2_with fail
    refine (HP.out _).mono ?_
    rintro e w2 ⟨rfl,hb⟩
    have HB2:=hyq (bch HB.out hb)
    replace X:=hyq (X.out.on hb)
    clear hb m0 m1 m2 m3
    have m0 : w2.cell? ⟨w.heap.size,0,none⟩ = some (.int .i64 4):=by rw [← HK.out]; exact X.out.cell (k:=0) rfl
    have m2 : w2.cell? ⟨w.heap.size,2,none⟩ = some (.string ⟨o.to.toArray⟩):=X.out.cell (k:=2) rfl
    have m3 : w2.cell? ⟨w.heap.size,3,none⟩ = some (.string ⟨o.data.toArray⟩):=X.out.cell (k:=3) rfl
    cases vp with
    | false =>
     clear hsz
     have HR : Hid (checkR o = 110):=hyq (by unfold checkR; rw [HK.out]; simp [dataR,HD.out,HTE.out,← HVP.out])
     go_wp2_with fail
     go_ret
     exact ⟨by rw [HR.out]; rfl,HB2.out⟩
    | true =>
     by_cases hl : o.data.length > 2000
     ·have l4 : decide ((o.data.length : Int) > 2000) = true:=decide_eq_true (by omega)
      have HL:=hyq hl
      clear hl
      have HR : Hid (checkR o = 3):=hyq (by unfold checkR; rw [HK.out]; simp [dataR,HD.out,HTE.out,← HVP.out,HL.out])
      go_wp2_with fail
      go_ret
      exact ⟨by rw [HR.out]; rfl,HB2.out⟩
     ·have l4 : decide ((o.data.length : Int) > 2000) = false:=decide_eq_false (by omega)
      have l5 : decide ((o.data.length : Int) > 524288) = false:=decide_eq_false (by omega)
      have HL:=hyq hl
      clear hl
      have HR : Hid (checkR o = 0):=hyq (by have h9:=HL.out; unfold checkR; rw [HK.out]; simp [dataR,HD.out,HTE.out,← HVP.out]; omega)
      go_wp2_with fail
      go_ret
      exact ⟨by rw [HR.out]; rfl,HB2.out⟩
   ·have HTE:=hyq ht
    have s3 : (o.to == []) = false:=by simp [HTE.out]
    have s4 : (o.to != []) = true:=by simp [HTE.out]
    clear ht
    clear hsz
    have HR : Hid (checkR o = 2):=hyq (by unfold checkR; rw [HK.out]; simp [dataR,HD.out,HTE.out])
    go_wp2_with fail
    go_ret
    exact ⟨by rw [HR.out]; rfl,HB.out⟩
 ·rw [hk] at m0
  have HK:=hyq hk
  clear hk
  by_cases hd : o.data = []
  ·have HD:=hyq hd
   have s1 : (o.data == []) = true:=by simp [HD.out]
   have s2 : (o.data != []) = false:=by simp [HD.out]
   clear hd
   by_cases ht : o.to = []
   ·have HTE:=hyq ht
    have s3 : (o.to == []) = true:=by simp [HTE.out]
    have s4 : (o.to != []) = false:=by simp [HTE.out]
    clear ht
    go_wp2_with fail
    refine (HP.out _).mono ?_
    rintro e w2 ⟨rfl,hb⟩
    have HB2:=hyq (bch HB.out hb)
    replace X:=hyq (X.out.on hb)
    clear hb m0 m1 m2 m3
    have m0 : w2.cell? ⟨w.heap.size,0,none⟩ = some (.int .i64 5):=by rw [← HK.out]; exact X.out.cell (k:=0) rfl
    have m2 : w2.cell? ⟨w.heap.size,2,none⟩ = some (.string ⟨o.to.toArray⟩):=X.out.cell (k:=2) rfl
    have m3 : w2.cell? ⟨w.heap.size,3,none⟩ = some (.string ⟨o.data.toArray⟩):=X.out.cell (k:=3) rfl
    cases vp with
    | false =>
     clear hsz
     have HR : Hid (checkR o = 110):=hyq (by unfold checkR; rw [HK.out]; simp [dataR,HD.out,← HVP.out])
     go_wp2_with fail
     go_ret
     exact ⟨by rw [HR.out]; rfl,HB2.out⟩
    | true =>
     go_wp2_with fail
     refine (HT.out _).mono ?_
     rintro e w3 ⟨rfl,hb⟩
     have HB3:=hyq (bch HB2.out hb)
     replace X:=hyq (X.out.on hb)
     clear hb m0 m2 m3
     have m0 : w3.cell? ⟨w.heap.size,0,none⟩ = some (.int .i64 5):=by rw [← HK.out]; exact X.out.cell (k:=0) rfl
     have m3 : w3.cell? ⟨w.heap.size,3,none⟩ = some (.string ⟨o.data.toArray⟩):=X.out.cell (k:=3) rfl
     cases vt with
     | false =>
      clear hsz
      have HR : Hid (checkR o = 110):=hyq (by unfold checkR; rw [HK.out]; simp [dataR,HD.out,← HVP.out,← HVT.out])
      go_wp2_with fail
      go_ret
      exact ⟨by rw [HR.out]; rfl,HB3.out⟩
     | true =>
      have l5 : decide ((o.data.length : Int) > 524288) = false:=by rw [HD.out]; rfl
      have HR : Hid (checkR o = 0):=hyq (by unfold checkR; rw [HK.out]; simp [dataR,HD.out,← HVP.out,← HVT.out])
      go_wp2_with fail
      go_ret
      exact ⟨by rw [HR.out]; rfl,HB3.out⟩
   ·have HTE:=hyq ht
    have s3 : (o.to == []) = false:=by simp [HTE.out]
    have s4 : (o.to != []) = true:=by simp [HTE.out]
    clear ht
    go_wp2_with fail
    refine (HP.out _).mono ?_
    rintro e w2 ⟨rfl,hb⟩
    have HB2:=hyq (bch HB.out hb)
    replace X:=hyq (X.out.on hb)
    clear hb m0 m1 m2 m3
    have m0 : w2.cell? ⟨w.heap.size,0,none⟩ = some (.int .i64 5):=by rw [← HK.out]; exact X.out.cell (k:=0) rfl
    have m2 : w2.cell? ⟨w.heap.size,2,none⟩ = some (.string ⟨o.to.toArray⟩):=X.out.cell (k:=2) rfl
    have m3 : w2.cell? ⟨w.heap.size,3,none⟩ = some (.string ⟨o.data.toArray⟩):=X.out.cell (k:=3) rfl
    cases vp with
    | false =>
     clear hsz
     have HR : Hid (checkR o = 110):=hyq (by unfold checkR; rw [HK.out]; simp [dataR,HD.out,← HVP.out])
     go_wp2_with fail
     go_ret
     exact ⟨by rw [HR.out]; rfl,HB2.out⟩
    | true =>
     go_wp2_with fail
     refine (HT.out _).mono ?_
     rintro e w3 ⟨rfl,hb⟩
     have HB3:=hyq (bch HB2.out hb)
     replace X:=hyq (X.out.on hb)
     clear hb m0 m2 m3
     have m0 : w3.cell? ⟨w.heap.size,0,none⟩ = some (.int .i64 5):=by rw [← HK.out]; exact X.out.cell (k:=0) rfl
     have m3 : w3.cell? ⟨w.heap.size,3,none⟩ = some (.string ⟨o.data.toArray⟩):=X.out.cell (k:=3) rfl
     cases vt with
     | false =>
      clear hsz
      have HR : Hid (checkR o = 110):=hyq (by unfold checkR; rw [HK.out]; simp [dataR,HD.out,← HVP.out,← HVT.out])
      go_wp2_with fail
      go_ret
      exact ⟨by rw [HR.out]; rfl,HB3.out⟩
     | true =>
      have l5 : decide ((o.data.length : Int) > 524288) = false:=by rw [HD.out]; rfl
      have HR : Hid (checkR o = 0):=hyq (by unfold checkR; rw [HK.out]; simp [dataR,HD.out,← HVP.out,← HVT.out])
      go_wp2_with fail
      go_ret
      exact ⟨by rw [HR.out]; rfl,HB3.out⟩
  ·have HD:=hyq hd
   have s1 : (o.data == []) = false:=by simp [HD.out]
   have s2 : (o.data != []) = true:=by simp [HD.out]
   clear hd
   by_cases ht : o.to = []
   ·have HTE:=hyq ht
    have s3 : (o.to == []) = true:=by simp [HTE.out]
    have s4 : (o.to != []) = false:=by simp [HTE.out]
    clear ht
    clear hsz
    have HR : Hid (checkR o = 2):=hyq (by unfold checkR; rw [HK.out]; simp [dataR,HD.out])
    go_wp2_with fail
    go_ret
    exact ⟨by rw [HR.out]; rfl,HB.out⟩
   ·have HTE:=hyq ht
    have s3 : (o.to == []) = false:=by simp [HTE.out]
    have s4 : (o.to != []) = true:=by simp [HTE.out]
    clear ht
    clear hsz
    have HR : Hid (checkR o = 2):=hyq (by unfold checkR; rw [HK.out]; simp [dataR,HD.out])
    go_wp2_with fail
    go_ret
    exact ⟨by rw [HR.out]; rfl,HB.out⟩
 ·rw [hk] at m0
  have HK:=hyq hk
  clear hk
  by_cases hd : o.data = []
  ·have HD:=hyq hd
   have s1 : (o.data == []) = true:=by simp [HD.out]
   have s2 : (o.data != []) = false:=by simp [HD.out]
   clear hd
   by_cases ht : o.to = []
   ·have HTE:=hyq ht
    have s3 : (o.to == []) = true:=by simp [HTE.out]
    have s4 : (o.to != []) = false:=by simp [HTE.out]
    clear ht
    go_wp2_with fail
    refine (HP.out _).mono ?_
    rintro e w2 ⟨rfl,hb⟩
    have HB2:=hyq (bch HB.out hb)
    replace X:=hyq (X.out.on hb)
    clear hb m0 m1 m2 m3
    have m0 : w2.cell? ⟨w.heap.size,0,none⟩ = some (.int .i64 6):=by rw [← HK.out]; exact X.out.cell (k:=0) rfl
    have m2 : w2.cell? ⟨w.heap.size,2,none⟩ = some (.string ⟨o.to.toArray⟩):=X.out.cell (k:=2) rfl
    have m3 : w2.cell? ⟨w.heap.size,3,none⟩ = some (.string ⟨o.data.toArray⟩):=X.out.cell (k:=3) rfl
    cases vp with
    | false =>
     clear hsz
     have HR : Hid (checkR o = 110):=hyq (by unfold checkR; rw [HK.out]; simp [dataR,HD.out,HTE.out,← HVP.out])
     go_wp2_with fail
     go_ret
     exact ⟨by rw [HR.out]; rfl,HB2.out⟩
    | true =>
     have l5 : decide ((o.data.length : Int) > 524288) = false:=by rw [HD.out]; rfl
     have HR : Hid (checkR o = 0):=hyq (by unfold checkR; rw [HK.out]; simp [dataR,HD.out,HTE.out,← HVP.out])
     go_wp2_with fail
     go_ret
     exact ⟨by rw [HR.out]; rfl,HB2.out⟩
   ·have HTE:=hyq ht
    have s3 : (o.to == []) = false:=by simp [HTE.out]
    have s4 : (o.to != []) = true:=by simp [HTE.out]
    clear ht
    clear hsz
    have HR : Hid (checkR o = 2):=hyq (by unfold checkR; rw [HK.out]; simp [dataR,HD.out,HTE.out])
    go_wp2_with fail
    go_ret
    exact ⟨by rw [HR.out]; rfl,HB.out⟩
  ·have HD:=hyq hd
   have s1 : (o.data == []) = false:=by simp [HD.out]
   have s2 : (o.data != []) = true:=by simp [HD.out]
   clear hd
   by_cases ht : o.to = []
   ·have HTE:=hyq ht
    have s3 : (o.to == []) = true:=by simp [HTE.out]
    have s4 : (o.to != []) = false:=by simp [HTE.out]
    clear ht
    clear hsz
    have HR : Hid (checkR o = 2):=hyq (by unfold checkR; rw [HK.out]; simp [dataR,HD.out,HTE.out])
    go_wp2_with fail
    go_ret
    exact ⟨by rw [HR.out]; rfl,HB.out⟩
   ·have HTE:=hyq ht
    have s3 : (o.to == []) = false:=by simp [HTE.out]
    have s4 : (o.to != []) = true:=by simp [HTE.out]
    clear ht
    clear hsz
    have HR : Hid (checkR o = 2):=hyq (by unfold checkR; rw [HK.out]; simp [dataR,HD.out,HTE.out])
    go_wp2_with fail
    go_ret
    exact ⟨by rw [HR.out]; rfl,HB.out⟩
 ·rw [hk] at m0
  have HK:=hyq hk
  clear hk
  by_cases hd : o.data = []
  ·have HD:=hyq hd
   have s1 : (o.data == []) = true:=by simp [HD.out]
   have s2 : (o.data != []) = false:=by simp [HD.out]
   clear hd
   by_cases ht : o.to = []
   ·have HTE:=hyq ht
    have s3 : (o.to == []) = true:=by simp [HTE.out]
    have s4 : (o.to != []) = false:=by simp [HTE.out]
    clear ht
    go_wp2_with fail
    refine (HP.out _).mono ?_
    rintro e w2 ⟨rfl,hb⟩
    have HB2:=hyq (bch HB.out hb)
    replace X:=hyq (X.out.on hb)
    clear hb m0 m1 m2 m3
    have m0 : w2.cell? ⟨w.heap.size,0,none⟩ = some (.int .i64 7):=by rw [← HK.out]; exact X.out.cell (k:=0) rfl
    have m2 : w2.cell? ⟨w.heap.size,2,none⟩ = some (.string ⟨o.to.toArray⟩):=X.out.cell (k:=2) rfl
    have m3 : w2.cell? ⟨w.heap.size,3,none⟩ = some (.string ⟨o.data.toArray⟩):=X.out.cell (k:=3) rfl
    cases vp with
    | false =>
     clear hsz
     have HR : Hid (checkR o = 110):=hyq (by unfold checkR; rw [HK.out]; simp [dataR,HD.out,HTE.out,← HVP.out])
     go_wp2_with fail
     go_ret
     exact ⟨by rw [HR.out]; rfl,HB2.out⟩
    | true =>
     have l5 : decide ((o.data.length : Int) > 524288) = false:=by rw [HD.out]; rfl
     have HR : Hid (checkR o = 0):=hyq (by unfold checkR; rw [HK.out]; simp [dataR,HD.out,HTE.out,← HVP.out])
     go_wp2_with fail
     go_ret
     exact ⟨by rw [HR.out]; rfl,HB2.out⟩
   ·have HTE:=hyq ht
    have s3 : (o.to == []) = false:=by simp [HTE.out]
    have s4 : (o.to != []) = true:=by simp [HTE.out]
    clear ht
    clear hsz
    have HR : Hid (checkR o = 2):=hyq (by unfold checkR; rw [HK.out]; simp [dataR,HD.out,HTE.out])
    go_wp2_with fail
    go_ret
    exact ⟨by rw [HR.out]; rfl,HB.out⟩
  ·have HD:=hyq hd
   have s1 : (o.data == []) = false:=by simp [HD.out]
   have s2 : (o.data != []) = true:=by simp [HD.out]
   clear hd
   by_cases ht : o.to = []
   ·have HTE:=hyq ht
    have s3 : (o.to == []) = true:=by simp [HTE.out]
    have s4 : (o.to != []) = false:=by simp [HTE.out]
    clear ht
    clear hsz
    have HR : Hid (checkR o = 2):=hyq (by unfold checkR; rw [HK.out]; simp [dataR,HD.out,HTE.out])
    go_wp2_with fail
    go_ret
    exact ⟨by rw [HR.out]; rfl,HB.out⟩
   ·have HTE:=hyq ht
    have s3 : (o.to == []) = false:=by simp [HTE.out]
    have s4 : (o.to != []) = true:=by simp [HTE.out]
    clear ht
    clear hsz
    have HR : Hid (checkR o = 2):=hyq (by unfold checkR; rw [HK.out]; simp [dataR,HD.out,HTE.out])
    go_wp2_with fail
    go_ret
    exact ⟨by rw [HR.out]; rfl,HB.out⟩
end Go.Proofs.YtigopecainocgaaGreatDoor
