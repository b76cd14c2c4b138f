/- Proved here: Same of package disk, of any two disks. -/
import Derived.Test.YtigopecainocgaaGreatDoorDMB
set_option maxRecDepth 100000
set_option maxHeartbeats 32000000
namespace Go.Proofs.YtigopecainocgaaGreatDoor
open Go.RowKit Go.Shelf
theorem dsk_is {d e : Dsk} {b : Bool} (hb : b = true ↔ d = e) : b = (decide (d.safe = e.safe) && (decide (d.wait = e.wait) && decide (d.room = e.room))):=by
 cases d; cases e
 rw [Bool.eq_iff_iff,hb]
 simp
theorem sameD_any (d e : Dsk) (iv wv iv2 wv2 : Value) (w : World) (h : RdD w iv wv d) (h2 : RdD w iv2 wv2 e) (b : Bool) (hb : b = true ↔ d = e) : Calls Tryz.prog 21 #[.agg #[iv,wv,.int .i64 d.room],.agg #[iv2,wv2,.int .i64 e.room]] w (EqR b w):=by
 obtain ⟨w1,hw1⟩:=nmq ((w.alloc (.cells #[iv,wv,.int .i64 d.room] 27)).alloc (.cells #[iv2,wv2,.int .i64 e.room] 27))
 obtain ⟨bd,hbd⟩:=nmq (w.heap.size)
 have HB1 : Hid (Below w.heap.size w w1):=hyq (by rw [hw1]; exact bch (below_new _ _) (below_new _ _))
 have U0 : Hid (Box w1 bd 27 #[iv,wv,.int .i64 d.room]):=hyq (by rw [hw1,hbd]; exact box_new.alloc _)
 have U1 : Hid (Box w1 (bd + 1) 27 #[iv2,wv2,.int .i64 e.room]):=hyq (by rw [hw1,hbd,show w.heap.size + 1 = (w.alloc (.cells #[iv,wv,.int .i64 d.room] 27)).heap.size from by simp]; exact box_new)
 have HS1 : Hid (Calls Tryz.prog 26 #[.agg #[iv],.agg #[iv2]] w1 (EqR (decide (d.safe = e.safe)) w1)):=hyq (same_any d.safe e.safe iv iv2 w1 (h.items.on HB1.out) (h2.items.on HB1.out))
 have HS2 : Hid (∀ W,Below w1.heap.size w1 W → Calls Tryz.prog 38 #[wv,wv2] W (EqR (decide (d.wait = e.wait)) W)):=hyq (fun W hW => equalO_any d.wait e.wait wv wv2 W ((h.wait.on HB1.out).on hW) ((h2.wait.on HB1.out).on hW))
 rw [dsk_is hb]
 obtain ⟨s1,hs1⟩:=nmq (decide (d.safe = e.safe))
 obtain ⟨s2,hs2⟩:=nmq (decide (d.wait = e.wait))
 obtain ⟨s3,hs3⟩:=nmq (decide (d.room = e.room))
 have t0 : (d.room == e.room) = s3:=by rw [hs3]; rfl
 obtain ⟨ia,ic,rfl,_⟩:=h.items.open
 obtain ⟨wa,wc,rfl,_⟩:=h.wait.open
 obtain ⟨ia2,ic2,rfl,_⟩:=h2.items.open
 obtain ⟨wa2,wc2,rfl,_⟩:=h2.wait.open
 rw [← hs1] at HS1 ⊢
 rw [← hs2] at HS2 ⊢
 rw [← hs3]
 clear h h2 hs1 hs2 hs3 hb b
 obtain ⟨room,hroom⟩:=nmq (d.room)
 obtain ⟨i,hi⟩:=nmq (d.safe.length)
 obtain ⟨n,hnn⟩:=nmq (d.wait.length)
 obtain ⟨room2,hroom2⟩:=nmq (e.room)
 obtain ⟨i2,hi2⟩:=nmq (e.safe.length)
 obtain ⟨n2,hnn2⟩:=nmq (e.wait.length)
 rw [← hroom,← hi,← hnn] at U0 hw1 ⊢
 rw [← hroom2,← hi2,← hnn2] at U1 hw1 ⊢
 rw [← hi,← hi2] at HS1
 rw [← hnn,← hnn2] at HS2
 rw [← hroom,← hroom2] at t0
 have c0 : w1.cell? ⟨bd,0,none⟩ = some (.slice ia i ic):=U0.out.cell (k:=0) rfl
 have c1 : w1.cell? ⟨bd + 1,0,none⟩ = some (.slice ia2 i2 ic2):=U1.out.cell (k:=0) rfl
 clear hroom hi hnn hroom2 hi2 hnn2
 go_enter Tryz.func21,Tryz.ntmps21
 go_upto_region 1 with fail
 rw [← hw1,← hbd]
 clear hw1 hbd
 go_wp2_with fail
 refine HS1.out.mono ?_
 rintro e w2 ⟨rfl,hb2⟩
 have c2 : w2.cell? ⟨bd,1,none⟩ = some (.slice wa n wc):=(U0.out.on hb2).cell (k:=1) rfl
 have c3 : w2.cell? ⟨bd + 1,1,none⟩ = some (.slice wa2 n2 wc2):=(U1.out.on hb2).cell (k:=1) rfl
 have HC:=hyq (HS2.out w2 hb2)
 have HB2:=hyq hb2
 clear hb2 c0 c1
 cases s1 with
 | false =>
  go_wp2_with fail
  go_ret
  exact ⟨rfl,bch HB1.out HB2.out⟩
 | true =>
  go_wp2_with fail
  refine HC.out.mono ?_
  rintro e w3 ⟨rfl,hb3⟩
  have c4 : w3.cell? ⟨bd,2,none⟩ = some (.int .i64 room):=((U0.out.on HB2.out).on hb3).cell (k:=2) rfl
  have c5 : w3.cell? ⟨bd + 1,2,none⟩ = some (.int .i64 room2):=((U1.out.on HB2.out).on hb3).cell (k:=2) rfl
  have HB3:=hyq (bch HB1.out (bch HB2.out hb3))
  clear hb3 c2 c3
  cases s2 with
  | false =>
   go_wp2_with fail
   go_ret
   exact ⟨rfl,HB3.out⟩
  | true =>
   go_wp2_with fail
   go_ret
   exact ⟨rfl,HB3.out⟩
end Go.Proofs.YtigopecainocgaaGreatDoor
