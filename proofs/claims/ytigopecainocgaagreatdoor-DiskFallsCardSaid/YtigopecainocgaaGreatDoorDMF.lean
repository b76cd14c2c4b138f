/- Proved here, of lists alone: what DiskFalls of puncheonlaw08 looks at. | Proved here: DiskFalls of puncheonlaw08 returns true, whatever the disk, the list and the two numbers, wherever the tables stand. | What an argument that is an array of two numbers reads as, for the last step of DiskFalls. | Proved: whatever disk, list and two numbers DiskFalls of puncheonlaw08 is called with, the call returns true, and all read behind it as they read before (the statement Rows.DiskFallsCardSaid). No condition of ours: the tables stand as the program's text lays them (the card ties them), and the form's own reach. -/
import Derived.Test.YtigopecainocgaaGreatDoorDMB
namespace Go.Proofs.YtigopecainocgaaGreatDoor
open Go.RowKit Go.Shelf

/-- The tree that a fall leaves is one through which it went, or that one with a part of the next operation done. -/
structure FallF (d : Dsk) (keep cut : Nat) (was : List It) : Prop where
  run : runM d.safe (d.wait.take keep) = (was, keep, 0)
  ok : TreeOk was
  left : nowM (freshM (leftM d keep cut)) = some (leftM d keep cut)
  same : leftM d keep cut = was ∨ ∃ o full, d.wait[keep]? = some o ∧ partB o = true ∧ cut ≠ 0 ∧ actM was o = .ok full ∧ (leftM d keep cut).length = full.length ∧
    (∀ y ∈ leftM d keep cut, ∃ z, getI full y.path = some z ∧ (y = z ∨ (y.path = o.path ∧ y.kind = z.kind ∧ y.data <+: z.data))) ∧ (o.data.length ≤ cut → leftM d keep cut = full)
theorem falls_of {d : Dsk} {t : List It} (h : nowM d = some t) (keep cut : Nat) (hk : keep ≤ d.wait.length) : FallF d keep cut (runM d.safe (d.wait.take keep)).1 := by
  obtain ⟨_, _, h3, h4, _⟩ := now_some h
  have hm := (run_many d.safe d.wait).2.1 h4
  obtain ⟨p1, p2, p3⟩ := run_parts d.safe d.wait keep (by omega)
  obtain ⟨was, hw⟩ : ∃ z, z = (runM d.safe (d.wait.take keep)).1 := ⟨_, rfl⟩
  have e0 : runM d.safe (d.wait.take keep) = (was, keep, 0) := by rw [hw]; exact Prod.ext rfl (Prod.ext p1 p2)
  have hok : TreeOk was := by rw [hw]; exact run_ok' (tree_ok h3) _
  rw [← hw] at p3 ⊢
  have hleft : ∀ l, leftM d keep cut = l → TreeOk l → nowM (freshM (leftM d keep cut)) = some (leftM d keep cut) := fun l e hl => by
    rw [e]
    exact now_fresh (ok_tree hl)
  have e1 : (runM d.safe (d.wait.take keep)).1 = was := hw.symm
  cases ho : d.wait[keep]? with
  | none =>
    have e : leftM d keep cut = was := by unfold leftM keptM; rw [ho]; exact e1
    exact ⟨e0, hok, hleft _ e hok, .inl e⟩
  | some o =>
    by_cases hc : cut = 0 ∨ partB o = false
    · have e : leftM d keep cut = was := by unfold leftM keptM; rw [ho]; simp only; rw [if_pos hc]; exact e1
      exact ⟨e0, hok, hleft _ e hok, .inl e⟩
    · have hc0 : cut ≠ 0 := fun q => hc (.inl q)
      have hcp : partB o = true := by
        cases q : partB o with
        | true => rfl
        | false => exact absurd (.inr q) hc
      obtain ⟨hl, hoe⟩ := List.getElem?_eq_some_iff.1 ho
      have hd : d.wait.drop keep = o :: d.wait.drop (keep + 1) := by rw [List.drop_eq_getElem_cons hl, hoe]
      rw [hd] at p3
      cases ha : actM was o with
      | error k =>
        rw [run_no ha] at p3
        injection p3 with _ p3
        injection p3 with p3 _
        omega
      | ok full =>
        obtain ⟨part, q1, q2, q3⟩ := act_less hok hcp ha cut
        have e : leftM d keep cut = part := by
          unfold leftM keptM
          rw [ho]
          simp only
          rw [if_neg hc, run_app _ _ _ p2, e1, run_yes q1]
          rfl
        refine ⟨e0, hok, hleft _ e (act_goes hok q1).2.ok, .inr ⟨o, full, ho, hcp, hc0, ha, by rw [e]; exact q2, by rw [e]; exact q3, fun hle => ?_⟩⟩
        rw [e]
        rw [less_all hle, ha] at q1
        injection q1 with q1
        exact q1.symm
end Go.Proofs.YtigopecainocgaaGreatDoor

namespace Go.Proofs.YtigopecainocgaaGreatDoor
open Go.RowKit Go.Shelf

def CutW (vs : World) (l : List It) (a b : Int) (pa p1 p2 : Value) (wx : World) : Prop := ∃ g v, pa = .pointer (some ⟨g, 0, none⟩) ∧ p1 = .int .i64 a ∧ p2 = .int .i64 b ∧ Hid (Box wx g 24 #[v]) ∧ Hid (RdI wx v l) ∧ Hid (Below vs.heap.size vs wx)
theorem rem_fits (a : Int) (n : Nat) (hn : n ≤ 1000000) : ∃ k : Nat, wrap64 ((IntKind.u64.wrap a).tmod (↑n + 1)) = (k : Int) ∧ k ≤ n := by
  have h1 : (0 : Int) ≤ IntKind.u64.wrap a := by rw [IntKind.wrap_u64]; omega
  have h2 := Int.tmod_nonneg ((n : Int) + 1) h1
  have h3 := Int.tmod_lt_of_pos (IntKind.u64.wrap a) (show (0 : Int) < (n : Int) + 1 by omega)
  refine ⟨((IntKind.u64.wrap a).tmod (↑n + 1)).toNat, ?_, by omega⟩
  rw [IntWalk.wrap64_in _ (by omega), Int.toNat_of_nonneg h2]
set_option maxRecDepth 100000 in
set_option maxHeartbeats 16000000 in
theorem falls4_any (d : Dsk) (iv wv lv : Value) (ops : List Opn) (a b : Int) (w : World) (h : RdD w iv wv d) (ho : RdO w lv ops) (hz : SzD d)
    (hso : ∀ o ∈ ops, o.path.length ≤ 140737488355328 ∧ o.to.length ≤ 140737488355328) (hT : TabS w) :
    Calls Tryz.prog 4 #[.agg #[iv, wv, .int .i64 d.room], lv, .agg #[.int .i64 a, .int .i64 b]] w (EqR true w) := by
  obtain ⟨x, hx⟩ : ∃ z, z = runD (ownD d) (ops.take 16) true := ⟨_, rfl⟩
  obtain ⟨t, ht⟩ : ∃ t, nowM x.1 = some t := by rw [hx]; exact now_run _ _ _
  have HZ1 : Hid (SzD x.1) := Lib.hid (by rw [hx]; exact run_sz (own_sz hz) _ (fun o h => hso o (List.mem_of_mem_take h)) _)
  have HN : Hid (nowM x.1 = some t) := Lib.hid ht
  have HX := Lib.hid hx
  have HZ0 := Lib.hid (own_sz hz)
  have HSO : Hid (∀ o ∈ ops.take 16, o.path.length ≤ 140737488355328 ∧ o.to.length ≤ 140737488355328) := Lib.hid (fun o h => hso o (List.mem_of_mem_take h))
  have hn8 : x.1.wait.length ≤ 8000 := (now_some ht).1
  obtain ⟨k, hka, hkn⟩ := rem_fits a x.1.wait.length (by omega)
  obtain ⟨q, hqb, hq9⟩ := rem_fits b 699999 (by omega)
  have hqb : wrap64 ((IntKind.u64.wrap b).tmod 700000) = (q : Int) := hqb
  obtain ⟨c, hc⟩ : ∃ z, z = leftM x.1 k q := ⟨_, rfl⟩
  obtain ⟨was, hwas⟩ : ∃ z, z = (runM x.1.safe (x.1.wait.take k)).1 := ⟨_, rfl⟩
  have HF : Hid (FallF x.1 k q was) := Lib.hid (by rw [hwas]; exact falls_of ht k q hkn)
  have HC : Hid (crashM x.1 k q = (freshM c, 0)) := Lib.hid (by unfold crashM; rw [ht]; simp only; rw [← hc])
  have HCL := Lib.hid hc
  have HNC : Hid (nowM (freshM c) = some c) := Lib.hid (by rw [hc]; exact HF.out.left)
  have HZC : Hid (SzD (freshM c)) := Lib.hid ⟨tree_sz (tree_ok (now_valid HNC.out)), fun o ho => (by cases ho), ⟨by show (_ : Int) ≤ -1; omega, by show (-1 : Int) ≤ _; omega⟩⟩
  have HKN := Lib.hid hkn
  have HQ := Lib.hid hq9
  have HT := Lib.hid hT
  obtain ⟨w1, hw1⟩ : ∃ z, z = (w.alloc (.cells #[iv, wv, .int .i64 d.room] 27)).alloc (.cells #[.int .i64 a, .int .i64 b] 49) := ⟨_, rfl⟩
  obtain ⟨bI, hbI⟩ : ∃ z, z = w.heap.size := ⟨_, rfl⟩
  have HB : Hid (Below w.heap.size w w1) := Lib.hid (by rw [hw1]; exact bch (below_new _ _) (below_new _ _))
  have XI : Hid (Box w1 bI 27 #[iv, wv, .int .i64 d.room]) := Lib.hid (by rw [hw1, hbI]; exact box_new.alloc _)
  have XT : Hid (Box w1 (bI + 1) 49 #[.int .i64 a, .int .i64 b]) := Lib.hid (by rw [hw1, hbI, show w.heap.size + 1 = (w.alloc (.cells #[iv, wv, .int .i64 d.room] 27)).heap.size from by simp]; exact box_new)
  have RI : Hid (RdD w1 iv wv d) := Lib.hid (h.on HB.out)
  have RL : Hid (RdO w1 lv ops) := Lib.hid (RdF.on ho HB.out)
  obtain ⟨ia, ic, rfl, _⟩ := h.items.open
  obtain ⟨wa, wc, rfl, _⟩ := h.wait.open
  obtain ⟨oa, oc, rfl, _⟩ := ho.open
  have e0 : ((0 : Int) == 0) = true := rfl
  clear h ho hz hso hT hq9 hx ht hc hwas
  go_enter Tryz.func4, Tryz.ntmps4
  go_upto_region 1 with fail
  rw [← hw1, ← hbI]
  clear hw1 hbI
  go_wp2_with fail
  refine (wakes8_any w1 (HT.out.on HB.out)).mono ?_
  rintro e w2 ⟨rfl, hb⟩
  have hcar : Below w1.heap.size w1 w2 := hb
  have XI := Lib.hid (XI.out.on hcar)
  have XT := Lib.hid (XT.out.on hcar)
  have RI := Lib.hid (RI.out.on hcar)
  have RL := Lib.hid (RL.out.on hcar)
  have HB := Lib.hid (bch HB.out hcar)
  clear hcar
  have p0 := XI.out.cell (k := 0) rfl
  have p1 := XI.out.cell (k := 1) rfl
  have p2 := XI.out.cell (k := 2) rfl
  clear hb
  go_wp2_with fail
  clear p0 p1 p2
  refine (own8_any d _ _ w2 RI.out).mono ?_
  rintro e w3 ⟨iv, wv, rfl, hI, hW, hb⟩
  obtain ⟨a1, n1, c1, rfl⟩ := own_any3 hI
  obtain ⟨a2, n2, c2, rfl⟩ := own_any3 hW
  have hcar : Below w2.heap.size w2 w3 := hb
  have XT := Lib.hid (XT.out.on hcar)
  have RL := Lib.hid (RL.out.on hcar)
  have HB := Lib.hid (bch HB.out hcar)
  clear hcar
  have RA : Hid (RdD w3 (.slice a1 n1 c1) (.slice a2 n2 c2) (ownD d)) := Lib.hid ⟨OwnI.rd hI, OwnO.rd hW⟩
  clear hI hW hb
  go_wp2_with fail
  refine (ops8_any ops _ w3 RL.out).mono ?_
  rintro e w4 ⟨lv, rfl, hL, hb⟩
  obtain ⟨a3, n3, c3, rfl⟩ := own_any3 hL
  have hcar : Below w3.heap.size w3 w4 := hb
  have XT := Lib.hid (XT.out.on hcar)
  have RA := Lib.hid (RA.out.on hcar)
  have HB := Lib.hid (bch HB.out hcar)
  clear hcar
  have RU : Hid (RdO w4 (.slice a3 n3 c3) (ops.take 16)) := Lib.hid (OwnO.rd hL)
  clear hL hb
  go_wp2_with fail
  refine (runF_is (ownD d) _ _ (ops.take 16) _ true w4 RA.out HZ0.out RU.out (Nat.le_trans (List.length_take_le _ _) (by decide)) HSO.out (HT.out.on HB.out)).mono ?_
  rintro e w5 ⟨iv, wv, he, hI, hW, hb⟩
  rw [← HX.out] at he hI hW
  subst he
  obtain ⟨a4, n4, c4, rfl⟩ := own_any3 hI
  obtain ⟨a5, c5, h5⟩ := ownR_any hW
  have h5 : wv = .slice a5 x.1.wait.length c5 := h5
  subst h5
  obtain ⟨VA, hVA⟩ : ∃ z, z = (w5.alloc (.cells #[.slice none 0 0, .slice none 0 0, .int .i64 0] 27)).setRow w5.heap.size #[.slice a4 n4 c4, .slice a5 x.1.wait.length c5, .int .i64 x.1.room] := ⟨_, rfl⟩
  obtain ⟨bA, hbA⟩ : ∃ z, z = w5.heap.size := ⟨_, rfl⟩
  have hnA : Below w5.heap.size w5 VA := by rw [hVA]; exact below_row (below_new _ _) (Nat.le_refl _) _
  have XA : Hid (Box VA bA 27 #[.slice a4 n4 c4, .slice a5 x.1.wait.length c5, .int .i64 x.1.room]) := Lib.hid (by rw [hVA, hbA]; exact box_new.row _)
  have HVA := Lib.hid hVA
  have HWA := Lib.hid hbA
  have hcar : Below w4.heap.size w4 VA := bch hb hnA
  have XT := Lib.hid (XT.out.on hcar)
  have HB := Lib.hid (bch HB.out hcar)
  clear hcar
  have RA : Hid (RdD VA (.slice a4 n4 c4) (.slice a5 x.1.wait.length c5) x.1) := Lib.hid (RdD.on ⟨OwnI.rd hI, OwnO.rd hW⟩ hnA)
  have p0 := XA.out.cell (k := 0) rfl
  have p1 := XA.out.cell (k := 1) rfl
  have p2 := XA.out.cell (k := 2) rfl
  clear hI hW hb hnA
  simp only
  clear hVA hbA
  go_wp2_with (first | (refine wpList_store_row rfl 27 (.tmp 7) (.tmp 30) rfl w5.heap.size #[.slice a4 n4 c4, .slice a5 x.1.wait.length c5, .int .i64 x.1.room] rfl rfl 27 #[.slice none 0 0, .slice none 0 0, .int .i64 0] box_new (info27 _ _ _) rfl (darr_one _ _ _ _ _ _ _) ?_; rw [← HVA.out, ← HWA.out]) | fail)
  clear p0 p1 p2
  refine (check_is x.1 _ _ VA RA.out HZ1.out (HT.out.on HB.out)).mono ?_
  rintro e w6 ⟨he, hb⟩
  rw [HN.out] at he
  have he : e = .returned (.int .i64 0) := he
  subst he
  have hcar : Below VA.heap.size VA w6 := hb
  have XT := Lib.hid (XT.out.on hcar)
  have XA := Lib.hid (XA.out.on hcar)
  have RA := Lib.hid (RA.out.on hcar)
  have HB := Lib.hid (bch HB.out hcar)
  clear hcar
  have p0 := XT.out.cell (k := 0) rfl
  have p1 := XT.out.cell (k := 1) rfl
  have p2 := XA.out.cell (k := 1) rfl
  clear hb
  have k0 : (0 : Int) ≤ (x.1.wait.length : Int) := by omega
  have k1 : (x.1.wait.length : Int) ≤ 8000 := by omega
  go_wp2_with fail
  obtain ⟨wd, hwd⟩ : ∃ z, z = World.drew w6 := ⟨_, rfl⟩
  have hb : Below w6.heap.size w6 wd := by rw [hwd]; exact (Below.refl _ _).drew
  go_region
  try rw [← hwd]
  rw [hka, hqb]
  clear hwd
  clear p0 p1 p2
  have hcar : Below w6.heap.size w6 wd := hb
  have XT := Lib.hid (XT.out.on hcar)
  have XA := Lib.hid (XA.out.on hcar)
  have RA := Lib.hid (RA.out.on hcar)
  have HB := Lib.hid (bch HB.out hcar)
  clear hcar
  have p0 := XA.out.cell (k := 0) rfl
  have p1 := XA.out.cell (k := 1) rfl
  have p2 := XA.out.cell (k := 2) rfl
  clear hb
  go_wp2_with fail
  clear p0 p1 p2
  refine (crash_is x.1 _ _ k q wd RA.out HZ1.out HKN.out (Nat.le_trans HQ.out (by decide)) (HT.out.on HB.out)).mono ?_
  rintro e w7 ⟨iv, wv, he, hI, hW, hb⟩
  rw [HC.out] at he hI hW
  have he : e = .returned (.tuple #[.agg #[iv, wv, .int .i64 (-1)], .int .i64 0]) := he
  subst he
  obtain ⟨a6, c6, h6⟩ := ownR_any hI
  have h6 : iv = .slice a6 c.length c6 := h6
  subst h6
  obtain ⟨a7, c7, h7⟩ := ownR_any hW
  have h7 : wv = .slice a7 0 c7 := h7
  subst h7
  obtain ⟨VB, hVB⟩ : ∃ z, z = (w7.alloc (.cells #[.slice none 0 0, .slice none 0 0, .int .i64 0] 27)).setRow w7.heap.size #[.slice a6 c.length c6, .slice a7 0 c7, .int .i64 (-1)] := ⟨_, rfl⟩
  obtain ⟨bB, hbB⟩ : ∃ z, z = w7.heap.size := ⟨_, rfl⟩
  have hnB : Below w7.heap.size w7 VB := by rw [hVB]; exact below_row (below_new _ _) (Nat.le_refl _) _
  have XB : Hid (Box VB bB 27 #[.slice a6 c.length c6, .slice a7 0 c7, .int .i64 (-1)]) := Lib.hid (by rw [hVB, hbB]; exact box_new.row _)
  have HVB := Lib.hid hVB
  have HWB := Lib.hid hbB
  have hcar : Below wd.heap.size wd VB := bch hb hnB
  have XA := Lib.hid (XA.out.on hcar)
  have RA := Lib.hid (RA.out.on hcar)
  have HB := Lib.hid (bch HB.out hcar)
  clear hcar
  have RB : Hid (RdD VB (.slice a6 c.length c6) (.slice a7 0 c7) (freshM c)) := Lib.hid (RdD.on ⟨OwnI.rd hI, OwnO.rd hW⟩ hnB)
  have p0 := XB.out.cell (k := 0) rfl
  have p1 := XB.out.cell (k := 1) rfl
  have p2 := XB.out.cell (k := 2) rfl
  clear hI hW hb hnB
  clear hVB hbB
  go_wp2_with (first | (refine wpList_store_row rfl 27 (.tmp 12) (.tmp 56) rfl w7.heap.size #[.slice a6 c.length c6, .slice a7 0 c7, .int .i64 (-1)] rfl rfl 27 #[.slice none 0 0, .slice none 0 0, .int .i64 0] box_new (info27 _ _ _) rfl (darr_one _ _ _ _ _ _ _) ?_; rw [← HVB.out, ← HWB.out]) | fail)
  clear p0 p1 p2
  refine (check_is (freshM c) _ _ VB RB.out HZC.out (HT.out.on HB.out)).mono ?_
  rintro e w8 ⟨he, hb⟩
  rw [HNC.out] at he
  have he : e = .returned (.int .i64 0) := he
  subst he
  have hcar : Below VB.heap.size VB w8 := hb
  have XA := Lib.hid (XA.out.on hcar)
  have RA := Lib.hid (RA.out.on hcar)
  have XB := Lib.hid (XB.out.on hcar)
  have RB := Lib.hid (RB.out.on hcar)
  have HB := Lib.hid (bch HB.out hcar)
  clear hcar
  have p0 := XB.out.cell (k := 1) rfl
  have p1 := XB.out.cell (k := 2) rfl
  clear hb
  go_wp2_with fail
  clear p0 p1
  have hkn2 := HKN.out
  have s0 : (0 : Int) ≤ (k : Int) := by omega
  have s2 : (k : Int) ≤ (x.1.wait.length : Int) := Int.ofNat_le.2 hkn2
  obtain ⟨_, _, e5, hc5, hc6, _⟩ := RA.out.wait.open
  cases e5
  have s1 : (k : Int) ≤ (c5 : Int) := Int.le_trans s2 (by omega)
  obtain ⟨v0, hv0⟩ : ∃ z, z = World.drew w8 := ⟨_, rfl⟩
  obtain ⟨vs, hvs⟩ : ∃ z, z = World.drew w8 := ⟨_, rfl⟩
  have hb7 : Below w8.heap.size w8 vs := by rw [hvs]; exact (Below.refl _ _).drew
  have XAv : Hid (Box vs bA 27 #[.slice a4 n4 c4, .slice a5 x.1.wait.length c5, .int .i64 x.1.room]) := Lib.hid (XA.out.on hb7)
  have XBv := Lib.hid (XB.out.on hb7)
  have RAv : Hid (RdD vs (.slice a4 n4 c4) (.slice a5 x.1.wait.length c5) x.1) := Lib.hid (RA.out.on hb7)
  have RBv := Lib.hid (RB.out.on hb7)
  have HBv : Hid (Below w.heap.size w vs) := Lib.hid (bch HB.out hb7)
  have HR2 : Hid (∀ W, Below vs.heap.size vs W → Calls Tryz.prog 25 #[.agg #[.slice a4 n4 c4], .slice a5 k c5] W fun e w' => ∃ v', e = .returned (.tuple #[.agg #[v'], .int .i64 (k : Nat), .int .i64 0]) ∧ OwnI w' W.heap.size v' was ∧ Below W.heap.size W w') := Lib.hid (fun W hW => by
    refine (run_any x.1.safe _ (x.1.wait.take k) _ W (RAv.out.items.on hW) HZ1.out.safe (RdO.take rfl (RAv.out.wait.on hW) k HKN.out) (fun o h => HZ1.out.wait o (List.mem_of_mem_take h)) ((HT.out.on HBv.out).on hW)).mono fun e w' ⟨hb, hc⟩ => ?_
    rcases hc with ⟨h0, _⟩ | ⟨_, v', he, hown⟩
    · rw [(now_some HN.out).2.2.1] at h0; cases h0
    · rw [HF.out.run] at he hown
      exact ⟨v', he, hown, hb⟩)
  clear hb7 hc5 hc6 hkn2 XA XB RA RB
  go_cut [14, 15, 13] (CutW vs was k 0)
  case first =>
    rename_i J2 K2 hJ hK2
    refine wp_region_held_drew (S := fun w' => Below vs.heap.size vs w') (by kernel_rfl) (by rw [hvs]; exact Below.refl _ _) (fun hHeld => ?_)
    rw [← hv0] at hHeld ⊢
    clear hv0 hvs
    refine wpAnyH_take (i := 0) (oi := { dst := some 77, op := Op.fieldAddr 27 (Operand.tmp 7) 0, type := 0, pos := "outright.go:26", after := #[], guard := none }) (v := ?_) rfl (by kernel_rfl) (by kernel_rfl) (by kernel_rfl) (fun _ _ _ h => h) (Or.inl ⟨by rfl, ?_⟩) hHeld ?_
    rotate_left
    · (intro w hSw; go_simp; try with_reducible rfl)
    (try simp only [Act.put, List.setIfInBounds_toArray, List.set_cons_zero, List.set_cons_succ])
    refine wpAnyH_take (i := 1) (oi := { dst := some 78, op := Op.load 24 (Operand.tmp 77), type := 24, pos := "outright.go:26", after := #[{ on := 0, ground := Ground.data }], guard := none }) (v := ?_) rfl (by kernel_rfl) (by kernel_rfl) (by kernel_rfl) (fun _ _ _ h => h) (Or.inl ⟨by rfl, ?_⟩) hHeld ?_
    rotate_left
    · (intro w hSw; have p0 : w.cell? ⟨bA, 0, none⟩ = some (.slice a4 n4 c4) := (XAv.out.on hSw).cell (k := 0) rfl; go_simp; try with_reducible rfl)
    (try simp only [Act.put, List.setIfInBounds_toArray, List.set_cons_zero, List.set_cons_succ])
    refine wpAnyH_take (i := 2) (oi := { dst := some 79, op := Op.fieldAddr 27 (Operand.tmp 7) 1, type := 0, pos := "outright.go:26", after := #[], guard := none }) (v := ?_) rfl (by kernel_rfl) (by kernel_rfl) (by kernel_rfl) (fun _ _ _ h => h) (Or.inl ⟨by rfl, ?_⟩) hHeld ?_
    rotate_left
    · (intro w hSw; go_simp; try with_reducible rfl)
    (try simp only [Act.put, List.setIfInBounds_toArray, List.set_cons_zero, List.set_cons_succ])
    refine wpAnyH_take (i := 3) (oi := { dst := some 80, op := Op.load 25 (Operand.tmp 79), type := 25, pos := "outright.go:26", after := #[{ on := 2, ground := Ground.data }], guard := none }) (v := ?_) rfl (by kernel_rfl) (by kernel_rfl) (by kernel_rfl) (fun _ _ _ h => h) (Or.inl ⟨by rfl, ?_⟩) hHeld ?_
    rotate_left
    · (intro w hSw; have p1 : w.cell? ⟨bA, 1, none⟩ = some (.slice a5 x.1.wait.length c5) := (XAv.out.on hSw).cell (k := 1) rfl; go_simp; try with_reducible rfl)
    (try simp only [Act.put, List.setIfInBounds_toArray, List.set_cons_zero, List.set_cons_succ])
    refine wpAnyH_take (i := 4) (oi := { dst := some 81, op := Op.move (Operand.tmp 10), type := 3, pos := "outright.go:26", after := #[], guard := none }) (v := ?_) rfl (by kernel_rfl) (by kernel_rfl) (by kernel_rfl) (fun _ _ _ h => h) (Or.inl ⟨by rfl, ?_⟩) hHeld ?_
    rotate_left
    · (intro w hSw; go_simp; try with_reducible rfl)
    (try simp only [Act.put, List.setIfInBounds_toArray, List.set_cons_zero, List.set_cons_succ])
    refine wpAnyH_take (i := 5) (oi := { dst := some 82, op := Op.slice 25 (Operand.tmp 80) none (some (Operand.tmp 81)) none, type := 25, pos := "outright.go:26", after := #[{ on := 3, ground := Ground.data }, { on := 4, ground := Ground.data }], guard := none }) (v := ?_) rfl (by kernel_rfl) (by kernel_rfl) (by kernel_rfl) (fun _ _ _ h => h) (Or.inl ⟨by rfl, ?_⟩) hHeld ?_
    rotate_left
    · (intro w hSw; go_simp; try with_reducible rfl)
    (try simp only [Act.put, List.setIfInBounds_toArray, List.set_cons_zero, List.set_cons_succ])
    refine wpAnyH_ready (rs := [6, 11]) (by kernel_rfl) (by simp) (AllReadyH.cons (o := { dst := some 83, op := Op.call { callee := Callee.value (Operand.func 25), args := #[Operand.tmp 78, Operand.tmp 82], argTypes := #[24, 25] }, type := 55, pos := "outright.go:26", after := #[{ on := 1, ground := Ground.data }, { on := 5, ground := Ground.data }], guard := none }) rfl (fun K hK => ?_) (AllReadyH.cons (o := { dst := some 14, op := Op.alloc 24, type := 0, pos := "outright.go:26", after := #[], guard := none }) rfl (fun K hK => ?_) AllReadyH.nil))
    · go_simp
      refine (HR2.out _ hHeld).mono ?_
      rintro e v106 ⟨v9, rfl, hI9, hba⟩
      have HI9 : Hid (OwnI v106 vs.heap.size v9 was) := Lib.hid (own_base hI9 hHeld.size)
      obtain ⟨xa, xn, xc, rfl⟩ := own_any3 HI9.out
      refine hK.out _ _ (bch hHeld hba) (fun hHeld => ?_)
      clear hba hI9
      (try simp only [Act.put, List.setIfInBounds_toArray, List.set_cons_zero, List.set_cons_succ])
      refine wpAnyH_take (i := 7) (oi := { dst := some 76, op := Op.move (Operand.tmp 83), type := 55, pos := "outright.go:26", after := #[{ on := 6, ground := Ground.data }], guard := none }) (v := ?_) rfl (by kernel_rfl) (by kernel_rfl) (by kernel_rfl) (fun _ _ _ h => h) (Or.inl ⟨by rfl, ?_⟩) hHeld ?_
      rotate_left
      · (intro w hSw; go_simp; try with_reducible rfl)
      (try simp only [Act.put, List.setIfInBounds_toArray, List.set_cons_zero, List.set_cons_succ])
      refine wpAnyH_take (i := 8) (oi := { dst := some 84, op := Op.extract (Operand.tmp 76) 0, type := 24, pos := "outright.go:26", after := #[{ on := 7, ground := Ground.data }], guard := none }) (v := ?_) rfl (by kernel_rfl) (by kernel_rfl) (by kernel_rfl) (fun _ _ _ h => h) (Or.inl ⟨by rfl, ?_⟩) hHeld ?_
      rotate_left
      · (intro w hSw; go_simp; try with_reducible rfl)
      (try simp only [Act.put, List.setIfInBounds_toArray, List.set_cons_zero, List.set_cons_succ])
      refine wpAnyH_take (i := 9) (oi := { dst := some 85, op := Op.extract (Operand.tmp 76) 1, type := 3, pos := "outright.go:26", after := #[{ on := 7, ground := Ground.data }, { on := 12, ground := Ground.gcOnly Departure.lateStores }], guard := none }) (v := ?_) rfl (by kernel_rfl) (by kernel_rfl) (by kernel_rfl) (fun _ _ _ h => h) (Or.inl ⟨by rfl, ?_⟩) hHeld ?_
      rotate_left
      · (intro w hSw; go_simp; try with_reducible rfl)
      (try simp only [Act.put, List.setIfInBounds_toArray, List.set_cons_zero, List.set_cons_succ])
      refine wpAnyH_take (i := 10) (oi := { dst := some 86, op := Op.extract (Operand.tmp 76) 2, type := 32, pos := "outright.go:26", after := #[{ on := 7, ground := Ground.data }, { on := 13, ground := Ground.gcOnly Departure.lateStores }], guard := none }) (v := ?_) rfl (by kernel_rfl) (by kernel_rfl) (by kernel_rfl) (fun _ _ _ h => h) (Or.inl ⟨by rfl, ?_⟩) hHeld ?_
      rotate_left
      · (intro w hSw; go_simp; try with_reducible rfl)
      (try simp only [Act.put, List.setIfInBounds_toArray, List.set_cons_zero, List.set_cons_succ])
      refine wpAnyH_ready (rs := [11]) (by kernel_rfl) (by simp) (AllReadyH.cons (o := { dst := some 14, op := Op.alloc 24, type := 0, pos := "outright.go:26", after := #[], guard := none }) rfl (fun K hK => ?_) AllReadyH.nil)
      · go_simp
        have hba : Below v106.heap.size v106 (v106.alloc (.cells #[.slice none 0 0] 24)) := below_new _ _
        have Z7 : Hid (Box (v106.alloc (.cells #[.slice none 0 0] 24)) v106.heap.size 24 #[.slice none 0 0]) := Lib.hid box_new
        have HB7 : Hid (vs.heap.size ≤ v106.heap.size) := Lib.hid hHeld.size
        have HI9 := Lib.hid (HI9.out.on hba)
        obtain ⟨v111, hv9⟩ : ∃ q, q = (v106.alloc (.cells #[.slice none 0 0] 24)) := ⟨_, rfl⟩
        refine hK.out _ _ (bch hHeld hba) (fun hHeld => ?_)
        clear hba
        rw [← hv9] at Z7 hHeld HI9 ⊢
        clear hv9
        obtain ⟨b7, hg9⟩ : ∃ q, q = v106.heap.size := ⟨_, rfl⟩
        rw [← hg9] at Z7 HB7 ⊢
        clear hg9
        (try simp only [Act.put, List.setIfInBounds_toArray, List.set_cons_zero, List.set_cons_succ])
        refine wpAnyH_ready (rs := [12]) (by kernel_rfl) (by simp) (AllReadyH.cons (o := { dst := none, op := Op.store 24 (Operand.tmp 14) (Operand.tmp 84), type := 0, pos := "outright.go:26", after := #[{ on := 11, ground := Ground.data }, { on := 8, ground := Ground.data }, { on := 6, ground := Ground.chain }, { on := 0, ground := Ground.phase }, { on := 1, ground := Ground.phase }, { on := 2, ground := Ground.phase }, { on := 3, ground := Ground.phase }, { on := 4, ground := Ground.phase }, { on := 5, ground := Ground.phase }, { on := 6, ground := Ground.phase }, { on := 7, ground := Ground.phase }, { on := 8, ground := Ground.phase }, { on := 9, ground := Ground.textOnly Departure.lateStores }, { on := 10, ground := Ground.textOnly Departure.lateStores }, { on := 11, ground := Ground.phase }], guard := none }) rfl (fun K hK => ?_) AllReadyH.nil)
        · refine wp_store_if (by rfl) 24 (.tmp 14) (.tmp 84) rfl b7 24 #[.slice none 0 0] #[.slice xa xn xc] rfl rfl Z7.out (info24 _) rfl (slice_one _ _ _) ?_
          have Z8 : Hid (Box (v111.setRow b7 #[.slice xa xn xc]) b7 24 #[.slice xa xn xc]) := Lib.hid (Z7.out.row _)
          have HR9 : Hid (RdI (v111.setRow b7 #[.slice xa xn xc]) (.slice xa xn xc) was) := Lib.hid (OwnI.rd (own_row' (cs' := #[.slice xa xn xc]) HI9.out Z7.out (by decide)))
          refine hK.out _ _ (below_row hHeld HB7.out _) (fun hHeld => ?_)
          clear Z7
          (try simp only [Act.put])
          refine wpAnyH_take (i := 13) (oi := { dst := some 15, op := Op.assign (Operand.tmp 85), type := 3, pos := "outright.go:26", after := #[{ on := 9, ground := Ground.data }, { on := 12, ground := Ground.chain }, { on := 0, ground := Ground.phase }, { on := 1, ground := Ground.phase }, { on := 2, ground := Ground.phase }, { on := 3, ground := Ground.phase }, { on := 4, ground := Ground.phase }, { on := 5, ground := Ground.phase }, { on := 6, ground := Ground.phase }, { on := 7, ground := Ground.phase }, { on := 8, ground := Ground.phase }, { on := 9, ground := Ground.phase }, { on := 10, ground := Ground.textOnly Departure.lateStores }, { on := 11, ground := Ground.phase }, { on := 12, ground := Ground.phase }], guard := none }) (v := ?_) rfl (by kernel_rfl) (by kernel_rfl) (by kernel_rfl) (fun _ _ _ h => h) (Or.inl ⟨by rfl, ?_⟩) hHeld ?_
          rotate_left
          · (intro w hSw; go_simp; try with_reducible rfl)
          (try simp only [Act.put, List.setIfInBounds_toArray, List.set_cons_zero, List.set_cons_succ])
          refine wpAnyH_take (i := 14) (oi := { dst := some 13, op := Op.assign (Operand.tmp 86), type := 32, pos := "outright.go:26", after := #[{ on := 10, ground := Ground.data }, { on := 13, ground := Ground.chain }, { on := 0, ground := Ground.phase }, { on := 1, ground := Ground.phase }, { on := 2, ground := Ground.phase }, { on := 3, ground := Ground.phase }, { on := 4, ground := Ground.phase }, { on := 5, ground := Ground.phase }, { on := 6, ground := Ground.phase }, { on := 7, ground := Ground.phase }, { on := 8, ground := Ground.phase }, { on := 9, ground := Ground.phase }, { on := 10, ground := Ground.phase }, { on := 11, ground := Ground.phase }, { on := 12, ground := Ground.phase }, { on := 13, ground := Ground.phase }], guard := none }) (v := ?_) rfl (by kernel_rfl) (by kernel_rfl) (by kernel_rfl) (fun _ _ _ h => h) (Or.inl ⟨by rfl, ?_⟩) hHeld ?_
          rotate_left
          · (intro w hSw; go_simp; try with_reducible rfl)
          (try simp only [Act.put, List.setIfInBounds_toArray, List.set_cons_zero, List.set_cons_succ])
          refine wpAnyH_done (by kernel_rfl) ?_ _
          first | refine hK2 _ _ (Met.intro (hJ _ _ ?_)) | refine Met.intro (hJ _ _ ?_)
          (repeat apply Exists.intro)
          refine ⟨?_, rfl⟩
          exact ⟨_, _, rfl, rfl, rfl, Z8, HR9, Lib.hid hHeld⟩
    · go_simp
      have hba : Below v0.heap.size v0 (v0.alloc (.cells #[.slice none 0 0] 24)) := below_new _ _
      have Z7 : Hid (Box (v0.alloc (.cells #[.slice none 0 0] 24)) v0.heap.size 24 #[.slice none 0 0]) := Lib.hid box_new
      have HB7 : Hid (vs.heap.size ≤ v0.heap.size) := Lib.hid hHeld.size
      obtain ⟨v111, hv9⟩ : ∃ q, q = (v0.alloc (.cells #[.slice none 0 0] 24)) := ⟨_, rfl⟩
      refine hK.out _ _ (bch hHeld hba) (fun hHeld => ?_)
      clear hba
      rw [← hv9] at Z7 hHeld ⊢
      clear hv9
      obtain ⟨b7, hg9⟩ : ∃ q, q = v0.heap.size := ⟨_, rfl⟩
      rw [← hg9] at Z7 HB7 ⊢
      clear hg9
      (try simp only [Act.put, List.setIfInBounds_toArray, List.set_cons_zero, List.set_cons_succ])
      refine wpAnyH_ready (rs := [6]) (by kernel_rfl) (by simp) (AllReadyH.cons (o := { dst := some 83, op := Op.call { callee := Callee.value (Operand.func 25), args := #[Operand.tmp 78, Operand.tmp 82], argTypes := #[24, 25] }, type := 55, pos := "outright.go:26", after := #[{ on := 1, ground := Ground.data }, { on := 5, ground := Ground.data }], guard := none }) rfl (fun K hK => ?_) AllReadyH.nil)
      · go_simp
        refine (HR2.out _ hHeld).mono ?_
        rintro e v106 ⟨v9, rfl, hI9, hba⟩
        have HI9 : Hid (OwnI v106 vs.heap.size v9 was) := Lib.hid (own_base hI9 hHeld.size)
        obtain ⟨xa, xn, xc, rfl⟩ := own_any3 HI9.out
        have Z7 := Lib.hid (Z7.out.on hba)
        refine hK.out _ _ (bch hHeld hba) (fun hHeld => ?_)
        clear hba hI9
        (try simp only [Act.put, List.setIfInBounds_toArray, List.set_cons_zero, List.set_cons_succ])
        refine wpAnyH_take (i := 7) (oi := { dst := some 76, op := Op.move (Operand.tmp 83), type := 55, pos := "outright.go:26", after := #[{ on := 6, ground := Ground.data }], guard := none }) (v := ?_) rfl (by kernel_rfl) (by kernel_rfl) (by kernel_rfl) (fun _ _ _ h => h) (Or.inl ⟨by rfl, ?_⟩) hHeld ?_
        rotate_left
        · (intro w hSw; go_simp; try with_reducible rfl)
        (try simp only [Act.put, List.setIfInBounds_toArray, List.set_cons_zero, List.set_cons_succ])
        refine wpAnyH_take (i := 8) (oi := { dst := some 84, op := Op.extract (Operand.tmp 76) 0, type := 24, pos := "outright.go:26", after := #[{ on := 7, ground := Ground.data }], guard := none }) (v := ?_) rfl (by kernel_rfl) (by kernel_rfl) (by kernel_rfl) (fun _ _ _ h => h) (Or.inl ⟨by rfl, ?_⟩) hHeld ?_
        rotate_left
        · (intro w hSw; go_simp; try with_reducible rfl)
        (try simp only [Act.put, List.setIfInBounds_toArray, List.set_cons_zero, List.set_cons_succ])
        refine wpAnyH_take (i := 9) (oi := { dst := some 85, op := Op.extract (Operand.tmp 76) 1, type := 3, pos := "outright.go:26", after := #[{ on := 7, ground := Ground.data }, { on := 12, ground := Ground.gcOnly Departure.lateStores }], guard := none }) (v := ?_) rfl (by kernel_rfl) (by kernel_rfl) (by kernel_rfl) (fun _ _ _ h => h) (Or.inl ⟨by rfl, ?_⟩) hHeld ?_
        rotate_left
        · (intro w hSw; go_simp; try with_reducible rfl)
        (try simp only [Act.put, List.setIfInBounds_toArray, List.set_cons_zero, List.set_cons_succ])
        refine wpAnyH_take (i := 10) (oi := { dst := some 86, op := Op.extract (Operand.tmp 76) 2, type := 32, pos := "outright.go:26", after := #[{ on := 7, ground := Ground.data }, { on := 13, ground := Ground.gcOnly Departure.lateStores }], guard := none }) (v := ?_) rfl (by kernel_rfl) (by kernel_rfl) (by kernel_rfl) (fun _ _ _ h => h) (Or.inl ⟨by rfl, ?_⟩) hHeld ?_
        rotate_left
        · (intro w hSw; go_simp; try with_reducible rfl)
        (try simp only [Act.put, List.setIfInBounds_toArray, List.set_cons_zero, List.set_cons_succ])
        refine wpAnyH_ready (rs := [12]) (by kernel_rfl) (by simp) (AllReadyH.cons (o := { dst := none, op := Op.store 24 (Operand.tmp 14) (Operand.tmp 84), type := 0, pos := "outright.go:26", after := #[{ on := 11, ground := Ground.data }, { on := 8, ground := Ground.data }, { on := 6, ground := Ground.chain }, { on := 0, ground := Ground.phase }, { on := 1, ground := Ground.phase }, { on := 2, ground := Ground.phase }, { on := 3, ground := Ground.phase }, { on := 4, ground := Ground.phase }, { on := 5, ground := Ground.phase }, { on := 6, ground := Ground.phase }, { on := 7, ground := Ground.phase }, { on := 8, ground := Ground.phase }, { on := 9, ground := Ground.textOnly Departure.lateStores }, { on := 10, ground := Ground.textOnly Departure.lateStores }, { on := 11, ground := Ground.phase }], guard := none }) rfl (fun K hK => ?_) AllReadyH.nil)
        · refine wp_store_if (by rfl) 24 (.tmp 14) (.tmp 84) rfl b7 24 #[.slice none 0 0] #[.slice xa xn xc] rfl rfl Z7.out (info24 _) rfl (slice_one _ _ _) ?_
          have Z8 : Hid (Box (v106.setRow b7 #[.slice xa xn xc]) b7 24 #[.slice xa xn xc]) := Lib.hid (Z7.out.row _)
          have HR9 : Hid (RdI (v106.setRow b7 #[.slice xa xn xc]) (.slice xa xn xc) was) := Lib.hid (OwnI.rd (own_row' (cs' := #[.slice xa xn xc]) HI9.out Z7.out (by decide)))
          refine hK.out _ _ (below_row hHeld HB7.out _) (fun hHeld => ?_)
          clear Z7
          (try simp only [Act.put])
          refine wpAnyH_take (i := 13) (oi := { dst := some 15, op := Op.assign (Operand.tmp 85), type := 3, pos := "outright.go:26", after := #[{ on := 9, ground := Ground.data }, { on := 12, ground := Ground.chain }, { on := 0, ground := Ground.phase }, { on := 1, ground := Ground.phase }, { on := 2, ground := Ground.phase }, { on := 3, ground := Ground.phase }, { on := 4, ground := Ground.phase }, { on := 5, ground := Ground.phase }, { on := 6, ground := Ground.phase }, { on := 7, ground := Ground.phase }, { on := 8, ground := Ground.phase }, { on := 9, ground := Ground.phase }, { on := 10, ground := Ground.textOnly Departure.lateStores }, { on := 11, ground := Ground.phase }, { on := 12, ground := Ground.phase }], guard := none }) (v := ?_) rfl (by kernel_rfl) (by kernel_rfl) (by kernel_rfl) (fun _ _ _ h => h) (Or.inl ⟨by rfl, ?_⟩) hHeld ?_
          rotate_left
          · (intro w hSw; go_simp; try with_reducible rfl)
          (try simp only [Act.put, List.setIfInBounds_toArray, List.set_cons_zero, List.set_cons_succ])
          refine wpAnyH_take (i := 14) (oi := { dst := some 13, op := Op.assign (Operand.tmp 86), type := 32, pos := "outright.go:26", after := #[{ on := 10, ground := Ground.data }, { on := 13, ground := Ground.chain }, { on := 0, ground := Ground.phase }, { on := 1, ground := Ground.phase }, { on := 2, ground := Ground.phase }, { on := 3, ground := Ground.phase }, { on := 4, ground := Ground.phase }, { on := 5, ground := Ground.phase }, { on := 6, ground := Ground.phase }, { on := 7, ground := Ground.phase }, { on := 8, ground := Ground.phase }, { on := 9, ground := Ground.phase }, { on := 10, ground := Ground.phase }, { on := 11, ground := Ground.phase }, { on := 12, ground := Ground.phase }, { on := 13, ground := Ground.phase }], guard := none }) (v := ?_) rfl (by kernel_rfl) (by kernel_rfl) (by kernel_rfl) (fun _ _ _ h => h) (Or.inl ⟨by rfl, ?_⟩) hHeld ?_
          rotate_left
          · (intro w hSw; go_simp; try with_reducible rfl)
          (try simp only [Act.put, List.setIfInBounds_toArray, List.set_cons_zero, List.set_cons_succ])
          refine wpAnyH_done (by kernel_rfl) ?_ _
          first | refine hK2 _ _ (Met.intro (hJ _ _ ?_)) | refine Met.intro (hJ _ _ ?_)
          (repeat apply Exists.intro)
          refine ⟨?_, rfl⟩
          exact ⟨_, _, rfl, rfl, rfl, Z8, HR9, Lib.hid hHeld⟩
  case rest =>
    obtain ⟨g14, v14, rfl, rfl, rfl, XW, RW, HBW⟩ := hcut
    obtain ⟨w9, hw9⟩ : ∃ z, z = wc := ⟨_, rfl⟩
    rw [← hw9] at XW RW HBW ⊢
    clear hw9
    obtain ⟨aw, cw, rfl, _⟩ := RW.out.open
    have HB := Lib.hid (bch HBv.out HBW.out)
    have XA := Lib.hid (XAv.out.on HBW.out)
    have XB := Lib.hid (XBv.out.on HBW.out)
    have RA := Lib.hid (RAv.out.on HBW.out)
    have RB := Lib.hid (RBv.out.on HBW.out)
    clear XAv XBv RAv RBv HBv HR2 HBW
    have p0 := XB.out.cell (k := 0) rfl
    have p1 := XW.out.cell (k := 0) rfl
    have z1 : ((k : Int) == (k : Int)) = true := by simp
    go_wp2_with fail
    clear p0 p1
    refine (same_any c was _ _ w9 RB.out.items RW.out).mono ?_
    rintro e w10 ⟨he, hb⟩
    have XA := Lib.hid (XA.out.on hb)
    have XB := Lib.hid (XB.out.on hb)
    have XW := Lib.hid (XW.out.on hb)
    have RA := Lib.hid (RA.out.on hb)
    have RB := Lib.hid (RB.out.on hb)
    have RW := Lib.hid (RW.out.on hb)
    have HB := Lib.hid (bch HB.out hb)
    clear hb z1
    by_cases hcw : c = was
    · rw [decide_eq_true hcw] at he
      subst he
      go_wp2_with fail
      go_ret
      exact ⟨rfl, HB.out⟩
    · rw [decide_eq_false hcw] at he
      subst he
      obtain ⟨o, full, ho, hp, hc0, ha, hlen, hall, hfull⟩ := (HF.out.same).resolve_left (by rw [← HCL.out]; exact hcw)
      rw [← HCL.out] at hlen hall hfull
      have hk : o.kind = 2 ∨ o.kind = 3 := by simpa [partB] using hp
      have hkl : k < x.1.wait.length := (List.getElem?_eq_some_iff.1 ho).1
      have HOS := Lib.hid (HZ1.out.wait o (List.mem_of_getElem? ho))
      have HDO : Hid (doM was o = .ok full) := Lib.hid (by unfold doM; rw [if_pos (ok_tree HF.out.ok)]; exact ha)
      have HOF : Hid (TreeOk full) := Lib.hid (act_goes HF.out.ok ha).2.ok
      have HK := Lib.hid hk
      have HLEN := Lib.hid hlen
      have HALL := Lib.hid hall
      have HFULL := Lib.hid hfull
      obtain ⟨a', c', e, _, _, hcx⟩ := RA.out.wait.open
      cases e
      obtain ⟨g, oo, rfl, hg, hcx⟩ := hcx (by omega)
      obtain ⟨q0, q1, q2, q3⟩ := hcx k o ho
      have z1 : ((k : Int) == (x.1.wait.length : Int)) = false := by simp; omega
      have z2 : ((q : Int) == 0) = false := by simp; omega
      have j1 : (k : Int) < (x.1.wait.length : Int) := by omega
      have p1 := XA.out.cell (k := 1) rfl
      obtain ⟨w11, hw11⟩ : ∃ z, z = w10.alloc (.cells o.arr 46) := ⟨_, rfl⟩
      obtain ⟨bo, hbo⟩ : ∃ z, z = w10.heap.size := ⟨_, rfl⟩
      have hb11 : Below w10.heap.size w10 w11 := by rw [hw11]; exact below_new _ _
      have XO : Hid (Box w11 bo 46 o.arr) := Lib.hid (by rw [hw11, hbo]; exact box_new)
      have hw11' : w11 = w10.alloc (.cells #[.int .i64 o.kind, .string ⟨o.path.toArray⟩, .string ⟨o.to.toArray⟩, .string ⟨o.data.toArray⟩] 46) := hw11
      have XA := Lib.hid (XA.out.on hb11)
      have XB := Lib.hid (XB.out.on hb11)
      have XW := Lib.hid (XW.out.on hb11)
      have RB := Lib.hid (RB.out.on hb11)
      have RW := Lib.hid (RW.out.on hb11)
      have HB := Lib.hid (bch HB.out hb11)
      clear ho hp hc0 ha hlen hall hfull hk hcx hg hb11 hw11 hcw hkl
      go_upto_region 18 with fail
      rw [← hw11', ← hbo]
      clear hw11' hbo q0 q1 q2 q3 z1 z2 p1
      have HDC : Hid (Calls Tryz.prog 27 #[.agg #[.slice aw was.length cw], .agg #[.int .i64 o.kind, .string ⟨o.path.toArray⟩, .string ⟨o.to.toArray⟩, .string ⟨o.data.toArray⟩]] w11 (DoR was o w11)) := Lib.hid (do_any was _ o w11 RW.out (tree_sz HF.out.ok) HOS.out (HT.out.on HB.out))
      have p0 := XW.out.cell (k := 0) rfl
      have m0 : w11.cell? ⟨bo, 0, none⟩ = some (.int .i64 o.kind) := XO.out.cell (k := 0) rfl
      have m1 : w11.cell? ⟨bo, 1, none⟩ = some (.string ⟨o.path.toArray⟩) := XO.out.cell (k := 1) rfl
      have m2 : w11.cell? ⟨bo, 2, none⟩ = some (.string ⟨o.to.toArray⟩) := XO.out.cell (k := 2) rfl
      have m3 : w11.cell? ⟨bo, 3, none⟩ = some (.string ⟨o.data.toArray⟩) := XO.out.cell (k := 3) rfl
      go_wp2_with fail
      clear p0 m0 m1 m2 m3
      refine (HDC.out).mono ?_
      rintro e w12 ⟨hb, hc⟩
      obtain ⟨v9, he, hI⟩ : ∃ v', e = .returned (.tuple #[.agg #[v'], .int .i64 0]) ∧ OwnI w12 w11.heap.size v' full := by
          rcases hc with ⟨z, h1, _⟩ | ⟨l', v', h1, he, ho⟩
          · rw [HDO.out] at h1; cases h1
          · rw [HDO.out] at h1; cases h1; exact ⟨v', he, ho⟩
      subst he
      obtain ⟨a8, c8, h8⟩ := ownR_any hI
      have h8 : v9 = .slice a8 full.length c8 := h8
      subst h8
      clear hc
      obtain ⟨VD, hVD⟩ : ∃ z, z = (w12.alloc (.cells #[.slice none 0 0] 24)).setRow w12.heap.size #[.slice a8 full.length c8] := ⟨_, rfl⟩
      obtain ⟨bD, hbD⟩ : ∃ z, z = w12.heap.size := ⟨_, rfl⟩
      have hnD : Below w12.heap.size w12 VD := by rw [hVD]; exact below_row (below_new _ _) (Nat.le_refl _) _
      have XD : Hid (Box VD bD 24 #[.slice a8 full.length c8]) := Lib.hid (by rw [hVD, hbD]; exact box_new.row _)
      have HVD := Lib.hid hVD
      have HWD := Lib.hid hbD
      have hcar : Below w11.heap.size w11 VD := bch hb hnD
      have XA := Lib.hid (XA.out.on hcar)
      have XB := Lib.hid (XB.out.on hcar)
      have XO := Lib.hid (XO.out.on hcar)
      have RB := Lib.hid (RB.out.on hcar)
      have HB := Lib.hid (bch HB.out hcar)
      clear hcar
      have RD : Hid (RdI VD (.slice a8 full.length c8) full) := Lib.hid (RdI.on (OwnI.rd hI) hnD)
      have m0 : VD.cell? ⟨bo, 0, none⟩ = some (.int .i64 o.kind) := XO.out.cell (k := 0) rfl
      clear hI hb hnD
      clear hVD hbD
      go_upto_region 19 with (first | (refine wpList_store_row rfl 24 (.tmp 17) (.tmp 116) rfl w12.heap.size #[.slice a8 full.length c8] rfl rfl 24 #[.slice none 0 0] box_new (info24 _) rfl (slice_one _ _ _) ?_; rw [← HVD.out, ← HWD.out]) | fail)
      go_cut [129] (fun p wx => p = .bool false ∧ VD = wx)
      case first =>
        rename_i J2 K2 hJ hK2
        rcases HK.out with hk | hk
        · rw [hk] at m0
          clear hk
          go_wp2_with fail
          first | refine hK2 _ _ (Met.intro (hJ _ _ ?_)) | refine Met.intro (hJ _ _ ?_)
          (repeat apply Exists.intro)
          refine ⟨?_, rfl⟩
          exact ⟨rfl, rfl⟩
        · rw [hk] at m0
          clear hk
          go_wp2_with fail
          first | refine hK2 _ _ (Met.intro (hJ _ _ ?_)) | refine Met.intro (hJ _ _ ?_)
          (repeat apply Exists.intro)
          refine ⟨?_, rfl⟩
          exact ⟨rfl, rfl⟩
      case rest =>
        obtain ⟨rfl, hwx⟩ := hcut
        subst hwx
        have p0 := XB.out.cell (k := 0) rfl
        clear m0
        go_wp2_with fail
        clear p0
        go_loopw [134] (fun i wr => ∃ j : Nat, j ≤ c.length ∧ i = .int .i64 j ∧ Hid (Below VD.heap.size VD wr)) (fun i _ => c.length - (Lib.intOf i).toNat)
        case atStart => exact ⟨0, Nat.zero_le _, rfl, Lib.hid (Below.refl _ _)⟩
        case round =>
          obtain ⟨j, hj, rfl, HBj⟩ := hrel
          obtain ⟨wq, hwq⟩ : ∃ z, z = wr := ⟨_, rfl⟩
          rw [← hwq] at HBj ⊢
          clear hwq
          have RBi : RdI wq (.slice a6 c.length c6) c := RB.out.items.on HBj.out
          by_cases hlt : j < c.length
          · obtain ⟨y, hy⟩ : ∃ y, c[j]? = some y := ⟨_, List.getElem?_eq_getElem hlt⟩
            obtain ⟨z, hz, hyz⟩ := HALL.out y (List.mem_of_getElem? hy)
            obtain ⟨a', c', e, hlc, hcm, hcx⟩ := RBi.open
            cases e
            obtain ⟨g2, o2, rfl, hg2, hcx⟩ := hcx (by omega)
            obtain ⟨q0, q1, q2⟩ := hcx j y hy
            obtain ⟨w13, hw13⟩ : ∃ z', z' = wq.alloc (.cells y.arr 59) := ⟨_, rfl⟩
            obtain ⟨bY, hbY⟩ : ∃ z', z' = wq.heap.size := ⟨_, rfl⟩
            have hb13 : Below wq.heap.size wq w13 := by rw [hw13]; exact below_new _ _
            have XY : Hid (Box w13 bY 59 y.arr) := Lib.hid (by rw [hw13, hbY]; exact box_new)
            have hw13' : w13 = wq.alloc (.cells #[.string ⟨y.path.toArray⟩, .int .i64 y.kind, .string ⟨y.data.toArray⟩] 59) := hw13
            have HB13 := Lib.hid (bch HBj.out hb13)
            have XO13 := Lib.hid (XO.out.on HB13.out)
            have HGE : Hid (Calls Tryz.prog 28 #[.agg #[.slice a8 full.length c8], .string ⟨y.path.toArray⟩] w13 (GetR (some z) w13)) := Lib.hid (by
              have := get_gen full _ y.path w13 (RdI.on RD.out HB13.out) (tree_sz HOF.out) (HZC.out.safe y (List.mem_of_getElem? hy)) (HT.out.on (bch HB.out HB13.out)).tab
              rw [show getT full y.path = some z by unfold getT; rw [if_pos (ok_tree HOF.out)]; exact hz] at this
              exact this)
            have HYZ := Lib.hid hyz
            have j1 : (j : Int) < (c.length : Int) := by omega
            have j2 : (0 : Int) ≤ (j : Int) := by omega
            have j4 : IntKind.i64.wrap ((j : Int) + 1) = (j : Int) + 1 := by unfold maxLen at hcm; exact IntWalk.i64_in _ (by omega)
            clear hy hz hyz hcx hg2 hb13 hw13 RBi hlc hcm
            go_upto_region 24 with fail
            rw [← hw13', ← hbY]
            clear hw13' hbY q0 q1 q2
            have p0 := (XD.out.on HB13.out).cell (k := 0) rfl
            have n0 : w13.cell? ⟨bY, 0, none⟩ = some (.string ⟨y.path.toArray⟩) := XY.out.cell (k := 0) rfl
            go_wp2_with fail
            clear p0 n0
            refine (HGE.out).mono ?_
            rintro e w14 ⟨he, hb⟩
            have he : e = .returned (.tuple #[.agg #[.string ⟨z.path.toArray⟩, .int .i64 z.kind, .string ⟨z.data.toArray⟩], .bool true]) := he
            subst he
            obtain ⟨VE, hVE⟩ : ∃ z', z' = (w14.alloc (.cells #[.string ⟨#[]⟩, .int .i64 0, .string ⟨#[]⟩] 59)).setRow w14.heap.size #[.string ⟨z.path.toArray⟩, .int .i64 z.kind, .string ⟨z.data.toArray⟩] := ⟨_, rfl⟩
            obtain ⟨bE, hbE⟩ : ∃ z', z' = w14.heap.size := ⟨_, rfl⟩
            have hnE : Below w14.heap.size w14 VE := by rw [hVE]; exact below_row (below_new _ _) (Nat.le_refl _) _
            have XE : Hid (Box VE bE 59 #[.string ⟨z.path.toArray⟩, .int .i64 z.kind, .string ⟨z.data.toArray⟩]) := Lib.hid (by rw [hVE, hbE]; exact box_new.row _)
            have HVE := Lib.hid hVE
            have HWE := Lib.hid hbE
            have hcar := bch hb hnE
            have XY := Lib.hid (XY.out.on hcar)
            have XO := Lib.hid (XO13.out.on hcar)
            have HBe := Lib.hid (bch HB13.out hcar)
            have n0 : VE.cell? ⟨bY, 0, none⟩ = some (.string ⟨y.path.toArray⟩) := XY.out.cell (k := 0) rfl
            have n1 : VE.cell? ⟨bY, 1, none⟩ = some (.int .i64 y.kind) := XY.out.cell (k := 1) rfl
            have n2 : VE.cell? ⟨bY, 2, none⟩ = some (.string ⟨y.data.toArray⟩) := XY.out.cell (k := 2) rfl
            have p0 := XE.out.cell (k := 0) rfl
            have p1 := XE.out.cell (k := 1) rfl
            have p2 := XE.out.cell (k := 2) rfl
            have m1 : VE.cell? ⟨bo, 1, none⟩ = some (.string ⟨o.path.toArray⟩) := XO.out.cell (k := 1) rfl
            have hgd := guard35
            clear hb hnE hcar hVE hbE
            go_upto_region 25 with (first | (refine wpList_store_row rfl 59 (.tmp 20) (.tmp 143) rfl w14.heap.size #[.string ⟨z.path.toArray⟩, .int .i64 z.kind, .string ⟨z.data.toArray⟩] rfl rfl 59 #[.string ⟨#[]⟩, .int .i64 0, .string ⟨#[]⟩] box_new info59a rfl (by simp [Value.oneCell']) ?_; rw [← HVE.out, ← HWE.out]) | fail)
            go_cut [173] (fun p wx => p = .bool false ∧ VE = wx)
            case first =>
              rename_i J2 K2 hJ hK2
              by_cases hyz : y = z
              · have hne := neq35 y z false (by simp [hyz])
                clear hyz
                go_wp2_with fail
                first | refine hK2 _ _ (Met.intro (hJ _ _ ?_)) | refine Met.intro (hJ _ _ ?_)
                (repeat apply Exists.intro)
                refine ⟨?_, rfl⟩
                exact ⟨rfl, rfl⟩
              · have hne := neq35 y z true (by simp [hyz])
                obtain ⟨h1, h2, h3⟩ := HYZ.out.resolve_left hyz
                rw [h1] at n0
                rw [h2] at n1
                simp only [h1, h2] at hne
                have HPF : Hid (Lib.hasPrefix z.data y.data = true) := Lib.hid (by unfold Lib.hasPrefix; exact List.isPrefixOf_iff_prefix.2 h3)
                clear hyz h1 h2 h3
                go_wp2_with fail
                refine (Tryz.strings_HasPrefix _ _ VE).mono ?_
                rintro e w15 ⟨he, rfl⟩
                have he : e = .returned (.bool (Lib.hasPrefix z.data y.data)) := he
                rw [HPF.out] at he
                subst he
                go_wp2_with fail
                first | refine hK2 _ _ (Met.intro (hJ _ _ ?_)) | refine Met.intro (hJ _ _ ?_)
                (repeat apply Exists.intro)
                refine ⟨?_, rfl⟩
                exact ⟨rfl, rfl⟩
            case rest =>
            obtain ⟨rfl, hwx⟩ := hcut
            subst hwx
            clear n0 n1 n2 p0 p1 p2 m1 hgd
            go_wp2_with fail
            go_roundw
            case rel => exact ⟨j + 1, hlt, by go_num, HBe⟩
            case measure => simp [Lib.intOf]; omega
          · obtain rfl : j = c.length := by omega
            have j1 : ¬ ((c.length : Int) < (c.length : Int)) := by omega
            have XBq := Lib.hid (XB.out.on (bch (Below.refl _ _) HBj.out))
            have p0 := XBq.out.cell (k := 0) rfl
            have p1 := (XD.out.on HBj.out).cell (k := 0) rfl
            have p2 : wq.cell? ⟨bo, 3, none⟩ = some (.string ⟨o.data.toArray⟩) := (XO.out.on HBj.out).cell (k := 3) rfl
            have z1 : ((c.length : Int) == (full.length : Int)) = true := by rw [HLEN.out]; simp
            by_cases hql : q < o.data.length
            · have z2 : (q : Int) < (o.data.length : Int) := by omega
              go_wp2_with fail
              go_ret
              exact ⟨rfl, bch HB.out HBj.out⟩
            · have z2 : ¬ ((q : Int) < (o.data.length : Int)) := by omega
              have HCF := Lib.hid (HFULL.out (by omega))
              go_wp2_with fail
              refine (same_any c full _ _ wq (by first | exact RBi | (rw [HLEN.out] at RBi; exact RBi)) (RdI.on RD.out HBj.out)).mono ?_
              rintro e w15 ⟨he, hb⟩
              rw [decide_eq_true HCF.out] at he
              subst he
              go_wp2_with fail
              go_ret
              exact ⟨rfl, bch (bch HB.out HBj.out) hb⟩
end Go.Proofs.YtigopecainocgaaGreatDoor

namespace Go.Proofs.YtigopecainocgaaGreatDoor
open Go.ChangeShapes Go.WideShapes Go.ChangeAt Go.RowKit Go.Joins

theorem cells49 : Tryz.prog.cellsOf 49 = 2 := by kernel_rfl
noncomputable abbrev zeroTwo : Value := .agg #[.int .i64 0, .int .i64 0]
abbrev zeroTwoD {H : Type} : DataW H := .agg [.lit (.int .i64 0), .lit (.int .i64 0)]
set_option maxRecDepth 100000 in
theorem okWide_two {r : Reach} {W : World} {b0 : Nat} {v : Value} (h : Value.okWide Tryz.prog W r b0 49 v) : ∃ cs : Array Value, v = .agg cs := by
  simp only [Value.okWide, Tryz.underlying49] at h
  obtain ⟨cs, h1, _⟩ := h
  exact ⟨cs, h1⟩
set_option maxRecDepth 100000 in
theorem argB_of {H : Type} {enc : TypeId × Value → H} {W : World} {base fuel : Nat} {hd : Bool} {cs : Array Value} {d : DataW H} {p : List MemPlace}
    (hf : DataW.trod enc Tryz.prog W base (fun _ => true) hd fuel 49 cs.toList = some (d, p)) : ∃ a b, cs = #[.int .i64 a, .int .i64 b] := by
  obtain ⟨xs, m, _, _, hl, hx, hi⟩ := DataW.trod_array Tryz.underlying49 hf
  rw [cells49] at hl
  obtain ⟨x, y, hcs⟩ : ∃ x y, cs.toList = [x, y] := by
    match h : cs.toList, hl with
    | [x, y], _ => exact ⟨x, y, rfl⟩
  have h0 := hi 0 (by omega)
  have h1 := hi 1 (by omega)
  rw [cells3, hcs] at h0 h1
  simp at h0 h1
  rw [List.getElem?_eq_getElem (by omega)] at h0 h1
  obtain ⟨a, e0, _, _⟩ := DataW.trod_int Tryz.underlying3 h0
  obtain ⟨b, e1, _, _⟩ := DataW.trod_int Tryz.underlying3 h1
  simp at e0 e1
  exact ⟨a, b, Array.ext' (by rw [hcs, e0, e1])⟩
end Go.Proofs.YtigopecainocgaaGreatDoor

namespace Go.Proofs.YtigopecainocgaaGreatDoor.DiskFallsP
open Go.ChangeShapes Go.WideShapes Go.ChangeAt Go.RowKit Go.Joins Go.Deep
open Go.ChangeMaps (open_string shut_string)

theorem met (os : Os) : laidMet Tryz.prog Rows.diskFallsRow.laid ((laidWorld os).forCall (fun _ _ => 0) ⟨#[], #[zeroDisk, .slice none 0 0, zeroTwo], []⟩).memory :=
  laid_met os _
theorem reads (os : Os) {H : Type} (enc : TypeId × Value → H) : ∃ places, DataW.whole enc Tryz.prog ((laidWorld os).forCall (fun _ _ => 0) ⟨#[], #[zeroDisk, .slice none 0 0, zeroTwo], []⟩).memory Tryz.f4.params.toList Rows.diskFallsSpec.vars false #[zeroDisk, Value.slice none 0 0, zeroTwo].toList 8 = some ([zeroDiskD, .nil, zeroTwoD], [], places) :=
  ⟨[], by kernel_rfl⟩

set_option maxRecDepth 100000 in
theorem lifted (os : Os) (started : os.Started) (H : Type) (enc : TypeId × Value → H) (F : Stop.Interp) :
    ReturnsInHanded {} Tryz.checked os 4 .any ((OpenSpec.ofChange Rows.diskFallsSpec).preRow enc Tryz.prog Tryz.f4 Rows.diskFallsRow.domain false Rows.diskFallsRow.laid) (((OpenSpec.ofChange Rows.diskFallsSpec).at F).post enc Tryz.prog Tryz.f4 false true false false) := by
  obtain ⟨places, hx⟩ := reads os enc
  refine returnsInHanded_of_row (C := Tryz.checked) (s := OpenSpec.ofChange Rows.diskFallsSpec) own0 started (by kernel_rfl) Tryz.func4
    (witness_row_at (enc := enc) (C := Tryz.checked) false (laidWorld os) #[zeroDisk, .slice none 0 0, zeroTwo] rfl (by kernel_rfl) (by kernel_rfl) (by kernel_rfl)
      (OpenSpec.preRow_of_cond 8 hx (by kernel_rfl) (fun k hk => by cases hk) (by kernel_rfl) (met os))) ?_
  intro W base args ds gs before hval0 hW _ _ hsz0 hL hsh _
  have hval : ∀ (j : Nat) t v, Tryz.f4.params[j]? = some t → args[j]? = some v → Value.okWide Tryz.prog W .any base t v := hval0
  have hsz : (DataW.weightsEach Tryz.prog (Tryz.f4.params.toList ++ Rows.diskFallsSpec.plain.varTypes Tryz.prog) (ds ++ gs)).all (· ≤ reachBytes) = true := hsz0
  clear hsz0
  have hW' := hW
  obtain ⟨p, q, hA0, hV, rfl, hfz, hnd⟩ := hW
  have hA : DataW.TrodAll enc Tryz.prog W 0 (fun _ => true) true Tryz.f4.params.toList args.toList ds p := hA0
  rw [Tryz.params4] at hA hval hsz
  obtain ⟨v0, vs0, d0, ds0, p0, q0, hargs, rfl, rfl, h0, r0⟩ := trodAll_cons hA
  obtain ⟨v1, vs1, d1, ds1, p1, q1, rfl, rfl, rfl, h1, r1⟩ := trodAll_cons r0
  obtain ⟨v2, vs2, d2, ds2, p2, q2, rfl, rfl, rfl, h2, r2⟩ := trodAll_cons r1
  obtain ⟨rfl, rfl, rfl⟩ := trodAll_nil r2
  obtain rfl : args = #[v0, v1, v2] := by cases args; simp_all
  obtain ⟨rfl, rfl⟩ := trodVars_none hV
  obtain ⟨cs0, rfl⟩ := okWide_disk (hval 0 27 v0 rfl rfl)
  obtain ⟨a1, n1, c1, rfl⟩ := okWide_slice Tryz.underlying25 (hval 1 25 v1 rfl rfl)
  obtain ⟨cs2, rfl⟩ := okWide_two (hval 2 49 v2 rfl rfl)
  have h0k := h0
  obtain ⟨fuel0, hf0⟩ := h0
  have h1k := h1
  obtain ⟨fuel1, hf1⟩ := h1
  have h2k := h2
  obtain ⟨fuel2, hf2⟩ := h2
  clear hA0 hval0
  simp only [List.append_nil] at hW'
  have hlt0 : ∀ x ∈ p0, x.block < W.heap.size := fun x hx => by simpa using hW'.lt x (by simp [hx])
  have hlt1 : ∀ x ∈ p1, x.block < W.heap.size := fun x hx => by simpa using hW'.lt x (by simp [hx])
  have hlt2 : ∀ x ∈ p2, x.block < W.heap.size := fun x hx => by simpa using hW'.lt x (by simp [hx])
  obtain ⟨iv0, wv0, k0, rfl, hr0, hm0, hi0, ho0⟩ := argD_of (by simpa [Value.cells] using hf0) hlt0
  have hz0 : SzD k0 := ⟨fun y hy => reach_len (by simpa using List.all_eq_true.1 hsz _ (DataW.weights_mem_each (j := 0) (t := 27) rfl rfl _ (hi0 y hy))), fun y hy => ⟨reach_len (by simpa using List.all_eq_true.1 hsz _ (DataW.weights_mem_each (j := 0) (t := 27) rfl rfl _ (ho0 y hy).1)), reach_len (by simpa using List.all_eq_true.1 hsz _ (DataW.weights_mem_each (j := 0) (t := 27) rfl rfl _ (ho0 y hy).2))⟩, hm0⟩
  obtain ⟨l1, hr1, hw1'⟩ := argO_of (by simpa [Value.cells] using hf1) hlt1
  have hw1 : ∀ y ∈ l1, y.path.length ≤ 140737488355328 ∧ y.to.length ≤ 140737488355328 := fun y hy => ⟨reach_len (by simpa using List.all_eq_true.1 hsz _ (DataW.weights_mem_each (j := 1) (t := 25) rfl rfl _ (hw1' y hy).1)), reach_len (by simpa using List.all_eq_true.1 hsz _ (DataW.weights_mem_each (j := 1) (t := 25) rfl rfl _ (hw1' y hy).2))⟩
  obtain ⟨ma2, mb2, rfl⟩ := argB_of (by simpa [Value.cells] using hf2)
  refine (falls4_any k0 iv0 wv0 _ l1 ma2 mb2 W hr0 hr1 hz0 hw1 (tabs hL hsh)).mono fun e W' ⟨he, hb⟩ => ?_
  subst he
  exact ⟨_, rfl, _, _, _, [], _, [], hW', (trodAll_cons_mk (shut_bool Tryz.underlying4 _) trodAll_mk0), (trodAll_cons_mk (Below.trod laidOut (by kernel_rfl) (of_decide_eq_true (by kernel_rfl)) h0k hb hlt0) (trodAll_cons_mk (Below.trod laidOut (by kernel_rfl) (of_decide_eq_true (by kernel_rfl)) h1k hb hlt1) (trodAll_cons_mk (Below.trod laidOut (by kernel_rfl) (of_decide_eq_true (by kernel_rfl)) h2k hb hlt2) trodAll_mk0))), rfl, hb.frame _, fun h => by cases h⟩

theorem said : Rows.DiskFallsSaid :=
  OpenClaim.holds_of_cond 4 Tryz.f4 rfl rfl rfl rfl rfl rfl rfl ⟨rfl, rfl, rfl, rfl, rfl⟩ rfl rfl rfl rfl rfl (by kernel_rfl) Tryz.func4 (by kernel_rfl)
    (of_decide_eq_true (by kernel_rfl)) (by unfold Func.isWrapper; first | (rw [if_pos (by decide +kernel)]; kernel_rfl) | (rw [if_neg (by decide +kernel)]; exact ⟨rfl, rfl⟩))
    (fun os started H enc _ F => by rw [OpenClaim.pre_eq_preRow]; exact lifted os started H enc F)

/-- No parameter wants a stand-in; the program's own looks are off: what the card asks. -/
theorem plain (f : FuncId) (fn : Func) (hf : Tryz.pinned.checked.prog.funcNamed "puncheon/puncheonlaw08.DiskFalls" = some f) (hfn : Tryz.pinned.checked.prog.funcs[f]? = some fn) :
    false = Tryz.pinned.checked.prog.looks [] ∧ ∀ (j : Nat) t, fn.params[j]? = some t → Tryz.pinned.checked.prog.wantsStandIn t = false := by
  obtain rfl : f = 4 := Option.some.inj ((show Tryz.prog.funcNamed "puncheon/puncheonlaw08.DiskFalls" = some 4 by kernel_rfl).symm.trans hf) |>.symm
  obtain rfl : fn = Tryz.f4 := (Option.some.inj (Tryz.func4.symm.trans hfn)).symm
  refine ⟨by kernel_rfl, fun j t ht => ?_⟩
  rw [Tryz.params4] at ht
  have hm : t ∈ [27, 25, 49] := by simpa using Array.mem_of_getElem? ht
  have hall : ([27, 25, 49].all fun u => !Tryz.prog.wantsStandIn u) = true := by kernel_rfl
  exact (show Tryz.prog.wantsStandIn t = false by simpa using List.all_eq_true.1 hall t hm)
end Go.Proofs.YtigopecainocgaaGreatDoor.DiskFallsP
namespace Go.Proofs.YtigopecainocgaaGreatDoor
theorem diskFalls_card : Rows.DiskFallsCardSaid :=
  Claim7.holds_tied_plain_at .later [] _ _ _ _ DiskFallsP.said (fun _ h => by cases h) (by kernel_rfl) (fun _ h => by cases h) diskFalls_row_tie rfl ⟨rfl, rfl⟩ (by kernel_rfl) rfl DiskFallsP.plain (by kernel_rfl)
#print axioms diskFalls_card
end Go.Proofs.YtigopecainocgaaGreatDoor
