/- Proved here, of lists alone: what DiskRooms of puncheonlaw08 looks at. | Proved here: DiskRooms of puncheonlaw08 returns true, whatever the disk, the list and the cut, wherever the tables stand. | Proved: whatever disk, list and cut DiskRooms of puncheonlaw08 is called with, the call returns true, and all read behind it as they read before (the statement Rows.DiskRoomsCardSaid). No condition of ours: the tables stand as the program's text lays them (the card ties them), and the form's own reach. -/
import Derived.Test.YtigopecainocgaaGreatDoorDMB
namespace Go.Proofs.YtigopecainocgaaGreatDoor
open Go.RowKit Go.Shelf

theorem run_none {d : Dsk} (h : nowM d = none) (ops : List Opn) (free : Bool) : runD d ops free = (⟨[], [], 0⟩, 0, 180) := by unfold runD; rw [h]
theorem run_some {d : Dsk} {t : List It} (h : nowM d = some t) (ops : List Opn) (free : Bool) : runD d ops free = (behindM d ops (drun free t d.wait.length d.room ops), (drun free t d.wait.length d.room ops).2.1, (drun free t d.wait.length d.room ops).2.2) := by unfold runD; rw [h]
/-- What is so of a run that is not free. -/
structure RoomF (d : Dsk) (ops : List Opn) (x : Dsk × Nat × Int) : Prop where
  any : d.room = -1 → x.1.room = -1 ∧ x.2.2 ≠ 181
  some' : d.room ≠ -1 → x.1.room = d.room - needM (ops.take x.2.1) ∧ 0 ≤ x.1.room
  full : x.2.2 = 181 → x.1.room = 0
  low : -1 ≤ d.room
  many : x.2.1 ≤ ops.length
  len : x.1.wait.length = d.wait.length + x.2.1
theorem rooms_of {d : Dsk} {t : List It} (h : nowM d = some t) (ops : List Opn) : RoomF d ops (runD d ops false) := by
  rw [run_some h]
  obtain ⟨h1, h2, h3⟩ := drun_need t d.wait.length d.room ops (now_some h).2.1
  have hm := (drun_many false t d.wait.length d.room ops).2
  exact ⟨h1, h2, h3, (now_some h).2.1, hm, by simp only [behindM, List.length_append, List.length_take]; omega⟩
theorem free_far {d : Dsk} {t : List It} (h : nowM d = some t) (ops : List Opn) (hl : d.wait.length + ops.length ≤ 8000) : (runD d ops false).2.1 ≤ (runD d ops true).2.1 := by
  rw [run_some h, run_some h]
  simp only
  rw [drun_free t _ _ _ hl]
  exact (drun_many false t d.wait.length d.room ops).1
theorem rooms_parts {d : Dsk} {t : List It} (h : nowM d = some t) (ops : List Opn) (k : Nat) (hk : k ≤ (runD d ops false).2.1) :
    (runD d (ops.take k) false).2 = (k, 0) ∧ runD (runD d (ops.take k) false).1 (ops.drop k) false = ((runD d ops false).1, (runD d ops false).2.1 - k, (runD d ops false).2.2) := by
  have hm := (drun_many false t d.wait.length d.room ops).2
  rw [run_some h] at hk
  simp only at hk
  obtain ⟨h1, h2, h3⟩ := drun_take false t d.wait.length d.room ops k hk
  have e1 : (runD d (ops.take k) false).2 = (k, 0) := by rw [run_some h]; simp only; rw [h1, h2]
  refine ⟨e1, ?_⟩
  have hn := now_behind h (ops.take k) false
  rw [e1] at hn
  simp only [List.take_take, Nat.min_self] at hn
  have hw : (runD d (ops.take k) false).1.wait.length = d.wait.length + k := by
    rw [run_some h]; simp only [behindM, List.length_append, List.length_take]; omega
  have hr : (runD d (ops.take k) false).1.room = (drun false t d.wait.length d.room (ops.take k)).1 := by rw [run_some h]; rfl
  rw [run_some hn, hw, hr, h3, run_some h, run_some h]
  simp only [behindM, h1, List.take_take, Nat.min_self, List.append_assoc]
  have e : ops.take k ++ (ops.drop k).take ((drun false t d.wait.length d.room ops).2.1 - k) = ops.take (drun false t d.wait.length d.room ops).2.1 := by
    rw [← List.take_append_drop k (ops.take (drun false t d.wait.length d.room ops).2.1), List.take_take, Nat.min_eq_left hk, List.drop_take]
  rw [e]
theorem need_le (l : List Opn) : needM l ≤ l.length := List.length_filter_le _ _
theorem need_step {l : List Opn} {k : Nat} {o : Opn} (h : l[k]? = some o) : needM (l.take (k + 1)) = needM (l.take k) + if needsB o = true then 1 else 0 := by
  unfold needM
  rw [List.take_add_one, List.filter_append, List.length_append, h]
  congr 1
  cases hn : needsB o <;> simp [hn]
theorem own_few (d : Dsk) : (ownD d).wait.length ≤ 16 := List.length_take_le _ _
end Go.Proofs.YtigopecainocgaaGreatDoor

namespace Go.Proofs.YtigopecainocgaaGreatDoor
open Go.RowKit Go.Shelf

theorem flatO_drop (l : List Opn) (k : Nat) : flatO (l.drop k) = (flatO l).drop (k * 4) := by
  induction l generalizing k with
  | nil => simp [flatO]
  | cons v l ih =>
    cases k with
    | zero => simp
    | succ k =>
      have e : ∀ v l, flatO (v :: l) = v.cells ++ flatO l := fun _ _ => rfl
      rw [List.drop_succ_cons, e, ih, List.drop_append, show (k + 1) * 4 - v.cells.length = k * 4 by show (k + 1) * 4 - 4 = _; omega]
      rw [show v.cells.drop ((k + 1) * 4) = [] from List.drop_of_length_le (by show 4 ≤ (k + 1) * 4; omega)]
      rfl
theorem RdO.drop {w : World} {g o n c : Nat} {l : List Opn} (hn : n = l.length) (h : RdO w (.slice (some ⟨g, o, none⟩) n c) l) (q : Nat) (hq : q ≤ n) : RdO w (.slice (some ⟨g, o + q * 4, none⟩) (n - q) (c - q)) (l.drop q) := by
  obtain ⟨a', c', e, h1, h2, h3⟩ := h
  cases e
  have el : (l.drop q).length = l.length - q := List.length_drop
  unfold RdO
  rw [el]
  refine ⟨_, c - q, rfl, by omega, by omega, fun h0 => ?_⟩
  obtain ⟨g', o', e, hg, hc⟩ := h3 (by omega)
  cases e
  refine ⟨g, o + q * 4, rfl, hg, fun j u hj => ?_⟩
  rw [flatO_drop, List.getElem?_drop] at hj
  rw [Nat.add_assoc]
  exact hc _ u hj

theorem RdO.cut {w : World} {a : Option Addr} {n c : Nat} {l : List Opn} (hn : n = l.length) (h : RdO w (.slice a n c) l) (q : Nat) (hq : q ≤ n) : RdO w (.slice (if c = q then a else a.map fun x => x.add (q * 4)) (n - q) (c - q)) (l.drop q) := by
  by_cases h0 : q < n
  · obtain ⟨a', c', e, h1, h2, h3⟩ := id h
    cases e
    obtain ⟨g, o, rfl, _⟩ := h3 (by omega)
    rw [if_neg (by omega), Option.map_some, add_to]
    exact RdO.drop rfl h q hq
  · obtain ⟨a', c', e, h1, h2, h3⟩ := h
    cases e
    have el : (l.drop q).length = l.length - q := List.length_drop
    unfold RdO
    rw [el]
    exact ⟨_, c - q, rfl, by omega, by omega, fun h => by omega⟩
def CutD (vs : World) (x : Dsk) (a b : Int) (pa p1 p2 : Value) (wx : World) : Prop := ∃ g iv wv, pa = .pointer (some ⟨g, 0, none⟩) ∧ p1 = .int .i64 a ∧ p2 = .int .i64 b ∧ Hid (Box wx g 27 #[iv, wv, .int .i64 x.room]) ∧ Hid (RdD wx iv wv x) ∧ Hid (Below vs.heap.size vs wx)
theorem wrap_sum {a b c : Nat} (h : c = a + b) (ha : a ≤ 16) (hb : b ≤ 16) : wrap64 ((a : Int) + (b : Int)) = (c : Int) := by
  subst h
  rw [IntWalk.wrap64_in _ (by omega)]
  omega
theorem wrap_part {q j k : Nat} (h : j = k - q) (hq : q ≤ k) (hk : k ≤ 16) : wrap64 ((q : Int) + (j : Int)) = (k : Int) := by
  subst h
  rw [IntWalk.wrap64_in _ (by omega)]
  omega
def RunAt (x : Dsk) (n : Nat) (er : Int) (w : World) (e : Ending) (w' : World) : Prop := ∃ iv wv, e = .returned (.tuple #[.agg #[iv, wv, .int .i64 x.room], .int .i64 (n : Nat), .int .i64 er]) ∧ OwnI w' w.heap.size iv x.safe ∧ OwnO w' w.heap.size wv x.wait ∧ Below w.heap.size w w'
set_option maxRecDepth 100000 in
set_option maxHeartbeats 16000000 in
theorem rooms6_any (d : Dsk) (iv wv lv : Value) (ops : List Opn) (cut : Int) (w : World) (h : RdD w iv wv d) (ho : RdO w lv ops) (hz : SzD d)
    (hso : ∀ o ∈ ops, o.path.length ≤ 140737488355328 ∧ o.to.length ≤ 140737488355328) (hT : TabS w) :
    Calls Tryz.prog 6 #[.agg #[iv, wv, .int .i64 d.room], lv, .int .i64 cut] w (EqR true w) := by
  obtain ⟨D, hD⟩ : ∃ z, z = ownD d := ⟨_, rfl⟩
  obtain ⟨L, hL⟩ : ∃ z, z = ops.take 16 := ⟨_, rfl⟩
  obtain ⟨x, hx⟩ : ∃ z, z = runD D L false := ⟨_, rfl⟩
  have HX := Lib.hid hx
  have HDD := Lib.hid hD
  have HLL := Lib.hid hL
  have HZ0 : Hid (SzD D) := Lib.hid (by rw [hD]; exact own_sz hz)
  have HSO : Hid (∀ o ∈ L, o.path.length ≤ 140737488355328 ∧ o.to.length ≤ 140737488355328) := Lib.hid (fun o h => hso o (List.mem_of_mem_take (by rw [← hL]; exact h)))
  have HM16 : Hid (L.length ≤ 16) := Lib.hid (by rw [hL]; exact List.length_take_le _ _)
  have HW16 : Hid (D.wait.length ≤ 16) := Lib.hid (by rw [hD]; exact own_few d)
  have HT := Lib.hid hT
  obtain ⟨w1, hw1⟩ : ∃ z, z = w.alloc (.cells #[iv, wv, .int .i64 d.room] 27) := ⟨_, rfl⟩
  obtain ⟨bI, hbI⟩ : ∃ z, z = w.heap.size := ⟨_, rfl⟩
  have HB : Hid (Below w.heap.size w w1) := Lib.hid (by rw [hw1]; exact below_new _ _)
  have XI : Hid (Box w1 bI 27 #[iv, wv, .int .i64 d.room]) := Lib.hid (by rw [hw1, hbI]; exact box_new)
  have RI : Hid (RdD w1 iv wv d) := Lib.hid (h.on HB.out)
  have RL : Hid (RdO w1 lv ops) := Lib.hid (RdF.on ho HB.out)
  obtain ⟨ia, ic, rfl, _⟩ := h.items.open
  obtain ⟨wa, wc, rfl, _⟩ := h.wait.open
  obtain ⟨oa, oc, rfl, _⟩ := ho.open
  have e0 : ((0 : Int) == 0) = true := rfl
  clear h ho hz hso hT hx hD hL
  go_enter Tryz.func6, Tryz.ntmps6
  go_upto_region 1 with fail
  rw [← hw1, ← hbI]
  clear hw1 hbI
  go_wp2_with fail
  refine (wakes8_any w1 (HT.out.on HB.out)).mono ?_
  rintro e w2 ⟨rfl, hb⟩
  have hcar : Below w1.heap.size w1 w2 := hb
  have XI := Lib.hid (XI.out.on hcar)
  have RI := Lib.hid (RI.out.on hcar)
  have RL := Lib.hid (RL.out.on hcar)
  have HB := Lib.hid (bch HB.out hcar)
  clear hcar
  have p0 := XI.out.cell (k := 0) rfl
  have p1 := XI.out.cell (k := 1) rfl
  have p2 := XI.out.cell (k := 2) rfl
  clear hb
  go_wp2_with fail
  clear p0 p1 p2
  refine (own8_any d _ _ w2 RI.out).mono ?_
  rintro e w3 ⟨iv, wv, he, hI, hW, hb⟩
  rw [← HDD.out] at he hI hW
  subst he
  obtain ⟨a1, n1, c1, rfl⟩ := own_any3 hI
  obtain ⟨a2, c2, h2⟩ := ownR_any hW
  have h2 : wv = .slice a2 D.wait.length c2 := h2
  subst h2
  obtain ⟨VA, hVA⟩ : ∃ z, z = (w3.alloc (.cells #[.slice none 0 0, .slice none 0 0, .int .i64 0] 27)).setRow w3.heap.size #[.slice a1 n1 c1, .slice a2 D.wait.length c2, .int .i64 D.room] := ⟨_, rfl⟩
  obtain ⟨bA, hbA⟩ : ∃ z, z = w3.heap.size := ⟨_, rfl⟩
  have hnA : Below w3.heap.size w3 VA := by rw [hVA]; exact below_row (below_new _ _) (Nat.le_refl _) _
  have XA : Hid (Box VA bA 27 #[.slice a1 n1 c1, .slice a2 D.wait.length c2, .int .i64 D.room]) := Lib.hid (by rw [hVA, hbA]; exact box_new.row _)
  have HVA := Lib.hid hVA
  have HWA := Lib.hid hbA
  have hcar : Below w2.heap.size w2 VA := bch hb hnA
  have RL := Lib.hid (RL.out.on hcar)
  have HB := Lib.hid (bch HB.out hcar)
  clear hcar
  have RA : Hid (RdD VA (.slice a1 n1 c1) (.slice a2 D.wait.length c2) D) := Lib.hid (RdD.on ⟨OwnI.rd hI, OwnO.rd hW⟩ hnA)
  clear hI hW hb hnA
  clear hVA hbA
  go_wp2_with (first | (refine wpList_store_row rfl 27 (.tmp 7) (.tmp 27) rfl w3.heap.size #[.slice a1 n1 c1, .slice a2 D.wait.length c2, .int .i64 D.room] rfl rfl 27 #[.slice none 0 0, .slice none 0 0, .int .i64 0] box_new (info27 _ _ _) rfl (darr_one _ _ _ _ _ _ _) ?_; rw [← HVA.out, ← HWA.out]) | fail)
  refine (ops8_any ops _ VA RL.out).mono ?_
  rintro e w4 ⟨lv, rfl, hL, hb⟩
  rw [← HLL.out] at hL
  obtain ⟨m, hm⟩ : ∃ m, m = L.length := ⟨_, rfl⟩
  obtain ⟨a3, c3, h3⟩ := ownR_any hL
  have h3 : lv = .slice a3 L.length c3 := h3
  subst h3
  have hcar : Below VA.heap.size VA w4 := hb
  have XA := Lib.hid (XA.out.on hcar)
  have RA := Lib.hid (RA.out.on hcar)
  have HB := Lib.hid (bch HB.out hcar)
  clear hcar
  have RU : Hid (RdO w4 (.slice a3 L.length c3) L) := Lib.hid (OwnO.rd hL)
  obtain ⟨_, _, e3, hc3, hc4, _⟩ := RU.out.open
  cases e3
  rw [← hm] at RU hc3 ⊢
  have HM := Lib.hid hm
  have HC3 : Hid (m ≤ c3 ∧ (c3 : Int) ≤ 9223372036854775807) := Lib.hid ⟨hc3, by unfold maxLen at hc4; omega⟩
  clear hL hb hm hc3 hc4
  have p0 := XA.out.cell (k := 0) rfl
  have p1 := XA.out.cell (k := 1) rfl
  have p2 := XA.out.cell (k := 2) rfl
  go_wp2_with fail
  clear p0 p1 p2
  refine (runF_is D _ _ L _ false w4 RA.out HZ0.out RU.out (Nat.le_trans HM16.out (by decide)) HSO.out (HT.out.on HB.out)).mono ?_
  rintro e w5 ⟨iv, wv, he, hI, hW, hb⟩
  rw [← HX.out] at he hI hW
  subst he
  obtain ⟨a4, n4, c4, rfl⟩ := own_any3 hI
  obtain ⟨a5, c5, h5⟩ := ownR_any hW
  have h5 : wv = .slice a5 x.1.wait.length c5 := h5
  subst h5
  obtain ⟨VB, hVB⟩ : ∃ z, z = (w5.alloc (.cells #[.slice none 0 0, .slice none 0 0, .int .i64 0] 27)).setRow w5.heap.size #[.slice a4 n4 c4, .slice a5 x.1.wait.length c5, .int .i64 x.1.room] := ⟨_, rfl⟩
  obtain ⟨bB, hbB⟩ : ∃ z, z = w5.heap.size := ⟨_, rfl⟩
  have hnB : Below w5.heap.size w5 VB := by rw [hVB]; exact below_row (below_new _ _) (Nat.le_refl _) _
  have XB : Hid (Box VB bB 27 #[.slice a4 n4 c4, .slice a5 x.1.wait.length c5, .int .i64 x.1.room]) := Lib.hid (by rw [hVB, hbB]; exact box_new.row _)
  have HVB := Lib.hid hVB
  have HWB := Lib.hid hbB
  have hcar : Below w4.heap.size w4 VB := bch hb hnB
  have XA := Lib.hid (XA.out.on hcar)
  have RA := Lib.hid (RA.out.on hcar)
  have RU := Lib.hid (RU.out.on hcar)
  have HB := Lib.hid (bch HB.out hcar)
  clear hcar
  have RB : Hid (RdD VB (.slice a4 n4 c4) (.slice a5 x.1.wait.length c5) x.1) := Lib.hid (RdD.on ⟨OwnI.rd hI, OwnO.rd hW⟩ hnB)
  have p0 := XA.out.cell (k := 0) rfl
  have p1 := XA.out.cell (k := 1) rfl
  have p2 := XA.out.cell (k := 2) rfl
  clear hI hW hb hnB
  clear hVB hbB
  go_wp2_with (first | (refine wpList_store_row rfl 27 (.tmp 8) (.tmp 34) rfl w5.heap.size #[.slice a4 n4 c4, .slice a5 x.1.wait.length c5, .int .i64 x.1.room] rfl rfl 27 #[.slice none 0 0, .slice none 0 0, .int .i64 0] box_new (info27 _ _ _) rfl (darr_one _ _ _ _ _ _ _) ?_; rw [← HVB.out, ← HWB.out]) | fail)
  clear p0 p1 p2
  refine (check_is D _ _ VB RA.out HZ0.out (HT.out.on HB.out)).mono ?_
  rintro e w6 ⟨he, hb⟩
  have hcar : Below VB.heap.size VB w6 := hb
  have XA := Lib.hid (XA.out.on hcar)
  have RA := Lib.hid (RA.out.on hcar)
  have RU := Lib.hid (RU.out.on hcar)
  have XB := Lib.hid (XB.out.on hcar)
  have RB := Lib.hid (RB.out.on hcar)
  have HB := Lib.hid (bch HB.out hcar)
  clear hcar
  clear hb
  cases hN : nowM D with
  | none =>
    rw [hN] at he
    have he : e = .returned (.int .i64 180) := he
    subst he
    have hx : x = (⟨[], [], 0⟩, 0, 180) := by rw [HX.out, run_none hN]
    obtain ⟨x1, x2, x3⟩ := x
    cases hx
    go_wp2_with fail
    go_ret
    exact ⟨rfl, HB.out⟩
  | some t =>
    rw [hN] at he
    have he : e = .returned (.int .i64 0) := he
    subst he
    have HN := Lib.hid hN
    have HF : Hid (RoomF D L x) := Lib.hid (by rw [HX.out]; exact rooms_of hN L)
    obtain ⟨many, hmany⟩ : ∃ z, z = x.2.1 := ⟨_, rfl⟩
    have HMANY := Lib.hid hmany
    have hmm : many ≤ m := by rw [hmany, HM.out]; exact HF.out.many
    have hm16 : m ≤ 16 := by rw [HM.out]; exact HM16.out
    rw [← hmany]
    have k0 : (0 : Int) ≤ (many : Int) := by omega
    have k1 : (many : Int) ≤ (m : Int) := Int.ofNat_le.2 hmm
    have k2 : (many : Int) ≤ (c3 : Int) := by have := HC3.out.1; omega
    have k3 := HC3.out.2
    clear hN hmany
    go_wp2_with fail
    go_loopw [11, 50] (fun s i wr => ∃ k : Nat, k ≤ many ∧ s = .int .i64 (needM (L.take k) : Nat) ∧ i = .int .i64 k ∧ Hid (Below w6.heap.size w6 wr)) (fun _ i _ => many - (Lib.intOf i).toNat)
    case atStart => exact ⟨0, Nat.zero_le _, rfl, rfl, Lib.hid (Below.refl _ _)⟩
    case round =>
      obtain ⟨k, hk, rfl, rfl, HBk⟩ := hrel
      obtain ⟨wq, hwq⟩ : ∃ q, q = wr := ⟨_, rfl⟩
      rw [← hwq] at HBk ⊢
      clear hwq
      have hnk : needM (L.take k) ≤ 16 := Nat.le_trans (need_le _) (Nat.le_trans (List.length_take_le' _ _) HM16.out)
      by_cases hlt : k < many
      · obtain ⟨o, hko⟩ : ∃ o, L[k]? = some o := ⟨_, List.getElem?_eq_getElem (by rw [← HM.out]; omega)⟩
        have hRq : RdO wq (.slice a3 m c3) L := RdF.on (by have := RU.out; rw [HM.out] at this ⊢; exact this) HBk.out
        obtain ⟨a', c', e, _, _, hc⟩ := hRq.open
        rw [← HM.out] at e
        cases e
        obtain ⟨g, oo, rfl, hg, hc⟩ := hc (by rw [← HM.out]; omega)
        obtain ⟨q0, q1, q2, q3⟩ := hc k o hko
        obtain ⟨w7, hw7⟩ : ∃ z, z = wq.alloc (.cells o.arr 46) := ⟨_, rfl⟩
        obtain ⟨bo, hbo⟩ : ∃ z, z = wq.heap.size := ⟨_, rfl⟩
        have hb7 : Below wq.heap.size wq w7 := by rw [hw7]; exact below_new _ _
        have XO7 : Hid (Box w7 bo 46 o.arr) := Lib.hid (by rw [hw7, hbo]; exact box_new)
        have HB7 := Lib.hid (bch HBk.out hb7)
        have HST := Lib.hid (need_step hko)
        obtain ⟨b, hb⟩ : ∃ b, needsB o = b := ⟨_, rfl⟩
        have HNE : Hid (Calls Tryz.prog 19 #[.agg #[.int .i64 o.kind, .string ⟨o.path.toArray⟩, .string ⟨o.to.toArray⟩, .string ⟨o.data.toArray⟩]] w7 (EqR b w7)) := Lib.hid (needs_is o b hb w7)
        have m0 : w7.cell? ⟨bo, 0, none⟩ = some (.int .i64 o.kind) := XO7.out.cell (k := 0) rfl
        have m1 : w7.cell? ⟨bo, 1, none⟩ = some (.string ⟨o.path.toArray⟩) := XO7.out.cell (k := 1) rfl
        have m2 : w7.cell? ⟨bo, 2, none⟩ = some (.string ⟨o.to.toArray⟩) := XO7.out.cell (k := 2) rfl
        have m3 : w7.cell? ⟨bo, 3, none⟩ = some (.string ⟨o.data.toArray⟩) := XO7.out.cell (k := 3) rfl
        have j1 : (k : Int) < (many : Int) := by omega
        have j2 : (0 : Int) ≤ (k : Int) := by omega
        have hw7' : w7 = wq.alloc (.cells #[.int .i64 o.kind, .string ⟨o.path.toArray⟩, .string ⟨o.to.toArray⟩, .string ⟨o.data.toArray⟩] 46) := hw7
        rw [hb] at HST
        clear hko hRq hc hg hb7 hw7 hb
        go_upto_region 12 with fail
        rw [← hw7', ← hbo]
        clear hw7' hbo q0 q1 q2 q3
        go_wp2_with fail
        refine HNE.out.mono ?_
        rintro e w8 ⟨rfl, hb⟩
        have HB8 := Lib.hid (bch HB7.out hb)
        clear hb m0 m1 m2 m3 HNE
        cases b with
        | true =>
          go_wp2_with fail
          go_roundw
          case rel => exact ⟨k + 1, hlt, by rw [HST.out]; go_num, by go_num, HB8⟩
          case measure => simp [Lib.intOf]; omega
        | false =>
          go_wp2_with fail
          go_roundw
          case rel => exact ⟨k + 1, hlt, by rw [HST.out]; go_num, by go_num, HB8⟩
          case measure => simp [Lib.intOf]; omega
      · obtain rfl : k = many := by omega
        have HB8 := HBk
        obtain ⟨nd, hnd⟩ : ∃ z, z = needM (L.take k) := ⟨_, rfl⟩
        have hF := HF.out
        have HF := Lib.hid hF
        have hnd2 : needM (L.take x.2.1) = nd := by rw [hnd, HMANY.out]
        rw [← hnd] at hnk ⊢
        have hzr := HZ0.out.room
        have XA := Lib.hid ((XA.out).on HBk.out)
        have XB := Lib.hid ((XB.out).on HBk.out)
        have j1 : ¬ ((k : Int) < (k : Int)) := by omega
        obtain ⟨r0, hr0⟩ : ∃ z, z = D.room := ⟨_, rfl⟩
        obtain ⟨r1, hr1⟩ : ∃ z, z = x.1.room := ⟨_, rfl⟩
        obtain ⟨er, her⟩ : ∃ z, z = x.2.2 := ⟨_, rfl⟩
        have p2 : wq.cell? ⟨bA, 2, none⟩ = some (.int .i64 D.room) := XA.out.cell (k := 2) rfl
        have p3 : wq.cell? ⟨bB, 2, none⟩ = some (.int .i64 x.1.room) := XB.out.cell (k := 2) rfl
        have hc : (r0 = -1 ∧ r1 = -1 ∧ (er == 181) = false) ∨ (0 ≤ r0 ∧ r0 ≤ 9223372036854775807 ∧ r1 = r0 - nd ∧ 0 ≤ r1 ∧ (er == 181) = false) ∨ (0 ≤ r0 ∧ r0 ≤ 9223372036854775807 ∧ r0 = nd ∧ r1 = 0 ∧ er = 181) := by
          rw [hr0, hr1, her]
          by_cases h1 : D.room = -1
          · exact .inl ⟨h1, (hF.any h1).1, by simpa using (hF.any h1).2⟩
          · have h2 := hF.some' h1
            have h3 := hF.low
            rw [hnd2] at h2
            by_cases h4 : x.2.2 = 181
            · have h5 := hF.full h4
              exact .inr (.inr ⟨by omega, hzr.2, by omega, h5, h4⟩)
            · exact .inr (.inl ⟨by omega, hzr.2, h2.1, h2.2, by simpa using h4⟩)
        have HR0 := Lib.hid hr0
        have HR1 := Lib.hid hr1
        have HER := Lib.hid her
        rw [← hr0] at p2
        rw [← hr1] at p3
        rw [← her]
        clear hnd hF hnd2 hzr hr0 hr1 her hlt hk
        go_upto_region 15 with fail
        go_cut [100] (fun p wx => p = .bool false ∧ wq = wx)
        case first =>
          rename_i J2 K2 hJ hK2
          rcases hc with ⟨h1, h2, h3⟩ | ⟨h1, h2, h3, h4, h5⟩ | ⟨h1, h2, h3, h4, h5⟩
          · rw [h1] at p2
            rw [h2] at p3
            clear h1 h2
            go_wp2_with fail
            first | refine hK2 _ _ (Met.intro (hJ _ _ ?_)) | refine Met.intro (hJ _ _ ?_)
            (repeat apply Exists.intro)
            refine ⟨?_, rfl⟩
            exact ⟨rfl, rfl⟩
          · have z1 : wrap64 (r0 - (nd : Int)) = r1 := by rw [IntWalk.wrap64_in _ (by omega)]; omega
            have z2 : (r1 == r1) = true := by simp
            have z3 : ¬ r1 < 0 := by omega
            have z4 : (r0 == -1) = false := by simp; omega
            have z5 : r0 ≥ 0 := h1
            go_wp2_with fail
            first | refine hK2 _ _ (Met.intro (hJ _ _ ?_)) | refine Met.intro (hJ _ _ ?_)
            (repeat apply Exists.intro)
            refine ⟨?_, rfl⟩
            exact ⟨rfl, rfl⟩
          · have z1 : wrap64 ((nd : Int) - (nd : Int)) = 0 := by rw [IntWalk.wrap64_in _ (by omega)]; omega
            have z4 : ((nd : Int) == -1) = false := by simp <;> omega
            have z5 : (nd : Int) ≥ 0 := by omega
            have h6 : (er == 181) = true := by simp [h5]
            rw [h3] at p2
            rw [h4] at p3
            clear h3 h4 h5
            go_wp2_with fail
            first | refine hK2 _ _ (Met.intro (hJ _ _ ?_)) | refine Met.intro (hJ _ _ ?_)
            (repeat apply Exists.intro)
            refine ⟨?_, rfl⟩
            exact ⟨rfl, rfl⟩
        case rest =>
          obtain ⟨rfl, hwx⟩ := hcut
          subst hwx
          clear p2 p3 hc
          go_wp2_with fail
          obtain ⟨q, hq, hqm⟩ : ∃ q : Nat, wrap64 ((IntKind.u64.wrap cut).tmod (↑k + 1)) = (q : Int) ∧ q ≤ k := by
            have h1 : (0 : Int) ≤ IntKind.u64.wrap cut := by rw [IntKind.wrap_u64]; omega
            have h2 := Int.tmod_nonneg ((k : Int) + 1) h1
            have h3 := Int.tmod_lt_of_pos (IntKind.u64.wrap cut) (show (0 : Int) < (k : Int) + 1 by omega)
            refine ⟨((IntKind.u64.wrap cut).tmod (↑k + 1)).toNat, ?_, by omega⟩
            rw [IntWalk.wrap64_in _ (by omega), Int.toNat_of_nonneg h2]
          rw [hq]
          obtain ⟨hp1, hp2⟩ := rooms_parts HN.out L q (by rw [← HX.out, ← HMANY.out]; exact hqm)
          have HFR := Lib.hid (free_far HN.out L (by have := HW16.out; have := HM16.out; omega))
          rw [← HX.out] at hp2
          obtain ⟨Da, hDa⟩ : ∃ z, z = (runD D (L.take q) false).1 := ⟨_, rfl⟩
          obtain ⟨j, hj⟩ : ∃ z, z = k - q := ⟨_, rfl⟩
          rw [← hDa, ← HMANY.out, ← HER.out, ← hj] at hp2
          have HP1 : Hid (runD D (L.take q) false = (Da, q, 0)) := Lib.hid (by rw [hDa, ← hp1])
          have HP2 := Lib.hid hp2
          have HZA : Hid (SzD Da) := Lib.hid (by rw [hDa]; exact run_sz HZ0.out _ (fun o h => HSO.out o (List.mem_of_mem_take h)) _)
          have hqj := wrap_part hj hqm (Nat.le_trans hmm hm16)
          have hqm2 : q ≤ m := Nat.le_trans hqm hmm
          have s0 : (0 : Int) ≤ (q : Int) := by omega
          have s2 : (q : Int) ≤ (m : Int) := Int.ofNat_le.2 hqm2
          have s1 : (q : Int) ≤ (c3 : Int) := Int.le_trans s2 (by have := HC3.out.1; omega)
          obtain ⟨v0, hv0⟩ : ∃ z, z = World.drew wq := ⟨_, rfl⟩
          obtain ⟨vs, hvs⟩ : ∃ z, z = World.drew wq := ⟨_, rfl⟩
          have hb7 : Below wq.heap.size wq vs := by rw [hvs]; exact (Below.refl _ _).drew
          have hbq := HBk.out
          have XAv : Hid (Box vs bA 27 #[.slice a1 n1 c1, .slice a2 D.wait.length c2, .int .i64 D.room]) := Lib.hid (XA.out.on hb7)
          have XBv : Hid (Box vs bB 27 #[.slice a4 n4 c4, .slice a5 x.1.wait.length c5, .int .i64 x.1.room]) := Lib.hid (XB.out.on hb7)
          have RAv : Hid (RdD vs (.slice a1 n1 c1) (.slice a2 D.wait.length c2) D) := Lib.hid ((RA.out.on hbq).on hb7)
          have RBv : Hid (RdD vs (.slice a4 n4 c4) (.slice a5 x.1.wait.length c5) x.1) := Lib.hid ((RB.out.on hbq).on hb7)
          have RUv : Hid (RdO vs (.slice a3 m c3) L) := Lib.hid (by have := RU.out; rw [HM.out] at this ⊢; exact RdF.on (RdF.on this hbq) hb7)
          have HBv : Hid (Below w.heap.size w vs) := Lib.hid (bch (bch HB.out hbq) hb7)
          have HQM := Lib.hid hqm2
          have HR2 : Hid (∀ W, Below vs.heap.size vs W → Calls Tryz.prog 22 #[.agg #[.slice a1 n1 c1, .slice a2 D.wait.length c2, .int .i64 D.room], .slice a3 q c3, .bool false] W (RunAt Da q 0 W)) := Lib.hid (fun W hW => by
            have := runF_is D _ _ (L.take q) _ false W (RAv.out.on hW) HZ0.out (RdO.take HM.out (by have := RUv.out; rw [HM.out] at this ⊢; exact RdF.on this hW) q HQM.out) (Nat.le_trans (List.length_take_le' _ _) (Nat.le_trans HM16.out (by decide))) (fun o h => HSO.out o (List.mem_of_mem_take h)) ((HT.out.on HBv.out).on hW)
            rw [HP1.out] at this
            exact this)
          clear hp1 hp2 hj hDa hq hqm hqm2 hb7 hbq XA XB
          go_cut [15, 16, 17] (CutD vs Da q 0)
          case first =>
            rename_i J2 K2 hJ hK2
            refine wp_region_held_drew (S := fun w' => Below vs.heap.size vs w') (by kernel_rfl) (by rw [hvs]; exact Below.refl _ _) (fun hHeld => ?_)
            rw [← hv0] at hHeld ⊢
            clear hv0 hvs
            refine wpAnyH_take (i := 0) (oi := { dst := some 109, op := Op.load 27 (Operand.tmp 7), type := 27, pos := "outright.go:93", after := #[], guard := none }) (v := ?_) rfl (by kernel_rfl) (by kernel_rfl) (by kernel_rfl) (fun _ _ _ h => h) (Or.inl ⟨by rfl, ?_⟩) hHeld ?_
            rotate_left
            · (intro w hSw; have p0 : w.cell? ⟨bA, 0, none⟩ = some (.slice a1 n1 c1) := (XAv.out.on hSw).cell (k := 0) rfl; have p1 : w.cell? ⟨bA, 1, none⟩ = some (.slice a2 D.wait.length c2) := (XAv.out.on hSw).cell (k := 1) rfl; have p2 : w.cell? ⟨bA, 2, none⟩ = some (.int .i64 D.room) := (XAv.out.on hSw).cell (k := 2) rfl; go_simp; try with_reducible rfl)
            (try simp only [Act.put, List.setIfInBounds_toArray, List.set_cons_zero, List.set_cons_succ])
            refine wpAnyH_take (i := 1) (oi := { dst := some 110, op := Op.move (Operand.tmp 1), type := 25, pos := "outright.go:93", after := #[], guard := none }) (v := ?_) rfl (by kernel_rfl) (by kernel_rfl) (by kernel_rfl) (fun _ _ _ h => h) (Or.inl ⟨by rfl, ?_⟩) hHeld ?_
            rotate_left
            · (intro w hSw; go_simp; try with_reducible rfl)
            (try simp only [Act.put, List.setIfInBounds_toArray, List.set_cons_zero, List.set_cons_succ])
            refine wpAnyH_take (i := 2) (oi := { dst := some 111, op := Op.move (Operand.tmp 14), type := 3, pos := "outright.go:93", after := #[], guard := none }) (v := ?_) rfl (by kernel_rfl) (by kernel_rfl) (by kernel_rfl) (fun _ _ _ h => h) (Or.inl ⟨by rfl, ?_⟩) hHeld ?_
            rotate_left
            · (intro w hSw; go_simp; try with_reducible rfl)
            (try simp only [Act.put, List.setIfInBounds_toArray, List.set_cons_zero, List.set_cons_succ])
            refine wpAnyH_take (i := 3) (oi := { dst := some 112, op := Op.slice 25 (Operand.tmp 110) none (some (Operand.tmp 111)) none, type := 25, pos := "outright.go:93", after := #[{ on := 1, ground := Ground.data }, { on := 2, ground := Ground.data }], guard := none }) (v := ?_) rfl (by kernel_rfl) (by kernel_rfl) (by kernel_rfl) (fun _ _ _ h => h) (Or.inl ⟨by rfl, ?_⟩) hHeld ?_
            rotate_left
            · (intro w hSw; go_simp; try with_reducible rfl)
            (try simp only [Act.put, List.setIfInBounds_toArray, List.set_cons_zero, List.set_cons_succ])
            refine wpAnyH_ready (rs := [4, 9]) (by kernel_rfl) (by simp) (AllReadyH.cons (o := { dst := some 113, op := Op.call { callee := Callee.value (Operand.func 22), args := #[Operand.tmp 109, Operand.tmp 112, Operand.const (Value.bool false)], argTypes := #[27, 25, 4] }, type := 50, pos := "outright.go:93", after := #[{ on := 0, ground := Ground.data }, { on := 3, ground := Ground.data }], guard := none }) rfl (fun K hK => ?_) (AllReadyH.cons (o := { dst := some 15, op := Op.alloc 27, type := 0, pos := "outright.go:93", after := #[], guard := none }) rfl (fun K hK => ?_) AllReadyH.nil))
            · go_simp
              refine (HR2.out _ hHeld).mono ?_
              rintro e v104 ⟨iv9, wv9, rfl, hI9, hW9, hba⟩
              have HI9 : Hid (OwnI v104 vs.heap.size iv9 Da.safe) := Lib.hid (own_base hI9 hHeld.size)
              have HW9 : Hid (OwnO v104 vs.heap.size wv9 Da.wait) := Lib.hid (own_base hW9 hHeld.size)
              obtain ⟨xa, xn, xc, rfl⟩ := own_any3 HI9.out
              obtain ⟨ya, yn, yc, rfl⟩ := own_any3 HW9.out
              refine hK.out _ _ (bch hHeld hba) (fun hHeld => ?_)
              clear hba hI9 hW9
              (try simp only [Act.put, List.setIfInBounds_toArray, List.set_cons_zero, List.set_cons_succ])
              refine wpAnyH_take (i := 5) (oi := { dst := some 108, op := Op.move (Operand.tmp 113), type := 50, pos := "outright.go:93", after := #[{ on := 4, ground := Ground.data }], guard := none }) (v := ?_) rfl (by kernel_rfl) (by kernel_rfl) (by kernel_rfl) (fun _ _ _ h => h) (Or.inl ⟨by rfl, ?_⟩) hHeld ?_
              rotate_left
              · (intro w hSw; go_simp; try with_reducible rfl)
              (try simp only [Act.put, List.setIfInBounds_toArray, List.set_cons_zero, List.set_cons_succ])
              refine wpAnyH_take (i := 6) (oi := { dst := some 114, op := Op.extract (Operand.tmp 108) 0, type := 27, pos := "outright.go:93", after := #[{ on := 5, ground := Ground.data }], guard := none }) (v := ?_) rfl (by kernel_rfl) (by kernel_rfl) (by kernel_rfl) (fun _ _ _ h => h) (Or.inl ⟨by rfl, ?_⟩) hHeld ?_
              rotate_left
              · (intro w hSw; go_simp; try with_reducible rfl)
              (try simp only [Act.put, List.setIfInBounds_toArray, List.set_cons_zero, List.set_cons_succ])
              refine wpAnyH_take (i := 7) (oi := { dst := some 115, op := Op.extract (Operand.tmp 108) 1, type := 3, pos := "outright.go:93", after := #[{ on := 5, ground := Ground.data }, { on := 10, ground := Ground.gcOnly Departure.lateStores }], guard := none }) (v := ?_) rfl (by kernel_rfl) (by kernel_rfl) (by kernel_rfl) (fun _ _ _ h => h) (Or.inl ⟨by rfl, ?_⟩) hHeld ?_
              rotate_left
              · (intro w hSw; go_simp; try with_reducible rfl)
              (try simp only [Act.put, List.setIfInBounds_toArray, List.set_cons_zero, List.set_cons_succ])
              refine wpAnyH_take (i := 8) (oi := { dst := some 116, op := Op.extract (Operand.tmp 108) 2, type := 32, pos := "outright.go:93", after := #[{ on := 5, ground := Ground.data }, { on := 11, ground := Ground.gcOnly Departure.lateStores }], guard := none }) (v := ?_) rfl (by kernel_rfl) (by kernel_rfl) (by kernel_rfl) (fun _ _ _ h => h) (Or.inl ⟨by rfl, ?_⟩) hHeld ?_
              rotate_left
              · (intro w hSw; go_simp; try with_reducible rfl)
              (try simp only [Act.put, List.setIfInBounds_toArray, List.set_cons_zero, List.set_cons_succ])
              refine wpAnyH_ready (rs := [9]) (by kernel_rfl) (by simp) (AllReadyH.cons (o := { dst := some 15, op := Op.alloc 27, type := 0, pos := "outright.go:93", after := #[], guard := none }) rfl (fun K hK => ?_) AllReadyH.nil)
              · go_simp
                have hba : Below v104.heap.size v104 (v104.alloc (.cells #[.slice none 0 0, .slice none 0 0, .int .i64 0] 27)) := below_new _ _
                have Z7 : Hid (Box (v104.alloc (.cells #[.slice none 0 0, .slice none 0 0, .int .i64 0] 27)) v104.heap.size 27 #[.slice none 0 0, .slice none 0 0, .int .i64 0]) := Lib.hid box_new
                have HB7 : Hid (vs.heap.size ≤ v104.heap.size) := Lib.hid hHeld.size
                have HI9 := Lib.hid (HI9.out.on hba)
                have HW9 := Lib.hid (HW9.out.on hba)
                obtain ⟨v109, hv9⟩ : ∃ q, q = (v104.alloc (.cells #[.slice none 0 0, .slice none 0 0, .int .i64 0] 27)) := ⟨_, rfl⟩
                refine hK.out _ _ (bch hHeld hba) (fun hHeld => ?_)
                clear hba
                rw [← hv9] at Z7 hHeld HI9 HW9 ⊢
                clear hv9
                obtain ⟨b7, hg9⟩ : ∃ q, q = v104.heap.size := ⟨_, rfl⟩
                rw [← hg9] at Z7 HB7 ⊢
                clear hg9
                (try simp only [Act.put, List.setIfInBounds_toArray, List.set_cons_zero, List.set_cons_succ])
                refine wpAnyH_ready (rs := [10]) (by kernel_rfl) (by simp) (AllReadyH.cons (o := { dst := none, op := Op.store 27 (Operand.tmp 15) (Operand.tmp 114), type := 0, pos := "outright.go:93", after := #[{ on := 9, ground := Ground.data }, { on := 6, ground := Ground.data }, { on := 4, ground := Ground.chain }, { on := 0, ground := Ground.phase }, { on := 1, ground := Ground.phase }, { on := 2, ground := Ground.phase }, { on := 3, ground := Ground.phase }, { on := 4, ground := Ground.phase }, { on := 5, ground := Ground.phase }, { on := 6, ground := Ground.phase }, { on := 7, ground := Ground.textOnly Departure.lateStores }, { on := 8, ground := Ground.textOnly Departure.lateStores }, { on := 9, ground := Ground.phase }], guard := none }) rfl (fun K hK => ?_) AllReadyH.nil)
                · refine wp_store_if (by rfl) 27 (.tmp 15) (.tmp 114) rfl b7 27 #[.slice none 0 0, .slice none 0 0, .int .i64 0] #[.slice xa xn xc, .slice ya yn yc, .int .i64 Da.room] rfl rfl Z7.out (info27 _ _ _) rfl (darr_one _ _ _ _ _ _ _) ?_
                  have Z8 : Hid (Box (v109.setRow b7 #[.slice xa xn xc, .slice ya yn yc, .int .i64 Da.room]) b7 27 #[.slice xa xn xc, .slice ya yn yc, .int .i64 Da.room]) := Lib.hid (Z7.out.row _)
                  have HR9 : Hid (RdD (v109.setRow b7 #[.slice xa xn xc, .slice ya yn yc, .int .i64 Da.room]) (.slice xa xn xc) (.slice ya yn yc) Da) := Lib.hid ⟨OwnI.rd (own_row' (cs' := #[.slice xa xn xc, .slice ya yn yc, .int .i64 Da.room]) HI9.out Z7.out (by decide)), OwnO.rd (own_row' (cs' := #[.slice xa xn xc, .slice ya yn yc, .int .i64 Da.room]) HW9.out Z7.out (by decide))⟩
                  refine hK.out _ _ (below_row hHeld HB7.out _) (fun hHeld => ?_)
                  clear Z7
                  (try simp only [Act.put])
                  refine wpAnyH_take (i := 11) (oi := { dst := some 16, op := Op.assign (Operand.tmp 115), type := 3, pos := "outright.go:93", after := #[{ on := 7, ground := Ground.data }, { on := 10, ground := Ground.chain }, { on := 0, ground := Ground.phase }, { on := 1, ground := Ground.phase }, { on := 2, ground := Ground.phase }, { on := 3, ground := Ground.phase }, { on := 4, ground := Ground.phase }, { on := 5, ground := Ground.phase }, { on := 6, ground := Ground.phase }, { on := 7, ground := Ground.phase }, { on := 8, ground := Ground.textOnly Departure.lateStores }, { on := 9, ground := Ground.phase }, { on := 10, ground := Ground.phase }], guard := none }) (v := ?_) rfl (by kernel_rfl) (by kernel_rfl) (by kernel_rfl) (fun _ _ _ h => h) (Or.inl ⟨by rfl, ?_⟩) hHeld ?_
                  rotate_left
                  · (intro w hSw; go_simp; try with_reducible rfl)
                  (try simp only [Act.put, List.setIfInBounds_toArray, List.set_cons_zero, List.set_cons_succ])
                  refine wpAnyH_take (i := 12) (oi := { dst := some 17, op := Op.assign (Operand.tmp 116), type := 32, pos := "outright.go:93", after := #[{ on := 8, ground := Ground.data }, { on := 11, ground := Ground.chain }, { on := 0, ground := Ground.phase }, { on := 1, ground := Ground.phase }, { on := 2, ground := Ground.phase }, { on := 3, ground := Ground.phase }, { on := 4, ground := Ground.phase }, { on := 5, ground := Ground.phase }, { on := 6, ground := Ground.phase }, { on := 7, ground := Ground.phase }, { on := 8, ground := Ground.phase }, { on := 9, ground := Ground.phase }, { on := 10, ground := Ground.phase }, { on := 11, ground := Ground.phase }], guard := none }) (v := ?_) rfl (by kernel_rfl) (by kernel_rfl) (by kernel_rfl) (fun _ _ _ h => h) (Or.inl ⟨by rfl, ?_⟩) hHeld ?_
                  rotate_left
                  · (intro w hSw; go_simp; try with_reducible rfl)
                  (try simp only [Act.put, List.setIfInBounds_toArray, List.set_cons_zero, List.set_cons_succ])
                  refine wpAnyH_done (by kernel_rfl) ?_ _
                  first | refine hK2 _ _ (Met.intro (hJ _ _ ?_)) | refine Met.intro (hJ _ _ ?_)
                  (repeat apply Exists.intro)
                  refine ⟨?_, rfl⟩
                  exact ⟨_, _, _, rfl, rfl, rfl, Z8, HR9, Lib.hid hHeld⟩
            · go_simp
              have hba : Below v0.heap.size v0 (v0.alloc (.cells #[.slice none 0 0, .slice none 0 0, .int .i64 0] 27)) := below_new _ _
              have Z7 : Hid (Box (v0.alloc (.cells #[.slice none 0 0, .slice none 0 0, .int .i64 0] 27)) v0.heap.size 27 #[.slice none 0 0, .slice none 0 0, .int .i64 0]) := Lib.hid box_new
              have HB7 : Hid (vs.heap.size ≤ v0.heap.size) := Lib.hid hHeld.size
              obtain ⟨v109, hv9⟩ : ∃ q, q = (v0.alloc (.cells #[.slice none 0 0, .slice none 0 0, .int .i64 0] 27)) := ⟨_, rfl⟩
              refine hK.out _ _ (bch hHeld hba) (fun hHeld => ?_)
              clear hba
              rw [← hv9] at Z7 hHeld ⊢
              clear hv9
              obtain ⟨b7, hg9⟩ : ∃ q, q = v0.heap.size := ⟨_, rfl⟩
              rw [← hg9] at Z7 HB7 ⊢
              clear hg9
              (try simp only [Act.put, List.setIfInBounds_toArray, List.set_cons_zero, List.set_cons_succ])
              refine wpAnyH_ready (rs := [4]) (by kernel_rfl) (by simp) (AllReadyH.cons (o := { dst := some 113, op := Op.call { callee := Callee.value (Operand.func 22), args := #[Operand.tmp 109, Operand.tmp 112, Operand.const (Value.bool false)], argTypes := #[27, 25, 4] }, type := 50, pos := "outright.go:93", after := #[{ on := 0, ground := Ground.data }, { on := 3, ground := Ground.data }], guard := none }) rfl (fun K hK => ?_) AllReadyH.nil)
              · go_simp
                refine (HR2.out _ hHeld).mono ?_
                rintro e v104 ⟨iv9, wv9, rfl, hI9, hW9, hba⟩
                have HI9 : Hid (OwnI v104 vs.heap.size iv9 Da.safe) := Lib.hid (own_base hI9 hHeld.size)
                have HW9 : Hid (OwnO v104 vs.heap.size wv9 Da.wait) := Lib.hid (own_base hW9 hHeld.size)
                obtain ⟨xa, xn, xc, rfl⟩ := own_any3 HI9.out
                obtain ⟨ya, yn, yc, rfl⟩ := own_any3 HW9.out
                have Z7 := Lib.hid (Z7.out.on hba)
                refine hK.out _ _ (bch hHeld hba) (fun hHeld => ?_)
                clear hba hI9 hW9
                (try simp only [Act.put, List.setIfInBounds_toArray, List.set_cons_zero, List.set_cons_succ])
                refine wpAnyH_take (i := 5) (oi := { dst := some 108, op := Op.move (Operand.tmp 113), type := 50, pos := "outright.go:93", after := #[{ on := 4, ground := Ground.data }], guard := none }) (v := ?_) rfl (by kernel_rfl) (by kernel_rfl) (by kernel_rfl) (fun _ _ _ h => h) (Or.inl ⟨by rfl, ?_⟩) hHeld ?_
                rotate_left
                · (intro w hSw; go_simp; try with_reducible rfl)
                (try simp only [Act.put, List.setIfInBounds_toArray, List.set_cons_zero, List.set_cons_succ])
                refine wpAnyH_take (i := 6) (oi := { dst := some 114, op := Op.extract (Operand.tmp 108) 0, type := 27, pos := "outright.go:93", after := #[{ on := 5, ground := Ground.data }], guard := none }) (v := ?_) rfl (by kernel_rfl) (by kernel_rfl) (by kernel_rfl) (fun _ _ _ h => h) (Or.inl ⟨by rfl, ?_⟩) hHeld ?_
                rotate_left
                · (intro w hSw; go_simp; try with_reducible rfl)
                (try simp only [Act.put, List.setIfInBounds_toArray, List.set_cons_zero, List.set_cons_succ])
                refine wpAnyH_take (i := 7) (oi := { dst := some 115, op := Op.extract (Operand.tmp 108) 1, type := 3, pos := "outright.go:93", after := #[{ on := 5, ground := Ground.data }, { on := 10, ground := Ground.gcOnly Departure.lateStores }], guard := none }) (v := ?_) rfl (by kernel_rfl) (by kernel_rfl) (by kernel_rfl) (fun _ _ _ h => h) (Or.inl ⟨by rfl, ?_⟩) hHeld ?_
                rotate_left
                · (intro w hSw; go_simp; try with_reducible rfl)
                (try simp only [Act.put, List.setIfInBounds_toArray, List.set_cons_zero, List.set_cons_succ])
                refine wpAnyH_take (i := 8) (oi := { dst := some 116, op := Op.extract (Operand.tmp 108) 2, type := 32, pos := "outright.go:93", after := #[{ on := 5, ground := Ground.data }, { on := 11, ground := Ground.gcOnly Departure.lateStores }], guard := none }) (v := ?_) rfl (by kernel_rfl) (by kernel_rfl) (by kernel_rfl) (fun _ _ _ h => h) (Or.inl ⟨by rfl, ?_⟩) hHeld ?_
                rotate_left
                · (intro w hSw; go_simp; try with_reducible rfl)
                (try simp only [Act.put, List.setIfInBounds_toArray, List.set_cons_zero, List.set_cons_succ])
                refine wpAnyH_ready (rs := [10]) (by kernel_rfl) (by simp) (AllReadyH.cons (o := { dst := none, op := Op.store 27 (Operand.tmp 15) (Operand.tmp 114), type := 0, pos := "outright.go:93", after := #[{ on := 9, ground := Ground.data }, { on := 6, ground := Ground.data }, { on := 4, ground := Ground.chain }, { on := 0, ground := Ground.phase }, { on := 1, ground := Ground.phase }, { on := 2, ground := Ground.phase }, { on := 3, ground := Ground.phase }, { on := 4, ground := Ground.phase }, { on := 5, ground := Ground.phase }, { on := 6, ground := Ground.phase }, { on := 7, ground := Ground.textOnly Departure.lateStores }, { on := 8, ground := Ground.textOnly Departure.lateStores }, { on := 9, ground := Ground.phase }], guard := none }) rfl (fun K hK => ?_) AllReadyH.nil)
                · refine wp_store_if (by rfl) 27 (.tmp 15) (.tmp 114) rfl b7 27 #[.slice none 0 0, .slice none 0 0, .int .i64 0] #[.slice xa xn xc, .slice ya yn yc, .int .i64 Da.room] rfl rfl Z7.out (info27 _ _ _) rfl (darr_one _ _ _ _ _ _ _) ?_
                  have Z8 : Hid (Box (v104.setRow b7 #[.slice xa xn xc, .slice ya yn yc, .int .i64 Da.room]) b7 27 #[.slice xa xn xc, .slice ya yn yc, .int .i64 Da.room]) := Lib.hid (Z7.out.row _)
                  have HR9 : Hid (RdD (v104.setRow b7 #[.slice xa xn xc, .slice ya yn yc, .int .i64 Da.room]) (.slice xa xn xc) (.slice ya yn yc) Da) := Lib.hid ⟨OwnI.rd (own_row' (cs' := #[.slice xa xn xc, .slice ya yn yc, .int .i64 Da.room]) HI9.out Z7.out (by decide)), OwnO.rd (own_row' (cs' := #[.slice xa xn xc, .slice ya yn yc, .int .i64 Da.room]) HW9.out Z7.out (by decide))⟩
                  refine hK.out _ _ (below_row hHeld HB7.out _) (fun hHeld => ?_)
                  clear Z7
                  (try simp only [Act.put])
                  refine wpAnyH_take (i := 11) (oi := { dst := some 16, op := Op.assign (Operand.tmp 115), type := 3, pos := "outright.go:93", after := #[{ on := 7, ground := Ground.data }, { on := 10, ground := Ground.chain }, { on := 0, ground := Ground.phase }, { on := 1, ground := Ground.phase }, { on := 2, ground := Ground.phase }, { on := 3, ground := Ground.phase }, { on := 4, ground := Ground.phase }, { on := 5, ground := Ground.phase }, { on := 6, ground := Ground.phase }, { on := 7, ground := Ground.phase }, { on := 8, ground := Ground.textOnly Departure.lateStores }, { on := 9, ground := Ground.phase }, { on := 10, ground := Ground.phase }], guard := none }) (v := ?_) rfl (by kernel_rfl) (by kernel_rfl) (by kernel_rfl) (fun _ _ _ h => h) (Or.inl ⟨by rfl, ?_⟩) hHeld ?_
                  rotate_left
                  · (intro w hSw; go_simp; try with_reducible rfl)
                  (try simp only [Act.put, List.setIfInBounds_toArray, List.set_cons_zero, List.set_cons_succ])
                  refine wpAnyH_take (i := 12) (oi := { dst := some 17, op := Op.assign (Operand.tmp 116), type := 32, pos := "outright.go:93", after := #[{ on := 8, ground := Ground.data }, { on := 11, ground := Ground.chain }, { on := 0, ground := Ground.phase }, { on := 1, ground := Ground.phase }, { on := 2, ground := Ground.phase }, { on := 3, ground := Ground.phase }, { on := 4, ground := Ground.phase }, { on := 5, ground := Ground.phase }, { on := 6, ground := Ground.phase }, { on := 7, ground := Ground.phase }, { on := 8, ground := Ground.phase }, { on := 9, ground := Ground.phase }, { on := 10, ground := Ground.phase }, { on := 11, ground := Ground.phase }], guard := none }) (v := ?_) rfl (by kernel_rfl) (by kernel_rfl) (by kernel_rfl) (fun _ _ _ h => h) (Or.inl ⟨by rfl, ?_⟩) hHeld ?_
                  rotate_left
                  · (intro w hSw; go_simp; try with_reducible rfl)
                  (try simp only [Act.put, List.setIfInBounds_toArray, List.set_cons_zero, List.set_cons_succ])
                  refine wpAnyH_done (by kernel_rfl) ?_ _
                  first | refine hK2 _ _ (Met.intro (hJ _ _ ?_)) | refine Met.intro (hJ _ _ ?_)
                  (repeat apply Exists.intro)
                  refine ⟨?_, rfl⟩
                  exact ⟨_, _, _, rfl, rfl, rfl, Z8, HR9, Lib.hid hHeld⟩
          case rest =>
            obtain ⟨g15, iv5, wv5, rfl, rfl, rfl, Z15, R15, HB15⟩ := hcut
            obtain ⟨w7, hw7⟩ : ∃ z, z = wc := ⟨_, rfl⟩
            rw [← hw7] at Z15 R15 HB15 ⊢
            clear hw7
            go_wp2_with fail
            obtain ⟨x1, x2, rfl, _⟩ := R15.out.items.open
            obtain ⟨y1, y2, rfl, _⟩ := R15.out.wait.open
            have HB7 := Lib.hid (bch HBv.out HB15.out)
            obtain ⟨v0, hv0⟩ : ∃ z, z = World.drew w7 := ⟨_, rfl⟩
            obtain ⟨vt, hvt⟩ : ∃ z, z = World.drew w7 := ⟨_, rfl⟩
            have hb8 : Below w7.heap.size w7 vt := by rw [hvt]; exact (Below.refl _ _).drew
            have hst := bch HB15.out hb8
            have XAt : Hid (Box vt bA 27 #[.slice a1 n1 c1, .slice a2 D.wait.length c2, .int .i64 D.room]) := Lib.hid (XAv.out.on hst)
            have XBt : Hid (Box vt bB 27 #[.slice a4 n4 c4, .slice a5 x.1.wait.length c5, .int .i64 x.1.room]) := Lib.hid (XBv.out.on hst)
            have X15t : Hid (Box vt g15 27 #[.slice x1 Da.safe.length x2, .slice y1 Da.wait.length y2, .int .i64 Da.room]) := Lib.hid (Z15.out.on hb8)
            have RAt : Hid (RdD vt (.slice a1 n1 c1) (.slice a2 D.wait.length c2) D) := Lib.hid (RAv.out.on hst)
            have RBt : Hid (RdD vt (.slice a4 n4 c4) (.slice a5 x.1.wait.length c5) x.1) := Lib.hid (RBv.out.on hst)
            have R15t : Hid (RdD vt (.slice x1 Da.safe.length x2) (.slice y1 Da.wait.length y2) Da) := Lib.hid (R15.out.on hb8)
            have RUt : Hid (RdO vt (.slice a3 m c3) L) := Lib.hid (by have := RUv.out; rw [HM.out] at this ⊢; exact RdF.on this hst)
            have HBt : Hid (Below w.heap.size w vt) := Lib.hid (bch HB7.out hb8)
            have HR3 : Hid (∀ W, Below vt.heap.size vt W → Calls Tryz.prog 22 #[.agg #[.slice x1 Da.safe.length x2, .slice y1 Da.wait.length y2, .int .i64 Da.room], .slice (if c3 = q then a3 else a3.map fun x => x.add (q * 4)) (m - q) (c3 - q), .bool false] W (RunAt x.1 j er W)) := Lib.hid (fun W hW => by
              have hl : (L.drop q).length ≤ 50000 := by rw [List.length_drop]; have := HM16.out; omega
              have := runF_is Da _ _ (L.drop q) _ false W (R15t.out.on hW) HZA.out (RdO.cut HM.out (by have := RUt.out; rw [HM.out] at this ⊢; exact RdF.on this hW) q HQM.out) hl (fun o h => HSO.out o (List.mem_of_mem_drop h)) ((HT.out.on HBt.out).on hW)
              rw [HP2.out] at this
              exact this)
            clear hb8 hst XAv XBv RAv RBv RUv HBv HR2 HB15 Z15 R15 HB7
            go_cut [18, 19, 20] (CutD vt x.1 j er)
            case first =>
              rename_i J2 K2 hJ hK2
              refine wp_region_held_drew (S := fun w' => Below vt.heap.size vt w') (by kernel_rfl) (by rw [hvt]; exact Below.refl _ _) (fun hHeld => ?_)
              rw [← hv0] at hHeld ⊢
              clear hv0 hvt
              refine wpAnyH_take (i := 0) (oi := { dst := some 118, op := Op.load 27 (Operand.tmp 15), type := 27, pos := "outright.go:94", after := #[], guard := none }) (v := ?_) rfl (by kernel_rfl) (by kernel_rfl) (by kernel_rfl) (fun _ _ _ h => h) (Or.inl ⟨by rfl, ?_⟩) hHeld ?_
              rotate_left
              · (intro w hSw; have p0 : w.cell? ⟨g15, 0, none⟩ = some (.slice x1 Da.safe.length x2) := (X15t.out.on hSw).cell (k := 0) rfl; have p1 : w.cell? ⟨g15, 1, none⟩ = some (.slice y1 Da.wait.length y2) := (X15t.out.on hSw).cell (k := 1) rfl; have p2 : w.cell? ⟨g15, 2, none⟩ = some (.int .i64 Da.room) := (X15t.out.on hSw).cell (k := 2) rfl; go_simp; try with_reducible rfl)
              (try simp only [Act.put, List.setIfInBounds_toArray, List.set_cons_zero, List.set_cons_succ])
              refine wpAnyH_take (i := 1) (oi := { dst := some 119, op := Op.move (Operand.tmp 1), type := 25, pos := "outright.go:94", after := #[], guard := none }) (v := ?_) rfl (by kernel_rfl) (by kernel_rfl) (by kernel_rfl) (fun _ _ _ h => h) (Or.inl ⟨by rfl, ?_⟩) hHeld ?_
              rotate_left
              · (intro w hSw; go_simp; try with_reducible rfl)
              (try simp only [Act.put, List.setIfInBounds_toArray, List.set_cons_zero, List.set_cons_succ])
              refine wpAnyH_take (i := 2) (oi := { dst := some 120, op := Op.move (Operand.tmp 14), type := 3, pos := "outright.go:94", after := #[], guard := none }) (v := ?_) rfl (by kernel_rfl) (by kernel_rfl) (by kernel_rfl) (fun _ _ _ h => h) (Or.inl ⟨by rfl, ?_⟩) hHeld ?_
              rotate_left
              · (intro w hSw; go_simp; try with_reducible rfl)
              (try simp only [Act.put, List.setIfInBounds_toArray, List.set_cons_zero, List.set_cons_succ])
              refine wpAnyH_take (i := 3) (oi := { dst := some 121, op := Op.slice 25 (Operand.tmp 119) (some (Operand.tmp 120)) none none, type := 25, pos := "outright.go:94", after := #[{ on := 1, ground := Ground.data }, { on := 2, ground := Ground.data }], guard := none }) (v := ?_) rfl (by kernel_rfl) (by kernel_rfl) (by kernel_rfl) (fun _ _ _ h => h) (Or.inl ⟨by rfl, ?_⟩) hHeld ?_
              rotate_left
              · (intro w hSw; go_simp; try with_reducible rfl)
              (try simp only [Act.put, List.setIfInBounds_toArray, List.set_cons_zero, List.set_cons_succ])
              refine wpAnyH_ready (rs := [4, 9]) (by kernel_rfl) (by simp) (AllReadyH.cons (o := { dst := some 122, op := Op.call { callee := Callee.value (Operand.func 22), args := #[Operand.tmp 118, Operand.tmp 121, Operand.const (Value.bool false)], argTypes := #[27, 25, 4] }, type := 50, pos := "outright.go:94", after := #[{ on := 0, ground := Ground.data }, { on := 3, ground := Ground.data }], guard := none }) rfl (fun K hK => ?_) (AllReadyH.cons (o := { dst := some 18, op := Op.alloc 27, type := 0, pos := "outright.go:94", after := #[], guard := none }) rfl (fun K hK => ?_) AllReadyH.nil))
              · go_simp
                refine (HR3.out _ hHeld).mono ?_
                rintro e v104 ⟨iv9, wv9, rfl, hI9, hW9, hba⟩
                have HI9 : Hid (OwnI v104 vt.heap.size iv9 x.1.safe) := Lib.hid (own_base hI9 hHeld.size)
                have HW9 : Hid (OwnO v104 vt.heap.size wv9 x.1.wait) := Lib.hid (own_base hW9 hHeld.size)
                obtain ⟨xa, xn, xc, rfl⟩ := own_any3 HI9.out
                obtain ⟨ya, yn, yc, rfl⟩ := own_any3 HW9.out
                refine hK.out _ _ (bch hHeld hba) (fun hHeld => ?_)
                clear hba hI9 hW9
                (try simp only [Act.put, List.setIfInBounds_toArray, List.set_cons_zero, List.set_cons_succ])
                refine wpAnyH_take (i := 5) (oi := { dst := some 117, op := Op.move (Operand.tmp 122), type := 50, pos := "outright.go:94", after := #[{ on := 4, ground := Ground.data }], guard := none }) (v := ?_) rfl (by kernel_rfl) (by kernel_rfl) (by kernel_rfl) (fun _ _ _ h => h) (Or.inl ⟨by rfl, ?_⟩) hHeld ?_
                rotate_left
                · (intro w hSw; go_simp; try with_reducible rfl)
                (try simp only [Act.put, List.setIfInBounds_toArray, List.set_cons_zero, List.set_cons_succ])
                refine wpAnyH_take (i := 6) (oi := { dst := some 123, op := Op.extract (Operand.tmp 117) 0, type := 27, pos := "outright.go:94", after := #[{ on := 5, ground := Ground.data }], guard := none }) (v := ?_) rfl (by kernel_rfl) (by kernel_rfl) (by kernel_rfl) (fun _ _ _ h => h) (Or.inl ⟨by rfl, ?_⟩) hHeld ?_
                rotate_left
                · (intro w hSw; go_simp; try with_reducible rfl)
                (try simp only [Act.put, List.setIfInBounds_toArray, List.set_cons_zero, List.set_cons_succ])
                refine wpAnyH_take (i := 7) (oi := { dst := some 124, op := Op.extract (Operand.tmp 117) 1, type := 3, pos := "outright.go:94", after := #[{ on := 5, ground := Ground.data }, { on := 10, ground := Ground.gcOnly Departure.lateStores }], guard := none }) (v := ?_) rfl (by kernel_rfl) (by kernel_rfl) (by kernel_rfl) (fun _ _ _ h => h) (Or.inl ⟨by rfl, ?_⟩) hHeld ?_
                rotate_left
                · (intro w hSw; go_simp; try with_reducible rfl)
                (try simp only [Act.put, List.setIfInBounds_toArray, List.set_cons_zero, List.set_cons_succ])
                refine wpAnyH_take (i := 8) (oi := { dst := some 125, op := Op.extract (Operand.tmp 117) 2, type := 32, pos := "outright.go:94", after := #[{ on := 5, ground := Ground.data }, { on := 11, ground := Ground.gcOnly Departure.lateStores }], guard := none }) (v := ?_) rfl (by kernel_rfl) (by kernel_rfl) (by kernel_rfl) (fun _ _ _ h => h) (Or.inl ⟨by rfl, ?_⟩) hHeld ?_
                rotate_left
                · (intro w hSw; go_simp; try with_reducible rfl)
                (try simp only [Act.put, List.setIfInBounds_toArray, List.set_cons_zero, List.set_cons_succ])
                refine wpAnyH_ready (rs := [9]) (by kernel_rfl) (by simp) (AllReadyH.cons (o := { dst := some 18, op := Op.alloc 27, type := 0, pos := "outright.go:94", after := #[], guard := none }) rfl (fun K hK => ?_) AllReadyH.nil)
                · go_simp
                  have hba : Below v104.heap.size v104 (v104.alloc (.cells #[.slice none 0 0, .slice none 0 0, .int .i64 0] 27)) := below_new _ _
                  have Z7 : Hid (Box (v104.alloc (.cells #[.slice none 0 0, .slice none 0 0, .int .i64 0] 27)) v104.heap.size 27 #[.slice none 0 0, .slice none 0 0, .int .i64 0]) := Lib.hid box_new
                  have HB7 : Hid (vt.heap.size ≤ v104.heap.size) := Lib.hid hHeld.size
                  have HI9 := Lib.hid (HI9.out.on hba)
                  have HW9 := Lib.hid (HW9.out.on hba)
                  obtain ⟨v109, hv9⟩ : ∃ q, q = (v104.alloc (.cells #[.slice none 0 0, .slice none 0 0, .int .i64 0] 27)) := ⟨_, rfl⟩
                  refine hK.out _ _ (bch hHeld hba) (fun hHeld => ?_)
                  clear hba
                  rw [← hv9] at Z7 hHeld HI9 HW9 ⊢
                  clear hv9
                  obtain ⟨b7, hg9⟩ : ∃ q, q = v104.heap.size := ⟨_, rfl⟩
                  rw [← hg9] at Z7 HB7 ⊢
                  clear hg9
                  (try simp only [Act.put, List.setIfInBounds_toArray, List.set_cons_zero, List.set_cons_succ])
                  refine wpAnyH_ready (rs := [10]) (by kernel_rfl) (by simp) (AllReadyH.cons (o := { dst := none, op := Op.store 27 (Operand.tmp 18) (Operand.tmp 123), type := 0, pos := "outright.go:94", after := #[{ on := 9, ground := Ground.data }, { on := 6, ground := Ground.data }, { on := 4, ground := Ground.chain }, { on := 0, ground := Ground.phase }, { on := 1, ground := Ground.phase }, { on := 2, ground := Ground.phase }, { on := 3, ground := Ground.phase }, { on := 4, ground := Ground.phase }, { on := 5, ground := Ground.phase }, { on := 6, ground := Ground.phase }, { on := 7, ground := Ground.textOnly Departure.lateStores }, { on := 8, ground := Ground.textOnly Departure.lateStores }, { on := 9, ground := Ground.phase }], guard := none }) rfl (fun K hK => ?_) AllReadyH.nil)
                  · refine wp_store_if (by rfl) 27 (.tmp 18) (.tmp 123) rfl b7 27 #[.slice none 0 0, .slice none 0 0, .int .i64 0] #[.slice xa xn xc, .slice ya yn yc, .int .i64 x.1.room] rfl rfl Z7.out (info27 _ _ _) rfl (darr_one _ _ _ _ _ _ _) ?_
                    have Z8 : Hid (Box (v109.setRow b7 #[.slice xa xn xc, .slice ya yn yc, .int .i64 x.1.room]) b7 27 #[.slice xa xn xc, .slice ya yn yc, .int .i64 x.1.room]) := Lib.hid (Z7.out.row _)
                    have HR9 : Hid (RdD (v109.setRow b7 #[.slice xa xn xc, .slice ya yn yc, .int .i64 x.1.room]) (.slice xa xn xc) (.slice ya yn yc) x.1) := Lib.hid ⟨OwnI.rd (own_row' (cs' := #[.slice xa xn xc, .slice ya yn yc, .int .i64 x.1.room]) HI9.out Z7.out (by decide)), OwnO.rd (own_row' (cs' := #[.slice xa xn xc, .slice ya yn yc, .int .i64 x.1.room]) HW9.out Z7.out (by decide))⟩
                    refine hK.out _ _ (below_row hHeld HB7.out _) (fun hHeld => ?_)
                    clear Z7
                    (try simp only [Act.put])
                    refine wpAnyH_take (i := 11) (oi := { dst := some 19, op := Op.assign (Operand.tmp 124), type := 3, pos := "outright.go:94", after := #[{ on := 7, ground := Ground.data }, { on := 10, ground := Ground.chain }, { on := 0, ground := Ground.phase }, { on := 1, ground := Ground.phase }, { on := 2, ground := Ground.phase }, { on := 3, ground := Ground.phase }, { on := 4, ground := Ground.phase }, { on := 5, ground := Ground.phase }, { on := 6, ground := Ground.phase }, { on := 7, ground := Ground.phase }, { on := 8, ground := Ground.textOnly Departure.lateStores }, { on := 9, ground := Ground.phase }, { on := 10, ground := Ground.phase }], guard := none }) (v := ?_) rfl (by kernel_rfl) (by kernel_rfl) (by kernel_rfl) (fun _ _ _ h => h) (Or.inl ⟨by rfl, ?_⟩) hHeld ?_
                    rotate_left
                    · (intro w hSw; go_simp; try with_reducible rfl)
                    (try simp only [Act.put, List.setIfInBounds_toArray, List.set_cons_zero, List.set_cons_succ])
                    refine wpAnyH_take (i := 12) (oi := { dst := some 20, op := Op.assign (Operand.tmp 125), type := 32, pos := "outright.go:94", after := #[{ on := 8, ground := Ground.data }, { on := 11, ground := Ground.chain }, { on := 0, ground := Ground.phase }, { on := 1, ground := Ground.phase }, { on := 2, ground := Ground.phase }, { on := 3, ground := Ground.phase }, { on := 4, ground := Ground.phase }, { on := 5, ground := Ground.phase }, { on := 6, ground := Ground.phase }, { on := 7, ground := Ground.phase }, { on := 8, ground := Ground.phase }, { on := 9, ground := Ground.phase }, { on := 10, ground := Ground.phase }, { on := 11, ground := Ground.phase }], guard := none }) (v := ?_) rfl (by kernel_rfl) (by kernel_rfl) (by kernel_rfl) (fun _ _ _ h => h) (Or.inl ⟨by rfl, ?_⟩) hHeld ?_
                    rotate_left
                    · (intro w hSw; go_simp; try with_reducible rfl)
                    (try simp only [Act.put, List.setIfInBounds_toArray, List.set_cons_zero, List.set_cons_succ])
                    refine wpAnyH_done (by kernel_rfl) ?_ _
                    first | refine hK2 _ _ (Met.intro (hJ _ _ ?_)) | refine Met.intro (hJ _ _ ?_)
                    (repeat apply Exists.intro)
                    refine ⟨?_, rfl⟩
                    exact ⟨_, _, _, rfl, rfl, rfl, Z8, HR9, Lib.hid hHeld⟩
              · go_simp
                have hba : Below v0.heap.size v0 (v0.alloc (.cells #[.slice none 0 0, .slice none 0 0, .int .i64 0] 27)) := below_new _ _
                have Z7 : Hid (Box (v0.alloc (.cells #[.slice none 0 0, .slice none 0 0, .int .i64 0] 27)) v0.heap.size 27 #[.slice none 0 0, .slice none 0 0, .int .i64 0]) := Lib.hid box_new
                have HB7 : Hid (vt.heap.size ≤ v0.heap.size) := Lib.hid hHeld.size
                obtain ⟨v109, hv9⟩ : ∃ q, q = (v0.alloc (.cells #[.slice none 0 0, .slice none 0 0, .int .i64 0] 27)) := ⟨_, rfl⟩
                refine hK.out _ _ (bch hHeld hba) (fun hHeld => ?_)
                clear hba
                rw [← hv9] at Z7 hHeld ⊢
                clear hv9
                obtain ⟨b7, hg9⟩ : ∃ q, q = v0.heap.size := ⟨_, rfl⟩
                rw [← hg9] at Z7 HB7 ⊢
                clear hg9
                (try simp only [Act.put, List.setIfInBounds_toArray, List.set_cons_zero, List.set_cons_succ])
                refine wpAnyH_ready (rs := [4]) (by kernel_rfl) (by simp) (AllReadyH.cons (o := { dst := some 122, op := Op.call { callee := Callee.value (Operand.func 22), args := #[Operand.tmp 118, Operand.tmp 121, Operand.const (Value.bool false)], argTypes := #[27, 25, 4] }, type := 50, pos := "outright.go:94", after := #[{ on := 0, ground := Ground.data }, { on := 3, ground := Ground.data }], guard := none }) rfl (fun K hK => ?_) AllReadyH.nil)
                · go_simp
                  refine (HR3.out _ hHeld).mono ?_
                  rintro e v104 ⟨iv9, wv9, rfl, hI9, hW9, hba⟩
                  have HI9 : Hid (OwnI v104 vt.heap.size iv9 x.1.safe) := Lib.hid (own_base hI9 hHeld.size)
                  have HW9 : Hid (OwnO v104 vt.heap.size wv9 x.1.wait) := Lib.hid (own_base hW9 hHeld.size)
                  obtain ⟨xa, xn, xc, rfl⟩ := own_any3 HI9.out
                  obtain ⟨ya, yn, yc, rfl⟩ := own_any3 HW9.out
                  have Z7 := Lib.hid (Z7.out.on hba)
                  refine hK.out _ _ (bch hHeld hba) (fun hHeld => ?_)
                  clear hba hI9 hW9
                  (try simp only [Act.put, List.setIfInBounds_toArray, List.set_cons_zero, List.set_cons_succ])
                  refine wpAnyH_take (i := 5) (oi := { dst := some 117, op := Op.move (Operand.tmp 122), type := 50, pos := "outright.go:94", after := #[{ on := 4, ground := Ground.data }], guard := none }) (v := ?_) rfl (by kernel_rfl) (by kernel_rfl) (by kernel_rfl) (fun _ _ _ h => h) (Or.inl ⟨by rfl, ?_⟩) hHeld ?_
                  rotate_left
                  · (intro w hSw; go_simp; try with_reducible rfl)
                  (try simp only [Act.put, List.setIfInBounds_toArray, List.set_cons_zero, List.set_cons_succ])
                  refine wpAnyH_take (i := 6) (oi := { dst := some 123, op := Op.extract (Operand.tmp 117) 0, type := 27, pos := "outright.go:94", after := #[{ on := 5, ground := Ground.data }], guard := none }) (v := ?_) rfl (by kernel_rfl) (by kernel_rfl) (by kernel_rfl) (fun _ _ _ h => h) (Or.inl ⟨by rfl, ?_⟩) hHeld ?_
                  rotate_left
                  · (intro w hSw; go_simp; try with_reducible rfl)
                  (try simp only [Act.put, List.setIfInBounds_toArray, List.set_cons_zero, List.set_cons_succ])
                  refine wpAnyH_take (i := 7) (oi := { dst := some 124, op := Op.extract (Operand.tmp 117) 1, type := 3, pos := "outright.go:94", after := #[{ on := 5, ground := Ground.data }, { on := 10, ground := Ground.gcOnly Departure.lateStores }], guard := none }) (v := ?_) rfl (by kernel_rfl) (by kernel_rfl) (by kernel_rfl) (fun _ _ _ h => h) (Or.inl ⟨by rfl, ?_⟩) hHeld ?_
                  rotate_left
                  · (intro w hSw; go_simp; try with_reducible rfl)
                  (try simp only [Act.put, List.setIfInBounds_toArray, List.set_cons_zero, List.set_cons_succ])
                  refine wpAnyH_take (i := 8) (oi := { dst := some 125, op := Op.extract (Operand.tmp 117) 2, type := 32, pos := "outright.go:94", after := #[{ on := 5, ground := Ground.data }, { on := 11, ground := Ground.gcOnly Departure.lateStores }], guard := none }) (v := ?_) rfl (by kernel_rfl) (by kernel_rfl) (by kernel_rfl) (fun _ _ _ h => h) (Or.inl ⟨by rfl, ?_⟩) hHeld ?_
                  rotate_left
                  · (intro w hSw; go_simp; try with_reducible rfl)
                  (try simp only [Act.put, List.setIfInBounds_toArray, List.set_cons_zero, List.set_cons_succ])
                  refine wpAnyH_ready (rs := [10]) (by kernel_rfl) (by simp) (AllReadyH.cons (o := { dst := none, op := Op.store 27 (Operand.tmp 18) (Operand.tmp 123), type := 0, pos := "outright.go:94", after := #[{ on := 9, ground := Ground.data }, { on := 6, ground := Ground.data }, { on := 4, ground := Ground.chain }, { on := 0, ground := Ground.phase }, { on := 1, ground := Ground.phase }, { on := 2, ground := Ground.phase }, { on := 3, ground := Ground.phase }, { on := 4, ground := Ground.phase }, { on := 5, ground := Ground.phase }, { on := 6, ground := Ground.phase }, { on := 7, ground := Ground.textOnly Departure.lateStores }, { on := 8, ground := Ground.textOnly Departure.lateStores }, { on := 9, ground := Ground.phase }], guard := none }) rfl (fun K hK => ?_) AllReadyH.nil)
                  · refine wp_store_if (by rfl) 27 (.tmp 18) (.tmp 123) rfl b7 27 #[.slice none 0 0, .slice none 0 0, .int .i64 0] #[.slice xa xn xc, .slice ya yn yc, .int .i64 x.1.room] rfl rfl Z7.out (info27 _ _ _) rfl (darr_one _ _ _ _ _ _ _) ?_
                    have Z8 : Hid (Box (v104.setRow b7 #[.slice xa xn xc, .slice ya yn yc, .int .i64 x.1.room]) b7 27 #[.slice xa xn xc, .slice ya yn yc, .int .i64 x.1.room]) := Lib.hid (Z7.out.row _)
                    have HR9 : Hid (RdD (v104.setRow b7 #[.slice xa xn xc, .slice ya yn yc, .int .i64 x.1.room]) (.slice xa xn xc) (.slice ya yn yc) x.1) := Lib.hid ⟨OwnI.rd (own_row' (cs' := #[.slice xa xn xc, .slice ya yn yc, .int .i64 x.1.room]) HI9.out Z7.out (by decide)), OwnO.rd (own_row' (cs' := #[.slice xa xn xc, .slice ya yn yc, .int .i64 x.1.room]) HW9.out Z7.out (by decide))⟩
                    refine hK.out _ _ (below_row hHeld HB7.out _) (fun hHeld => ?_)
                    clear Z7
                    (try simp only [Act.put])
                    refine wpAnyH_take (i := 11) (oi := { dst := some 19, op := Op.assign (Operand.tmp 124), type := 3, pos := "outright.go:94", after := #[{ on := 7, ground := Ground.data }, { on := 10, ground := Ground.chain }, { on := 0, ground := Ground.phase }, { on := 1, ground := Ground.phase }, { on := 2, ground := Ground.phase }, { on := 3, ground := Ground.phase }, { on := 4, ground := Ground.phase }, { on := 5, ground := Ground.phase }, { on := 6, ground := Ground.phase }, { on := 7, ground := Ground.phase }, { on := 8, ground := Ground.textOnly Departure.lateStores }, { on := 9, ground := Ground.phase }, { on := 10, ground := Ground.phase }], guard := none }) (v := ?_) rfl (by kernel_rfl) (by kernel_rfl) (by kernel_rfl) (fun _ _ _ h => h) (Or.inl ⟨by rfl, ?_⟩) hHeld ?_
                    rotate_left
                    · (intro w hSw; go_simp; try with_reducible rfl)
                    (try simp only [Act.put, List.setIfInBounds_toArray, List.set_cons_zero, List.set_cons_succ])
                    refine wpAnyH_take (i := 12) (oi := { dst := some 20, op := Op.assign (Operand.tmp 125), type := 32, pos := "outright.go:94", after := #[{ on := 8, ground := Ground.data }, { on := 11, ground := Ground.chain }, { on := 0, ground := Ground.phase }, { on := 1, ground := Ground.phase }, { on := 2, ground := Ground.phase }, { on := 3, ground := Ground.phase }, { on := 4, ground := Ground.phase }, { on := 5, ground := Ground.phase }, { on := 6, ground := Ground.phase }, { on := 7, ground := Ground.phase }, { on := 8, ground := Ground.phase }, { on := 9, ground := Ground.phase }, { on := 10, ground := Ground.phase }, { on := 11, ground := Ground.phase }], guard := none }) (v := ?_) rfl (by kernel_rfl) (by kernel_rfl) (by kernel_rfl) (fun _ _ _ h => h) (Or.inl ⟨by rfl, ?_⟩) hHeld ?_
                    rotate_left
                    · (intro w hSw; go_simp; try with_reducible rfl)
                    (try simp only [Act.put, List.setIfInBounds_toArray, List.set_cons_zero, List.set_cons_succ])
                    refine wpAnyH_done (by kernel_rfl) ?_ _
                    first | refine hK2 _ _ (Met.intro (hJ _ _ ?_)) | refine Met.intro (hJ _ _ ?_)
                    (repeat apply Exists.intro)
                    refine ⟨?_, rfl⟩
                    exact ⟨_, _, _, rfl, rfl, rfl, Z8, HR9, Lib.hid hHeld⟩
            case rest =>
              obtain ⟨g18, iv8, wv8, rfl, rfl, rfl, Z18, R18, HB18⟩ := hcut
              obtain ⟨w8, hw8⟩ : ∃ z, z = wc := ⟨_, rfl⟩
              rw [← hw8] at Z18 R18 HB18 ⊢
              clear hw8
              obtain ⟨x3, x4, rfl, _⟩ := R18.out.items.open
              obtain ⟨y3, y4, rfl, _⟩ := R18.out.wait.open
              have HB := Lib.hid (bch HBt.out HB18.out)
              have XA := Lib.hid (XAt.out.on HB18.out)
              have XB := Lib.hid (XBt.out.on HB18.out)
              have RA := Lib.hid (RAt.out.on HB18.out)
              have RB := Lib.hid (RBt.out.on HB18.out)
              have RU : Hid (RdO w8 (.slice a3 m c3) L) := Lib.hid (by have := RUt.out; rw [HM.out] at this ⊢; exact RdF.on this HB18.out)
              have XG := Z18
              have RG := R18
              clear XAt XBt RAt RBt RUt HBt HR3 HB18 Z18 R18
              obtain ⟨y, hy⟩ : ∃ z, z = runD D L true := ⟨_, rfl⟩
              have HYF : Hid ((y.2.1 : Int) ≥ (k : Int)) := Lib.hid (by rw [hy, HMANY.out, HX.out]; exact Int.ofNat_le.2 HFR.out)
              have HY := Lib.hid hy
              clear hy
              have p0 := XA.out.cell (k := 0) rfl
              have p1 := XA.out.cell (k := 1) rfl
              have p2 := XA.out.cell (k := 2) rfl
              go_wp2_with fail
              clear p0 p1 p2
              refine (runF_is D _ _ L _ true w8 RA.out HZ0.out RU.out (Nat.le_trans HM16.out (by decide)) HSO.out (HT.out.on HB.out)).mono ?_
              rintro e w9 ⟨iv, wv, he, hI, hW, hb⟩
              rw [← HY.out] at he hI hW
              subst he
              obtain ⟨a6, n6, c6, rfl⟩ := own_any3 hI
              obtain ⟨a7, n7, c7, rfl⟩ := own_any3 hW
              obtain ⟨VC, hVC⟩ : ∃ z, z = (w9.alloc (.cells #[.slice none 0 0, .slice none 0 0, .int .i64 0] 27)).setRow w9.heap.size #[.slice a6 n6 c6, .slice a7 n7 c7, .int .i64 y.1.room] := ⟨_, rfl⟩
              obtain ⟨bC, hbC⟩ : ∃ z, z = w9.heap.size := ⟨_, rfl⟩
              have hnC : Below w9.heap.size w9 VC := by rw [hVC]; exact below_row (below_new _ _) (Nat.le_refl _) _
              have XC : Hid (Box VC bC 27 #[.slice a6 n6 c6, .slice a7 n7 c7, .int .i64 y.1.room]) := Lib.hid (by rw [hVC, hbC]; exact box_new.row _)
              have HVC := Lib.hid hVC
              have HWC := Lib.hid hbC
              have hcar : Below w8.heap.size w8 VC := bch hb hnC
              have XA := Lib.hid (XA.out.on hcar)
              have XB := Lib.hid (XB.out.on hcar)
              have RA := Lib.hid (RA.out.on hcar)
              have RB := Lib.hid (RB.out.on hcar)
              have XG := Lib.hid (XG.out.on hcar)
              have RG := Lib.hid (RG.out.on hcar)
              have HB := Lib.hid (bch HB.out hcar)
              clear hcar
              have hwl := HF.out.len
              rw [← HMANY.out] at hwl
              have hw16 := HW16.out
              have z1 : ((q : Int) == (q : Int)) = true := by simp
              have z2 : (er == er) = true := by simp
              have z3 : ((k : Int) == (k : Int)) = true := by simp
              have z4 := HYF.out
              have z5 := wrap_sum hwl hw16 (Nat.le_trans hmm hm16)
              have z6 : ((x.1.wait.length : Int) == (x.1.wait.length : Int)) = true := by simp
              have p0 := XG.out.cell (k := 0) rfl
              have p1 := XG.out.cell (k := 1) rfl
              have p2 := XG.out.cell (k := 2) rfl
              have p3 := XB.out.cell (k := 0) rfl
              have p4 := XB.out.cell (k := 1) rfl
              have p5 := XB.out.cell (k := 2) rfl
              clear hI hW hb hnC hwl hw16
              clear hVC hbC
              go_wp2_with (first | (refine wpList_store_row rfl 27 (.tmp 21) (.tmp 130) rfl w9.heap.size #[.slice a6 n6 c6, .slice a7 n7 c7, .int .i64 y.1.room] rfl rfl 27 #[.slice none 0 0, .slice none 0 0, .int .i64 0] box_new (info27 _ _ _) rfl (darr_one _ _ _ _ _ _ _) ?_; rw [← HVC.out, ← HWC.out]) | fail)
              clear p0 p1 p2 p3 p4 p5
              refine (sameD_yes x.1 _ _ _ _ VC RG.out RB.out).mono ?_
              rintro e w10 ⟨rfl, hb⟩
              have hcar : Below VC.heap.size VC w10 := hb
              have XA := Lib.hid (XA.out.on hcar)
              have XB := Lib.hid (XB.out.on hcar)
              have RA := Lib.hid (RA.out.on hcar)
              have RB := Lib.hid (RB.out.on hcar)
              have XG := Lib.hid (XG.out.on hcar)
              have RG := Lib.hid (RG.out.on hcar)
              have HB := Lib.hid (bch HB.out hcar)
              clear hcar
              have p0 := XB.out.cell (k := 0) rfl
              have p1 := XB.out.cell (k := 1) rfl
              have p2 := XB.out.cell (k := 2) rfl
              have p3 := XA.out.cell (k := 1) rfl
              clear hb
              go_wp2_with fail
              clear p0 p1 p2 p3
              refine (check_is x.1 _ _ w10 RB.out (by rw [HX.out]; exact run_sz HZ0.out _ HSO.out _) (HT.out.on HB.out)).mono ?_
              rintro e w11 ⟨he, hb⟩
              obtain ⟨t2, ht2⟩ : ∃ t, nowM x.1 = some t := by rw [HX.out]; exact now_run _ _ _
              rw [ht2] at he
              have he : e = .returned (.int .i64 0) := he
              subst he
              go_wp2_with fail
              go_ret
              exact ⟨rfl, bch HB.out hb⟩
end Go.Proofs.YtigopecainocgaaGreatDoor

namespace Go.Proofs.YtigopecainocgaaGreatDoor.DiskRoomsP
open Go.ChangeShapes Go.WideShapes Go.ChangeAt Go.RowKit Go.Joins Go.Deep
open Go.ChangeMaps (open_string shut_string)

theorem met (os : Os) : laidMet Tryz.prog Rows.diskRoomsRow.laid ((laidWorld os).forCall (fun _ _ => 0) ⟨#[], #[zeroDisk, .slice none 0 0, .int .i64 0], []⟩).memory :=
  laid_met os _
theorem reads (os : Os) {H : Type} (enc : TypeId × Value → H) : ∃ places, DataW.whole enc Tryz.prog ((laidWorld os).forCall (fun _ _ => 0) ⟨#[], #[zeroDisk, .slice none 0 0, .int .i64 0], []⟩).memory Tryz.f6.params.toList Rows.diskRoomsSpec.vars false #[zeroDisk, Value.slice none 0 0, Value.int .i64 0].toList 8 = some ([zeroDiskD, .nil, .lit (.int .i64 0)], [], places) :=
  ⟨[], by kernel_rfl⟩

set_option maxRecDepth 100000 in
theorem lifted (os : Os) (started : os.Started) (H : Type) (enc : TypeId × Value → H) (F : Stop.Interp) :
    ReturnsInHanded {} Tryz.checked os 6 .any ((OpenSpec.ofChange Rows.diskRoomsSpec).preRow enc Tryz.prog Tryz.f6 Rows.diskRoomsRow.domain false Rows.diskRoomsRow.laid) (((OpenSpec.ofChange Rows.diskRoomsSpec).at F).post enc Tryz.prog Tryz.f6 false true false false) := by
  obtain ⟨places, hx⟩ := reads os enc
  refine returnsInHanded_of_row (C := Tryz.checked) (s := OpenSpec.ofChange Rows.diskRoomsSpec) own0 started (by kernel_rfl) Tryz.func6
    (witness_row_at (enc := enc) (C := Tryz.checked) false (laidWorld os) #[zeroDisk, .slice none 0 0, .int .i64 0] rfl (by kernel_rfl) (by kernel_rfl) (by kernel_rfl)
      (OpenSpec.preRow_of_cond 8 hx (by kernel_rfl) (fun k hk => by cases hk) (by kernel_rfl) (met os))) ?_
  intro W base args ds gs before hval0 hW _ _ hsz0 hL hsh _
  have hval : ∀ (j : Nat) t v, Tryz.f6.params[j]? = some t → args[j]? = some v → Value.okWide Tryz.prog W .any base t v := hval0
  have hsz : (DataW.weightsEach Tryz.prog (Tryz.f6.params.toList ++ Rows.diskRoomsSpec.plain.varTypes Tryz.prog) (ds ++ gs)).all (· ≤ reachBytes) = true := hsz0
  clear hsz0
  have hW' := hW
  obtain ⟨p, q, hA0, hV, rfl, hfz, hnd⟩ := hW
  have hA : DataW.TrodAll enc Tryz.prog W 0 (fun _ => true) true Tryz.f6.params.toList args.toList ds p := hA0
  rw [Tryz.params6] at hA hval hsz
  obtain ⟨v0, vs0, d0, ds0, p0, q0, hargs, rfl, rfl, h0, r0⟩ := trodAll_cons hA
  obtain ⟨v1, vs1, d1, ds1, p1, q1, rfl, rfl, rfl, h1, r1⟩ := trodAll_cons r0
  obtain ⟨v2, vs2, d2, ds2, p2, q2, rfl, rfl, rfl, h2, r2⟩ := trodAll_cons r1
  obtain ⟨rfl, rfl, rfl⟩ := trodAll_nil r2
  obtain rfl : args = #[v0, v1, v2] := by cases args; simp_all
  obtain ⟨rfl, rfl⟩ := trodVars_none hV
  obtain ⟨cs0, rfl⟩ := okWide_disk (hval 0 27 v0 rfl rfl)
  obtain ⟨a1, n1, c1, rfl⟩ := okWide_slice Tryz.underlying25 (hval 1 25 v1 rfl rfl)
  have h0k := h0
  obtain ⟨fuel0, hf0⟩ := h0
  have h1k := h1
  obtain ⟨fuel1, hf1⟩ := h1
  obtain ⟨a2, rfl, rfl, rfl, w2⟩ := open_int Tryz.underlying3 (hval 2 3 v2 rfl rfl) h2
  clear hA0 hval0
  simp only [List.append_nil] at hW'
  have hlt0 : ∀ x ∈ p0, x.block < W.heap.size := fun x hx => by simpa using hW'.lt x (by simp [hx])
  have hlt1 : ∀ x ∈ p1, x.block < W.heap.size := fun x hx => by simpa using hW'.lt x (by simp [hx])
  obtain ⟨iv0, wv0, k0, rfl, hr0, hm0, hi0, ho0⟩ := argD_of (by simpa [Value.cells] using hf0) hlt0
  have hz0 : SzD k0 := ⟨fun y hy => reach_len (by simpa using List.all_eq_true.1 hsz _ (DataW.weights_mem_each (j := 0) (t := 27) rfl rfl _ (hi0 y hy))), fun y hy => ⟨reach_len (by simpa using List.all_eq_true.1 hsz _ (DataW.weights_mem_each (j := 0) (t := 27) rfl rfl _ (ho0 y hy).1)), reach_len (by simpa using List.all_eq_true.1 hsz _ (DataW.weights_mem_each (j := 0) (t := 27) rfl rfl _ (ho0 y hy).2))⟩, hm0⟩
  obtain ⟨l1, hr1, hw1'⟩ := argO_of (by simpa [Value.cells] using hf1) hlt1
  have hw1 : ∀ y ∈ l1, y.path.length ≤ 140737488355328 ∧ y.to.length ≤ 140737488355328 := fun y hy => ⟨reach_len (by simpa using List.all_eq_true.1 hsz _ (DataW.weights_mem_each (j := 1) (t := 25) rfl rfl _ (hw1' y hy).1)), reach_len (by simpa using List.all_eq_true.1 hsz _ (DataW.weights_mem_each (j := 1) (t := 25) rfl rfl _ (hw1' y hy).2))⟩
  refine (rooms6_any k0 iv0 wv0 _ l1 _ W hr0 hr1 hz0 hw1 (tabs hL hsh)).mono fun e W' ⟨he, hb⟩ => ?_
  subst he
  exact ⟨_, rfl, _, _, _, [], _, [], hW', (trodAll_cons_mk (shut_bool Tryz.underlying4 _) trodAll_mk0), (trodAll_cons_mk (Below.trod laidOut (by kernel_rfl) (of_decide_eq_true (by kernel_rfl)) h0k hb hlt0) (trodAll_cons_mk (Below.trod laidOut (by kernel_rfl) (of_decide_eq_true (by kernel_rfl)) h1k hb hlt1) (trodAll_cons_mk (shut_int Tryz.underlying3 w2) trodAll_mk0))), rfl, hb.frame _, fun h => by cases h⟩

theorem said : Rows.DiskRoomsSaid :=
  OpenClaim.holds_of_cond 6 Tryz.f6 rfl rfl rfl rfl rfl rfl rfl ⟨rfl, rfl, rfl, rfl, rfl⟩ rfl rfl rfl rfl rfl (by kernel_rfl) Tryz.func6 (by kernel_rfl)
    (of_decide_eq_true (by kernel_rfl)) (by unfold Func.isWrapper; first | (rw [if_pos (by decide +kernel)]; kernel_rfl) | (rw [if_neg (by decide +kernel)]; exact ⟨rfl, rfl⟩))
    (fun os started H enc _ F => by rw [OpenClaim.pre_eq_preRow]; exact lifted os started H enc F)

/-- No parameter wants a stand-in; the program's own looks are off: what the card asks. -/
theorem plain (f : FuncId) (fn : Func) (hf : Tryz.pinned.checked.prog.funcNamed "puncheon/puncheonlaw08.DiskRooms" = some f) (hfn : Tryz.pinned.checked.prog.funcs[f]? = some fn) :
    false = Tryz.pinned.checked.prog.looks [] ∧ ∀ (j : Nat) t, fn.params[j]? = some t → Tryz.pinned.checked.prog.wantsStandIn t = false := by
  obtain rfl : f = 6 := Option.some.inj ((show Tryz.prog.funcNamed "puncheon/puncheonlaw08.DiskRooms" = some 6 by kernel_rfl).symm.trans hf) |>.symm
  obtain rfl : fn = Tryz.f6 := (Option.some.inj (Tryz.func6.symm.trans hfn)).symm
  refine ⟨by kernel_rfl, fun j t ht => ?_⟩
  rw [Tryz.params6] at ht
  have hm : t ∈ [27, 25, 3] := by simpa using Array.mem_of_getElem? ht
  have hall : ([27, 25, 3].all fun u => !Tryz.prog.wantsStandIn u) = true := by kernel_rfl
  exact (show Tryz.prog.wantsStandIn t = false by simpa using List.all_eq_true.1 hall t hm)
end Go.Proofs.YtigopecainocgaaGreatDoor.DiskRoomsP
namespace Go.Proofs.YtigopecainocgaaGreatDoor
theorem diskRooms_card : Rows.DiskRoomsCardSaid :=
  Claim7.holds_tied_plain_at .later [] _ _ _ _ DiskRoomsP.said (fun _ h => by cases h) (by kernel_rfl) (fun _ h => by cases h) diskRooms_row_tie rfl ⟨rfl, rfl⟩ (by kernel_rfl) rfl DiskRoomsP.plain (by kernel_rfl)
#print axioms diskRooms_card
end Go.Proofs.YtigopecainocgaaGreatDoor
