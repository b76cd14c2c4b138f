/- Proved here: TreeOnce of puncheonlaw06 returns true, wherever the tables stand. -/
import Derived.Test.YtemhdjplhafmiaaDoorOWakes
namespace Go.Proofs.YtemhdjplhafmiaaDoor
open Go.RowKit Go.Shelf

theorem flatO_take (l : List Opn) (k : Nat) : flatO (l.take k) = (flatO l).take (k * 4) := by
  induction l generalizing k with
  | nil => simp [flatO]
  | cons v l ih =>
    cases k with
    | zero => simp [flatO]
    | succ k =>
      have e : ∀ v l, flatO (v :: l) = v.cells ++ flatO l := fun _ _ => rfl
      rw [List.take_succ_cons, e, e, ih, List.take_append, show (k + 1) * 4 - v.cells.length = k * 4 by show (k + 1) * 4 - 4 = _; omega]
      rw [show v.cells.take ((k + 1) * 4) = v.cells from List.take_of_length_le (by show 4 ≤ (k + 1) * 4; omega)]
theorem flatO_drop (l : List Opn) (k : Nat) : flatO (l.drop k) = (flatO l).drop (k * 4) := by
  induction l generalizing k with
  | nil => simp [flatO]
  | cons v l ih =>
    cases k with
    | zero => simp
    | succ k =>
      have e : ∀ v l, flatO (v :: l) = v.cells ++ flatO l := fun _ _ => rfl
      rw [List.drop_succ_cons, e, ih, List.drop_append, show (k + 1) * 4 - v.cells.length = k * 4 by show (k + 1) * 4 - 4 = _; omega]
      rw [show v.cells.drop ((k + 1) * 4) = [] from List.drop_of_length_le (by show 4 ≤ (k + 1) * 4; omega)]
      rfl
theorem RdO.take {w : World} {a : Option Addr} {n c : Nat} {l : List Opn} (hn : n = l.length) (h : RdO w (.slice a n c) l) (q : Nat) (hq : q ≤ n) : RdO w (.slice a q c) (l.take q) := by
  obtain ⟨a', c', e, h1, h2, h3⟩ := h
  cases e
  have el : (l.take q).length = q := by rw [List.length_take]; omega
  unfold RdO
  rw [el]
  refine ⟨a, c, rfl, by omega, h2, fun h0 => ?_⟩
  obtain ⟨g, o, e, hg, hc⟩ := h3 (by omega)
  refine ⟨g, o, e, hg, fun j u hj => hc j u ?_⟩
  rw [flatO_take, List.getElem?_take] at hj
  split at hj
  · exact hj
  · cases hj
theorem RdO.drop {w : World} {g o n c : Nat} {l : List Opn} (hn : n = l.length) (h : RdO w (.slice (some ⟨g, o, none⟩) n c) l) (q : Nat) (hq : q ≤ n) : RdO w (.slice (some ⟨g, o + q * 4, none⟩) (n - q) (c - q)) (l.drop q) := by
  obtain ⟨a', c', e, h1, h2, h3⟩ := h
  cases e
  have el : (l.drop q).length = l.length - q := List.length_drop
  unfold RdO
  rw [el]
  refine ⟨_, c - q, rfl, by omega, by omega, fun h0 => ?_⟩
  obtain ⟨g', o', e, hg, hc⟩ := h3 (by omega)
  cases e
  refine ⟨g, o + q * 4, rfl, hg, fun j u hj => ?_⟩
  rw [flatO_drop, List.getElem?_drop] at hj
  rw [Nat.add_assoc]
  exact hc _ u hj

def CutT (vs : World) (lx : List It) (a b : Int) (pa p1 p2 : Value) (wx : World) : Prop := ∃ g v, pa = .pointer (some ⟨g, 0, none⟩) ∧ p1 = .int .i64 a ∧ p2 = .int .i64 b ∧ Hid (Box wx g 24 #[v]) ∧ Hid (OwnI wx vs.heap.size v lx) ∧ Hid (Below vs.heap.size vs wx) ∧ Hid (vs.heap.size ≤ g)
theorem own_row {W : World} {B b : Nat} {v : Value} {l : List It} {cs cs' : Array Value} (h : OwnI W B v l) (Z : Box W b 24 cs) : OwnI (W.setRow b cs') B v l :=
  ownR_far h fun k hk => setRow_other W b k _ (fun e => by
    subst e
    obtain ⟨_, c, hc⟩ := ownR_blk h hk
    rw [show W.heap[k]? = _ from Z] at hc
    cases hc)
theorem run_is (l : List It) (v : Value) (ops : List Opn) (vo : Value) (r : List It) (many : Nat) (er : Int) (hr : runM l ops = (r, many, er)) (h : TreeOk l) (w : World) (hv : RdI w v l) (ho : RdO w vo ops) (hso : ∀ o ∈ ops, o.path.length ≤ 140737488355328 ∧ o.to.length ≤ 140737488355328) (hT : TabS w) :
    Calls Tryd.prog 15 #[.agg #[v], vo] w fun e w' => ∃ v', e = .returned (.tuple #[.agg #[v'], .int .i64 (many : Int), .int .i64 er]) ∧ OwnI w' w.heap.size v' r ∧ Below w.heap.size w w' :=
  (run_any l v ops vo w hv (tree_sz h) ho hso hT).mono fun e w' ⟨hb, hc⟩ => by
    rw [hr] at hc
    obtain ⟨_, v', he, hown⟩ := hc.resolve_left (fun q => by rw [ok_tree h] at q; cases q.1)
    exact ⟨v', he, hown, hb⟩
theorem RdO.cut {w : World} {a : Option Addr} {n c : Nat} {l : List Opn} (hn : n = l.length) (h : RdO w (.slice a n c) l) (q : Nat) (hq : q ≤ n) : RdO w (.slice (if c = q then a else a.map fun x => x.add (q * 4)) (n - q) (c - q)) (l.drop q) := by
  by_cases h0 : q < n
  · obtain ⟨a', c', e, h1, h2, h3⟩ := id h
    cases e
    obtain ⟨g, o, rfl, _⟩ := h3 (by omega)
    rw [if_neg (by omega), Option.map_some, add_to]
    exact RdO.drop rfl h q hq
  · obtain ⟨a', c', e, h1, h2, h3⟩ := h
    cases e
    have el : (l.drop q).length = l.length - q := List.length_drop
    unfold RdO
    rw [el]
    exact ⟨_, c - q, rfl, by omega, by omega, fun h => by omega⟩

set_option maxRecDepth 100000 in
set_option maxHeartbeats 8000000 in
theorem once_law (l0 : List It) (v : Value) (ops0 : List Opn) (vo : Value) (cut : Int) (w : World) (hv : RdI w v l0) (hsz : ∀ x ∈ l0, x.path.length ≤ 140737488355328) (ho : RdO w vo ops0) (hso : ∀ o ∈ ops0, o.path.length ≤ 140737488355328 ∧ o.to.length ≤ 140737488355328) (hT : TabS w) :
    Calls Tryd.prog 5 #[.agg #[v], vo, .int .i64 cut] w fun e w' => e = .returned (.bool true) ∧ Below w.heap.size w w' := by
  obtain ⟨w1, hw1⟩ : ∃ z, z = w.alloc (.cells #[v] 24) := ⟨_, rfl⟩
  obtain ⟨b3, hb3⟩ : ∃ z, z = w.heap.size := ⟨_, rfl⟩
  have X3 : Hid (Box w1 b3 24 #[v]) := Lib.hid (by rw [hw1, hb3]; exact box_new)
  have HB1 : Hid (Below w.heap.size w w1) := Lib.hid (by rw [hw1]; exact below_new _ _)
  have HT := Lib.hid hT
  have HV := Lib.hid hv
  have HRO := Lib.hid ho
  have HW := Lib.hid (wakes6_any w1 (hT.on HB1.out))
  obtain ⟨va, vc, rfl, _⟩ := hv.open
  obtain ⟨ao, co, rfl, hoc, hcm, hoo⟩ := ho.open
  obtain ⟨n, hn⟩ : ∃ n, n = ops0.length := ⟨_, rfl⟩
  rw [← hn] at HRO hoc ⊢
  obtain ⟨vn, hvn⟩ : ∃ n, n = l0.length := ⟨_, rfl⟩
  rw [← hvn] at HV X3 hw1 ⊢
  obtain ⟨m, hm⟩ : ∃ m, m = min n 24 := ⟨_, rfl⟩
  have hmn : m ≤ n := by omega
  have hm24 : m ≤ 24 := by omega
  obtain ⟨ops, hops⟩ : ∃ z, z = ops0.take m := ⟨_, rfl⟩
  have HM : Hid (m = ops.length) := Lib.hid (by rw [hops, List.length_take]; omega)
  have HRM : Hid (RdO w (.slice ao m co) ops) := Lib.hid (by rw [hops]; exact RdO.take hn HRO.out m hmn)
  have HSO : Hid (∀ o ∈ ops, o.path.length ≤ 140737488355328 ∧ o.to.length ≤ 140737488355328) := Lib.hid (fun o h => hso o (List.mem_of_mem_take (by rw [hops] at h; exact h)))
  obtain ⟨l, hl⟩ : ∃ z, z = fewL l0 := ⟨_, rfl⟩
  have HL := Lib.hid hl
  have HSZ : Hid (∀ x ∈ l, x.path.length ≤ 140737488355328) := Lib.hid (fun x h => hsz x (by
    rw [hl] at h
    unfold fewL at h
    split at h
    · exact List.mem_of_mem_take h
    · exact List.mem_of_mem_take h))
  have k0 : (0 : Int) ≤ (m : Int) := by omega
  have hmm : min (n : Int) 24 = (m : Int) := by omega
  unfold maxLen at hcm
  have hcI : (co : Int) ≤ 9223372036854775807 := by omega
  have k1 : (m : Int) ≤ (co : Int) := by omega
  have hmx : m = n ∨ m = 24 := by omega
  have c3 : w1.cell? ⟨b3, 0, none⟩ = some (.slice va vn vc) := X3.out.cell (k := 0) rfl
  clear hv ho hso hT hsz hm hops hl hoo hn hvn HRO
  go_enter Tryd.func5, Tryd.ntmps5
  go_upto_region 1 with fail
  rw [← hw1, ← hb3]
  clear hw1 hb3
  go_wp2_with fail
  refine HW.out.mono ?_
  rintro e w2 ⟨rfl, hb2⟩
  have X32 := Lib.hid (X3.out.on hb2)
  have HB2 := Lib.hid (bch HB1.out hb2)
  have p2 : w2.cell? ⟨b3, 0, none⟩ = some (.slice va vn vc) := X32.out.cell (k := 0) rfl
  have HOW := Lib.hid (own6_any l0 _ w2 (HV.out.on HB2.out))
  clear hb2 HW c3 X3
  go_wp2_with fail
  refine HOW.out.mono ?_
  rintro e a3 ⟨x3, rfl, ho3, hb3⟩
  rw [← HL.out] at ho3
  obtain ⟨ta, tn, tc, rfl⟩ := own_any ho3
  obtain ⟨g7, hg7⟩ : ∃ z, z = a3.heap.size := ⟨_, rfl⟩
  obtain ⟨v3, hv3⟩ : ∃ z, z = (a3.alloc (.cells #[.slice none 0 0] 24)).setRow a3.heap.size #[.slice ta tn tc] := ⟨_, rfl⟩
  have hn3 : Below a3.heap.size a3 v3 := by rw [hv3]; exact below_row (below_new _ _) (Nat.le_refl _) _
  have X7 : Hid (Box v3 g7 24 #[.slice ta tn tc]) := Lib.hid (by rw [hv3, hg7]; exact Box.row (box_new (w := a3) (t := 24) (cs := #[.slice none 0 0])) _)
  have HB3 : Hid (Below w.heap.size w v3) := Lib.hid (bch HB2.out (bch hb3 hn3))
  have HO3 : Hid (OwnI v3 w2.heap.size (.slice ta tn tc) l) := Lib.hid (ho3.on hn3)
  have HV3 := Lib.hid hv3
  have HG7 := Lib.hid hg7
  have p7 : v3.cell? ⟨g7, 0, none⟩ = some (.slice ta tn tc) := X7.out.cell (k := 0) rfl
  obtain ⟨bb, hbb⟩ : ∃ z, z = validT l := ⟨_, rfl⟩
  have HCH := Lib.hid (tcheck_is l bb hbb (.slice ta tn tc) v3 HO3.out.rd HSZ.out (HT.out.on HB3.out).tab)
  have HBB := Lib.hid hbb
  clear hb3 ho3 hn3 hv3 hg7 hbb HOW p2
  go_wp2_with (first
    | (refine wpList_store_row rfl 24 (.tmp 7) (.tmp 21) rfl a3.heap.size #[.slice ta tn tc] rfl rfl 24 #[.slice none 0 0] box_new (info24 _) rfl (slice_one _ _ _) ?_; rw [← HV3.out, ← HG7.out])
    | fail)
  refine HCH.out.mono ?_
  rintro e w4 ⟨rfl, hb4⟩
  have X74 := Lib.hid (X7.out.on hb4)
  have HB4 := Lib.hid (bch HB3.out hb4)
  have HO4 : Hid (OwnI w4 w2.heap.size (.slice ta tn tc) l) := Lib.hid (HO3.out.on hb4)
  have p7' : w4.cell? ⟨g7, 0, none⟩ = some (.slice ta tn tc) := X74.out.cell (k := 0) rfl
  clear hb4 p7 HCH
  cases bb with
  | false =>
    simp only [errT]
    go_wp2_with fail
    go_ret
    exact ⟨rfl, HB4.out⟩
  | true =>
    have HOK : Hid (TreeOk l) := Lib.hid (tree_ok HBB.out.symm)
    have HRU := Lib.hid (run_any l (.slice ta tn tc) ops (.slice ao m co) w4 HO4.out.rd HSZ.out (HRM.out.on HB4.out) HSO.out (HT.out.on HB4.out))
    simp only [errT]
    go_wp2_with fail
    refine HRU.out.mono ?_
    rintro e a5 ⟨hb5, hr⟩
    obtain ⟨_, v5, rfl, ho5⟩ := hr.resolve_left (fun h => by have := h.1; rw [← HBB.out] at this; cases this)
    obtain ⟨lr, many, er, hrun⟩ : ∃ a b c, runM l ops = (a, b, c) := ⟨_, _, _, rfl⟩
    rw [hrun] at ho5 ⊢
    have HOKR : Hid (TreeOk lr) := Lib.hid (by have := run_ok' HOK.out ops; rw [hrun] at this; exact this)
    obtain ⟨hmany, herr⟩ := run_many l ops
    rw [hrun, ← HM.out] at hmany herr
    simp only at hmany herr
    have HRUN := Lib.hid hrun
    obtain ⟨ra, rn, rc, rfl⟩ := own_any ho5
    obtain ⟨g8, hg8⟩ : ∃ z, z = a5.heap.size := ⟨_, rfl⟩
    obtain ⟨v5, hv5⟩ : ∃ z, z = (a5.alloc (.cells #[.slice none 0 0] 24)).setRow a5.heap.size #[.slice ra rn rc] := ⟨_, rfl⟩
    have hn5 : Below a5.heap.size a5 v5 := by rw [hv5]; exact below_row (below_new _ _) (Nat.le_refl _) _
    have X8 : Hid (Box v5 g8 24 #[.slice ra rn rc]) := Lib.hid (by rw [hv5, hg8]; exact Box.row (box_new (w := a5) (t := 24) (cs := #[.slice none 0 0])) _)
    have HB5 : Hid (Below w.heap.size w v5) := Lib.hid (bch HB4.out (bch hb5 hn5))
    have X75 : Hid (Box v5 g7 24 #[.slice ta tn tc]) := Lib.hid (X74.out.on (bch hb5 hn5))
    have HO5 : Hid (OwnI v5 w2.heap.size (.slice ta tn tc) l) := Lib.hid (HO4.out.on (bch hb5 hn5))
    have HR5 : Hid (OwnI v5 w4.heap.size (.slice ra rn rc) lr) := Lib.hid (ho5.on hn5)
    have HV5 := Lib.hid hv5
    have HG8 := Lib.hid hg8
    have p8 : v5.cell? ⟨g8, 0, none⟩ = some (.slice ra rn rc) := X8.out.cell (k := 0) rfl
    have HCH2 := Lib.hid (tcheck_is lr true (ok_tree HOKR.out).symm (.slice ra rn rc) v5 HR5.out.rd (tree_sz HOKR.out) (HT.out.on HB5.out).tab)
    have HMANY : Hid (many ≤ m) := Lib.hid hmany
    obtain ⟨tb, htb⟩ : ∃ z, z = decide (er = 0) := ⟨_, rfl⟩
    have q1 : (er == 0) = tb := by rw [htb]; by_cases h : er = 0 <;> simp [h]
    have q2 : ((many : Int) == (m : Int)) = tb := by
      rw [htb]
      by_cases h : er = 0
      · have := herr.1 h; simp [h, this]
      · have h2 : ¬ many = m := fun e => h (herr.2 e)
        have h3 : ¬ (many : Int) = (m : Int) := by omega
        simp [h, h3]
    have q3 : ¬ (m : Int) < (many : Int) := by omega
    clear hb5 hr ho5 hn5 hv5 hg8 HRU hrun hmany herr htb
    simp only
    go_wp2_with (first
      | (refine wpList_store_row rfl 24 (.tmp 8) (.tmp 34) rfl a5.heap.size #[.slice ra rn rc] rfl rfl 24 #[.slice none 0 0] box_new (info24 _) rfl (slice_one _ _ _) ?_; rw [← HV5.out, ← HG8.out])
      | fail)
    refine HCH2.out.mono ?_
    rintro e w6 ⟨rfl, hb6⟩
    have X76 := Lib.hid (X75.out.on hb6)
    have X86 := Lib.hid (X8.out.on hb6)
    have HB6 := Lib.hid (bch HB5.out hb6)
    have HO6 : Hid (OwnI w6 w2.heap.size (.slice ta tn tc) l) := Lib.hid (HO5.out.on hb6)
    have HR6 : Hid (OwnI w6 w4.heap.size (.slice ra rn rc) lr) := Lib.hid (HR5.out.on hb6)
    clear hb6 HCH2 p8 p7'
    simp only [errT]
    go_wp2_with fail
    obtain ⟨k, hk, hkm⟩ : ∃ k : Nat, wrap64 ((IntKind.u64.wrap cut).tmod (↑many + 1)) = (k : Int) ∧ k ≤ many := by
      have h1 : (0 : Int) ≤ IntKind.u64.wrap cut := by rw [IntKind.wrap_u64]; omega
      have h2 := Int.tmod_nonneg ((many : Int) + 1) h1
      have h3 := Int.tmod_lt_of_pos (IntKind.u64.wrap cut) (show (0 : Int) < (many : Int) + 1 by omega)
      refine ⟨((IntKind.u64.wrap cut).tmod (↑many + 1)).toNat, ?_, by omega⟩
      rw [IntWalk.wrap64_in _ (by have := HMANY.out; omega), Int.toNat_of_nonneg h2]
    rw [hk]
    obtain ⟨hp1, hp2, hp3⟩ := run_parts l ops k (by rw [HRUN.out]; exact hkm)
    obtain ⟨la, hla⟩ : ∃ z, z = (runM l (ops.take k)).1 := ⟨_, rfl⟩
    obtain ⟨j, hj⟩ : ∃ z, z = many - k := ⟨_, rfl⟩
    have HP1 : Hid (runM l (ops.take k) = (la, k, 0)) := Lib.hid (by rw [hla, ← hp2]; conv => rhs; rhs; lhs; rw [← hp1])
    have HP3 : Hid (runM la (ops.drop k) = (lr, j, er)) := Lib.hid (by rw [hla, hp3, HRUN.out, hj])
    have HOKA : Hid (TreeOk la) := Lib.hid (by rw [hla]; exact run_ok' HOK.out _)
    have hkj : wrap64 ((k : Int) + (j : Int)) = (many : Int) := by rw [IntWalk.wrap64_in _ (by have := HMANY.out; omega)]; omega
    have hkm2 : k ≤ m := Nat.le_trans hkm HMANY.out
    have s0 : (0 : Int) ≤ (k : Int) := by omega
    have s2 : (k : Int) ≤ (m : Int) := Int.ofNat_le.2 hkm2
    have s1 : (k : Int) ≤ (co : Int) := Int.le_trans s2 k1
    obtain ⟨v0, hv0⟩ : ∃ z, z = World.drew w6 := ⟨_, rfl⟩
    obtain ⟨vs, hvs⟩ : ∃ z, z = World.drew w6 := ⟨_, rfl⟩
    have hb7 : Below w6.heap.size w6 vs := by rw [hvs]; exact (Below.refl _ _).drew
    have X7v : Hid (Box vs g7 24 #[.slice ta tn tc]) := Lib.hid (X76.out.on hb7)
    have X8v : Hid (Box vs g8 24 #[.slice ra rn rc]) := Lib.hid (X86.out.on hb7)
    have HBv : Hid (Below w.heap.size w vs) := Lib.hid (bch HB6.out hb7)
    have HOv : Hid (OwnI vs w2.heap.size (.slice ta tn tc) l) := Lib.hid (HO6.out.on hb7)
    have HRv : Hid (OwnI vs w4.heap.size (.slice ra rn rc) lr) := Lib.hid (HR6.out.on hb7)
    have HR2 : Hid (∀ W, Below vs.heap.size vs W → Calls Tryd.prog 15 #[.agg #[.slice ta tn tc], .slice ao k co] W fun e w' => ∃ v', e = .returned (.tuple #[.agg #[v'], .int .i64 (k : Int), .int .i64 0]) ∧ OwnI w' W.heap.size v' la ∧ Below W.heap.size W w') := Lib.hid (fun W hW =>
      run_is l _ (ops.take k) _ la k 0 HP1.out HOK.out W (HOv.out.on hW).rd (RdO.take HM.out (RdF.on (RdF.on HRM.out HBv.out) hW) k hkm2) (fun o h => HSO.out o (List.mem_of_mem_take h)) ((HT.out.on HBv.out).on hW))
    have HKM := Lib.hid hkm2
    clear hp1 hp2 hp3 hla hj hk hkm hkm2 hb7 hmm q1 q2 q3
    go_cut [12, 13, 14] (CutT vs la k 0)
    case first =>
      rename_i J2 K2 hJ hK2
      refine wp_region_held_drew (S := fun w' => Below vs.heap.size vs w') (by kernel_rfl) (by rw [hvs]; exact Below.refl _ _) (fun hHeld => ?_)
      rw [← hv0] at hHeld ⊢
      clear hv0 hvs
      refine wpAnyH_take (i := 0) (oi := { dst := some 63, op := Op.load 24 (Operand.tmp 7), type := 24, pos := "outright.go:117", after := #[], guard := none }) (v := ?_) rfl (by kernel_rfl) (by kernel_rfl) (by kernel_rfl) (fun _ _ _ h => h) (Or.inl ⟨by rfl, ?_⟩) hHeld ?_
      rotate_left
      · (intro w hSw; have p0 : w.cell? ⟨g7, 0, none⟩ = some (.slice ta tn tc) := (X7v.out.on hSw).cell (k := 0) rfl; go_simp; try with_reducible rfl)
      (try simp only [Act.put, List.setIfInBounds_toArray, List.set_cons_zero, List.set_cons_succ])
      refine wpAnyH_take (i := 1) (oi := { dst := some 64, op := Op.move (Operand.tmp 1), type := 41, pos := "outright.go:117", after := #[], guard := none }) (v := ?_) rfl (by kernel_rfl) (by kernel_rfl) (by kernel_rfl) (fun _ _ _ h => h) (Or.inl ⟨by rfl, ?_⟩) hHeld ?_
      rotate_left
      · (intro w hSw; go_simp; try with_reducible rfl)
      (try simp only [Act.put, List.setIfInBounds_toArray, List.set_cons_zero, List.set_cons_succ])
      refine wpAnyH_take (i := 2) (oi := { dst := some 65, op := Op.move (Operand.tmp 11), type := 3, pos := "outright.go:117", after := #[], guard := none }) (v := ?_) rfl (by kernel_rfl) (by kernel_rfl) (by kernel_rfl) (fun _ _ _ h => h) (Or.inl ⟨by rfl, ?_⟩) hHeld ?_
      rotate_left
      · (intro w hSw; go_simp; try with_reducible rfl)
      (try simp only [Act.put, List.setIfInBounds_toArray, List.set_cons_zero, List.set_cons_succ])
      refine wpAnyH_take (i := 3) (oi := { dst := some 66, op := Op.slice 41 (Operand.tmp 64) none (some (Operand.tmp 65)) none, type := 41, pos := "outright.go:117", after := #[{ on := 1, ground := Ground.data }, { on := 2, ground := Ground.data }], guard := none }) (v := ?_) rfl (by kernel_rfl) (by kernel_rfl) (by kernel_rfl) (fun _ _ _ h => h) (Or.inl ⟨by rfl, ?_⟩) hHeld ?_
      rotate_left
      · (intro w hSw; go_simp; try with_reducible rfl)
      (try simp only [Act.put, List.setIfInBounds_toArray, List.set_cons_zero, List.set_cons_succ])
      refine wpAnyH_ready (rs := [4, 9]) (by kernel_rfl) (by simp) (AllReadyH.cons (o := { dst := some 67, op := Op.call { callee := Callee.value (Operand.func 15), args := #[Operand.tmp 63, Operand.tmp 66], argTypes := #[24, 41] }, type := 42, pos := "outright.go:117", after := #[{ on := 0, ground := Ground.data }, { on := 3, ground := Ground.data }], guard := none }) rfl (fun K hK => ?_) (AllReadyH.cons (o := { dst := some 12, op := Op.alloc 24, type := 0, pos := "outright.go:117", after := #[], guard := none }) rfl (fun K hK => ?_) AllReadyH.nil))
      · go_simp
        refine (HR2.out _ hHeld).mono ?_
        rintro e v104 ⟨v9, rfl, ho9, hba⟩
        have HO9 : Hid (OwnI v104 vs.heap.size v9 la) := Lib.hid (own_base ho9 hHeld.size)
        obtain ⟨xa, xn, xc, rfl⟩ := own_any HO9.out
        refine hK.out _ _ (bch hHeld hba) (fun hHeld => ?_)
        clear hba ho9
        (try simp only [Act.put, List.setIfInBounds_toArray, List.set_cons_zero, List.set_cons_succ])
        refine wpAnyH_take (i := 5) (oi := { dst := some 62, op := Op.move (Operand.tmp 67), type := 42, pos := "outright.go:117", after := #[{ on := 4, ground := Ground.data }], guard := none }) (v := ?_) rfl (by kernel_rfl) (by kernel_rfl) (by kernel_rfl) (fun _ _ _ h => h) (Or.inl ⟨by rfl, ?_⟩) hHeld ?_
        rotate_left
        · (intro w hSw; go_simp; try with_reducible rfl)
        (try simp only [Act.put, List.setIfInBounds_toArray, List.set_cons_zero, List.set_cons_succ])
        refine wpAnyH_take (i := 6) (oi := { dst := some 68, op := Op.extract (Operand.tmp 62) 0, type := 24, pos := "outright.go:117", after := #[{ on := 5, ground := Ground.data }], guard := none }) (v := ?_) rfl (by kernel_rfl) (by kernel_rfl) (by kernel_rfl) (fun _ _ _ h => h) (Or.inl ⟨by rfl, ?_⟩) hHeld ?_
        rotate_left
        · (intro w hSw; go_simp; try with_reducible rfl)
        (try simp only [Act.put, List.setIfInBounds_toArray, List.set_cons_zero, List.set_cons_succ])
        refine wpAnyH_take (i := 7) (oi := { dst := some 69, op := Op.extract (Operand.tmp 62) 1, type := 3, pos := "outright.go:117", after := #[{ on := 5, ground := Ground.data }, { on := 10, ground := Ground.gcOnly Departure.lateStores }], guard := none }) (v := ?_) rfl (by kernel_rfl) (by kernel_rfl) (by kernel_rfl) (fun _ _ _ h => h) (Or.inl ⟨by rfl, ?_⟩) hHeld ?_
        rotate_left
        · (intro w hSw; go_simp; try with_reducible rfl)
        (try simp only [Act.put, List.setIfInBounds_toArray, List.set_cons_zero, List.set_cons_succ])
        refine wpAnyH_take (i := 8) (oi := { dst := some 70, op := Op.extract (Operand.tmp 62) 2, type := 29, pos := "outright.go:117", after := #[{ on := 5, ground := Ground.data }, { on := 11, ground := Ground.gcOnly Departure.lateStores }], guard := none }) (v := ?_) rfl (by kernel_rfl) (by kernel_rfl) (by kernel_rfl) (fun _ _ _ h => h) (Or.inl ⟨by rfl, ?_⟩) hHeld ?_
        rotate_left
        · (intro w hSw; go_simp; try with_reducible rfl)
        (try simp only [Act.put, List.setIfInBounds_toArray, List.set_cons_zero, List.set_cons_succ])
        refine wpAnyH_ready (rs := [9]) (by kernel_rfl) (by simp) (AllReadyH.cons (o := { dst := some 12, op := Op.alloc 24, type := 0, pos := "outright.go:117", after := #[], guard := none }) rfl (fun K hK => ?_) AllReadyH.nil)
        · go_simp
          have hba : Below v104.heap.size v104 (v104.alloc (.cells #[.slice none 0 0] 24)) := below_new _ _
          have Z7 : Hid (Box (v104.alloc (.cells #[.slice none 0 0] 24)) v104.heap.size 24 #[.slice none 0 0]) := Lib.hid box_new
          have HB7 : Hid (vs.heap.size ≤ v104.heap.size) := Lib.hid hHeld.size
          have HO9 := Lib.hid (HO9.out.on hba)
          obtain ⟨v109, hv9⟩ : ∃ q, q = (v104.alloc (.cells #[.slice none 0 0] 24)) := ⟨_, rfl⟩
          refine hK.out _ _ (bch hHeld hba) (fun hHeld => ?_)
          clear hba
          rw [← hv9] at Z7 hHeld HO9 ⊢
          clear hv9
          obtain ⟨b7, hg9⟩ : ∃ q, q = v104.heap.size := ⟨_, rfl⟩
          rw [← hg9] at Z7 HB7 ⊢
          clear hg9
          (try simp only [Act.put, List.setIfInBounds_toArray, List.set_cons_zero, List.set_cons_succ])
          refine wpAnyH_ready (rs := [10]) (by kernel_rfl) (by simp) (AllReadyH.cons (o := { dst := none, op := Op.store 24 (Operand.tmp 12) (Operand.tmp 68), type := 0, pos := "outright.go:117", after := #[{ on := 9, ground := Ground.data }, { on := 6, ground := Ground.data }, { on := 4, ground := Ground.chain }, { on := 0, ground := Ground.phase }, { on := 1, ground := Ground.phase }, { on := 2, ground := Ground.phase }, { on := 3, ground := Ground.phase }, { on := 4, ground := Ground.phase }, { on := 5, ground := Ground.phase }, { on := 6, ground := Ground.phase }, { on := 7, ground := Ground.textOnly Departure.lateStores }, { on := 8, ground := Ground.textOnly Departure.lateStores }, { on := 9, ground := Ground.phase }], guard := none }) rfl (fun K hK => ?_) AllReadyH.nil)
          · refine wp_store_if (by rfl) 24 (.tmp 12) (.tmp 68) rfl b7 24 #[.slice none 0 0] #[.slice xa xn xc] rfl rfl Z7.out (info24 _) rfl (slice_one _ _ _) ?_
            have Z8 : Hid (Box (v109.setRow b7 #[.slice xa xn xc]) b7 24 #[.slice xa xn xc]) := Lib.hid (Z7.out.row _)
            have HO9 : Hid (OwnI (v109.setRow b7 #[.slice xa xn xc]) vs.heap.size (.slice xa xn xc) la) := Lib.hid (own_row HO9.out Z7.out)
            refine hK.out _ _ (below_row hHeld HB7.out _) (fun hHeld => ?_)
            clear Z7
            (try simp only [Act.put])
            refine wpAnyH_take (i := 11) (oi := { dst := some 13, op := Op.assign (Operand.tmp 69), type := 3, pos := "outright.go:117", after := #[{ on := 7, ground := Ground.data }, { on := 10, ground := Ground.chain }, { on := 0, ground := Ground.phase }, { on := 1, ground := Ground.phase }, { on := 2, ground := Ground.phase }, { on := 3, ground := Ground.phase }, { on := 4, ground := Ground.phase }, { on := 5, ground := Ground.phase }, { on := 6, ground := Ground.phase }, { on := 7, ground := Ground.phase }, { on := 8, ground := Ground.textOnly Departure.lateStores }, { on := 9, ground := Ground.phase }, { on := 10, ground := Ground.phase }], guard := none }) (v := ?_) rfl (by kernel_rfl) (by kernel_rfl) (by kernel_rfl) (fun _ _ _ h => h) (Or.inl ⟨by rfl, ?_⟩) hHeld ?_
            rotate_left
            · (intro w hSw; go_simp; try with_reducible rfl)
            (try simp only [Act.put, List.setIfInBounds_toArray, List.set_cons_zero, List.set_cons_succ])
            refine wpAnyH_take (i := 12) (oi := { dst := some 14, op := Op.assign (Operand.tmp 70), type := 29, pos := "outright.go:117", after := #[{ on := 8, ground := Ground.data }, { on := 11, ground := Ground.chain }, { on := 0, ground := Ground.phase }, { on := 1, ground := Ground.phase }, { on := 2, ground := Ground.phase }, { on := 3, ground := Ground.phase }, { on := 4, ground := Ground.phase }, { on := 5, ground := Ground.phase }, { on := 6, ground := Ground.phase }, { on := 7, ground := Ground.phase }, { on := 8, ground := Ground.phase }, { on := 9, ground := Ground.phase }, { on := 10, ground := Ground.phase }, { on := 11, ground := Ground.phase }], guard := none }) (v := ?_) rfl (by kernel_rfl) (by kernel_rfl) (by kernel_rfl) (fun _ _ _ h => h) (Or.inl ⟨by rfl, ?_⟩) hHeld ?_
            rotate_left
            · (intro w hSw; go_simp; try with_reducible rfl)
            (try simp only [Act.put, List.setIfInBounds_toArray, List.set_cons_zero, List.set_cons_succ])
            refine wpAnyH_done (by kernel_rfl) ?_ _
            first | refine hK2 _ _ (Met.intro (hJ _ _ ?_)) | refine Met.intro (hJ _ _ ?_)
            (repeat apply Exists.intro)
            refine ⟨?_, rfl⟩
            exact ⟨_, _, rfl, rfl, rfl, Z8, HO9, Lib.hid hHeld, HB7⟩
      · go_simp
        have hba : Below v0.heap.size v0 (v0.alloc (.cells #[.slice none 0 0] 24)) := below_new _ _
        have Z7 : Hid (Box (v0.alloc (.cells #[.slice none 0 0] 24)) v0.heap.size 24 #[.slice none 0 0]) := Lib.hid box_new
        have HB7 : Hid (vs.heap.size ≤ v0.heap.size) := Lib.hid hHeld.size
        obtain ⟨v109, hv9⟩ : ∃ q, q = (v0.alloc (.cells #[.slice none 0 0] 24)) := ⟨_, rfl⟩
        refine hK.out _ _ (bch hHeld hba) (fun hHeld => ?_)
        clear hba
        rw [← hv9] at Z7 hHeld ⊢
        clear hv9
        obtain ⟨b7, hg9⟩ : ∃ q, q = v0.heap.size := ⟨_, rfl⟩
        rw [← hg9] at Z7 HB7 ⊢
        clear hg9
        (try simp only [Act.put, List.setIfInBounds_toArray, List.set_cons_zero, List.set_cons_succ])
        refine wpAnyH_ready (rs := [4]) (by kernel_rfl) (by simp) (AllReadyH.cons (o := { dst := some 67, op := Op.call { callee := Callee.value (Operand.func 15), args := #[Operand.tmp 63, Operand.tmp 66], argTypes := #[24, 41] }, type := 42, pos := "outright.go:117", after := #[{ on := 0, ground := Ground.data }, { on := 3, ground := Ground.data }], guard := none }) rfl (fun K hK => ?_) AllReadyH.nil)
        · go_simp
          refine (HR2.out _ hHeld).mono ?_
          rintro e v104 ⟨v9, rfl, ho9, hba⟩
          have HO9 : Hid (OwnI v104 vs.heap.size v9 la) := Lib.hid (own_base ho9 hHeld.size)
          obtain ⟨xa, xn, xc, rfl⟩ := own_any HO9.out
          have Z7 := Lib.hid (Z7.out.on hba)
          refine hK.out _ _ (bch hHeld hba) (fun hHeld => ?_)
          clear hba ho9
          (try simp only [Act.put, List.setIfInBounds_toArray, List.set_cons_zero, List.set_cons_succ])
          refine wpAnyH_take (i := 5) (oi := { dst := some 62, op := Op.move (Operand.tmp 67), type := 42, pos := "outright.go:117", after := #[{ on := 4, ground := Ground.data }], guard := none }) (v := ?_) rfl (by kernel_rfl) (by kernel_rfl) (by kernel_rfl) (fun _ _ _ h => h) (Or.inl ⟨by rfl, ?_⟩) hHeld ?_
          rotate_left
          · (intro w hSw; go_simp; try with_reducible rfl)
          (try simp only [Act.put, List.setIfInBounds_toArray, List.set_cons_zero, List.set_cons_succ])
          refine wpAnyH_take (i := 6) (oi := { dst := some 68, op := Op.extract (Operand.tmp 62) 0, type := 24, pos := "outright.go:117", after := #[{ on := 5, ground := Ground.data }], guard := none }) (v := ?_) rfl (by kernel_rfl) (by kernel_rfl) (by kernel_rfl) (fun _ _ _ h => h) (Or.inl ⟨by rfl, ?_⟩) hHeld ?_
          rotate_left
          · (intro w hSw; go_simp; try with_reducible rfl)
          (try simp only [Act.put, List.setIfInBounds_toArray, List.set_cons_zero, List.set_cons_succ])
          refine wpAnyH_take (i := 7) (oi := { dst := some 69, op := Op.extract (Operand.tmp 62) 1, type := 3, pos := "outright.go:117", after := #[{ on := 5, ground := Ground.data }, { on := 10, ground := Ground.gcOnly Departure.lateStores }], guard := none }) (v := ?_) rfl (by kernel_rfl) (by kernel_rfl) (by kernel_rfl) (fun _ _ _ h => h) (Or.inl ⟨by rfl, ?_⟩) hHeld ?_
          rotate_left
          · (intro w hSw; go_simp; try with_reducible rfl)
          (try simp only [Act.put, List.setIfInBounds_toArray, List.set_cons_zero, List.set_cons_succ])
          refine wpAnyH_take (i := 8) (oi := { dst := some 70, op := Op.extract (Operand.tmp 62) 2, type := 29, pos := "outright.go:117", after := #[{ on := 5, ground := Ground.data }, { on := 11, ground := Ground.gcOnly Departure.lateStores }], guard := none }) (v := ?_) rfl (by kernel_rfl) (by kernel_rfl) (by kernel_rfl) (fun _ _ _ h => h) (Or.inl ⟨by rfl, ?_⟩) hHeld ?_
          rotate_left
          · (intro w hSw; go_simp; try with_reducible rfl)
          (try simp only [Act.put, List.setIfInBounds_toArray, List.set_cons_zero, List.set_cons_succ])
          refine wpAnyH_ready (rs := [10]) (by kernel_rfl) (by simp) (AllReadyH.cons (o := { dst := none, op := Op.store 24 (Operand.tmp 12) (Operand.tmp 68), type := 0, pos := "outright.go:117", after := #[{ on := 9, ground := Ground.data }, { on := 6, ground := Ground.data }, { on := 4, ground := Ground.chain }, { on := 0, ground := Ground.phase }, { on := 1, ground := Ground.phase }, { on := 2, ground := Ground.phase }, { on := 3, ground := Ground.phase }, { on := 4, ground := Ground.phase }, { on := 5, ground := Ground.phase }, { on := 6, ground := Ground.phase }, { on := 7, ground := Ground.textOnly Departure.lateStores }, { on := 8, ground := Ground.textOnly Departure.lateStores }, { on := 9, ground := Ground.phase }], guard := none }) rfl (fun K hK => ?_) AllReadyH.nil)
          · refine wp_store_if (by rfl) 24 (.tmp 12) (.tmp 68) rfl b7 24 #[.slice none 0 0] #[.slice xa xn xc] rfl rfl Z7.out (info24 _) rfl (slice_one _ _ _) ?_
            have Z8 : Hid (Box (v104.setRow b7 #[.slice xa xn xc]) b7 24 #[.slice xa xn xc]) := Lib.hid (Z7.out.row _)
            have HO9 : Hid (OwnI (v104.setRow b7 #[.slice xa xn xc]) vs.heap.size (.slice xa xn xc) la) := Lib.hid (own_row HO9.out Z7.out)
            refine hK.out _ _ (below_row hHeld HB7.out _) (fun hHeld => ?_)
            clear Z7
            (try simp only [Act.put])
            refine wpAnyH_take (i := 11) (oi := { dst := some 13, op := Op.assign (Operand.tmp 69), type := 3, pos := "outright.go:117", after := #[{ on := 7, ground := Ground.data }, { on := 10, ground := Ground.chain }, { on := 0, ground := Ground.phase }, { on := 1, ground := Ground.phase }, { on := 2, ground := Ground.phase }, { on := 3, ground := Ground.phase }, { on := 4, ground := Ground.phase }, { on := 5, ground := Ground.phase }, { on := 6, ground := Ground.phase }, { on := 7, ground := Ground.phase }, { on := 8, ground := Ground.textOnly Departure.lateStores }, { on := 9, ground := Ground.phase }, { on := 10, ground := Ground.phase }], guard := none }) (v := ?_) rfl (by kernel_rfl) (by kernel_rfl) (by kernel_rfl) (fun _ _ _ h => h) (Or.inl ⟨by rfl, ?_⟩) hHeld ?_
            rotate_left
            · (intro w hSw; go_simp; try with_reducible rfl)
            (try simp only [Act.put, List.setIfInBounds_toArray, List.set_cons_zero, List.set_cons_succ])
            refine wpAnyH_take (i := 12) (oi := { dst := some 14, op := Op.assign (Operand.tmp 70), type := 29, pos := "outright.go:117", after := #[{ on := 8, ground := Ground.data }, { on := 11, ground := Ground.chain }, { on := 0, ground := Ground.phase }, { on := 1, ground := Ground.phase }, { on := 2, ground := Ground.phase }, { on := 3, ground := Ground.phase }, { on := 4, ground := Ground.phase }, { on := 5, ground := Ground.phase }, { on := 6, ground := Ground.phase }, { on := 7, ground := Ground.phase }, { on := 8, ground := Ground.phase }, { on := 9, ground := Ground.phase }, { on := 10, ground := Ground.phase }, { on := 11, ground := Ground.phase }], guard := none }) (v := ?_) rfl (by kernel_rfl) (by kernel_rfl) (by kernel_rfl) (fun _ _ _ h => h) (Or.inl ⟨by rfl, ?_⟩) hHeld ?_
            rotate_left
            · (intro w hSw; go_simp; try with_reducible rfl)
            (try simp only [Act.put, List.setIfInBounds_toArray, List.set_cons_zero, List.set_cons_succ])
            refine wpAnyH_done (by kernel_rfl) ?_ _
            first | refine hK2 _ _ (Met.intro (hJ _ _ ?_)) | refine Met.intro (hJ _ _ ?_)
            (repeat apply Exists.intro)
            refine ⟨?_, rfl⟩
            exact ⟨_, _, rfl, rfl, rfl, Z8, HO9, Lib.hid hHeld, HB7⟩
    case rest =>
      obtain ⟨g12, v12, rfl, rfl, rfl, Z12, HOA, HBA, _⟩ := hcut
      obtain ⟨w7, hw7⟩ : ∃ z, z = wc := ⟨_, rfl⟩
      rw [← hw7] at Z12 HOA HBA ⊢
      clear hw7
      go_wp2_with fail
      obtain ⟨xa2, xn2, xc2, rfl⟩ := own_any HOA.out
      have HB7 := Lib.hid (bch HBv.out HBA.out)
      have X87 := Lib.hid (X8v.out.on HBA.out)
      have HR7 : Hid (OwnI w7 w4.heap.size (.slice ra rn rc) lr) := Lib.hid (HRv.out.on HBA.out)
      obtain ⟨B7, hB7⟩ : ∃ z, z = vs.heap.size := ⟨_, rfl⟩
      rw [← hB7] at HOA
      clear X7v X8v HBv HOv HRv HR2 HBA hB7
      obtain ⟨v0, hv0⟩ : ∃ z, z = World.drew w7 := ⟨_, rfl⟩
      obtain ⟨vs, hvs⟩ : ∃ z, z = World.drew w7 := ⟨_, rfl⟩
      have hb8 : Below w7.heap.size w7 vs := by rw [hvs]; exact (Below.refl _ _).drew
      have X12v : Hid (Box vs g12 24 #[.slice xa2 xn2 xc2]) := Lib.hid (Z12.out.on hb8)
      have X8v : Hid (Box vs g8 24 #[.slice ra rn rc]) := Lib.hid (X87.out.on hb8)
      have HBv : Hid (Below w.heap.size w vs) := Lib.hid (bch HB7.out hb8)
      have HAv : Hid (OwnI vs B7 (.slice xa2 xn2 xc2) la) := Lib.hid (HOA.out.on hb8)
      have HRv : Hid (OwnI vs w4.heap.size (.slice ra rn rc) lr) := Lib.hid (HR7.out.on hb8)
      have HR3 : Hid (∀ W, Below vs.heap.size vs W → Calls Tryd.prog 15 #[.agg #[.slice xa2 xn2 xc2], .slice (if co = k then ao else ao.map fun x => x.add (k * 4)) (m - k) (co - k)] W fun e w' => ∃ v', e = .returned (.tuple #[.agg #[v'], .int .i64 (j : Int), .int .i64 er]) ∧ OwnI w' W.heap.size v' lr ∧ Below W.heap.size W w') := Lib.hid (fun W hW =>
        run_is la _ (ops.drop k) _ lr j er HP3.out HOKA.out W (HAv.out.on hW).rd (RdO.cut HM.out (RdF.on (RdF.on HRM.out HBv.out) hW) k HKM.out) (fun o h => HSO.out o (List.mem_of_mem_drop h)) ((HT.out.on HBv.out).on hW))
      clear hb8
      go_cut [15, 16, 17] (CutT vs lr j er)
      case first =>
        rename_i J2 K2 hJ hK2
        refine wp_region_held_drew (S := fun w' => Below vs.heap.size vs w') (by kernel_rfl) (by rw [hvs]; exact Below.refl _ _) (fun hHeld => ?_)
        rw [← hv0] at hHeld ⊢
        clear hv0 hvs
        refine wpAnyH_take (i := 0) (oi := { dst := some 72, op := Op.load 24 (Operand.tmp 12), type := 24, pos := "outright.go:118", after := #[], guard := none }) (v := ?_) rfl (by kernel_rfl) (by kernel_rfl) (by kernel_rfl) (fun _ _ _ h => h) (Or.inl ⟨by rfl, ?_⟩) hHeld ?_
        rotate_left
        · (intro w hSw; have p0 : w.cell? ⟨g12, 0, none⟩ = some (.slice xa2 xn2 xc2) := (X12v.out.on hSw).cell (k := 0) rfl; go_simp; try with_reducible rfl)
        (try simp only [Act.put, List.setIfInBounds_toArray, List.set_cons_zero, List.set_cons_succ])
        refine wpAnyH_take (i := 1) (oi := { dst := some 73, op := Op.move (Operand.tmp 1), type := 41, pos := "outright.go:118", after := #[], guard := none }) (v := ?_) rfl (by kernel_rfl) (by kernel_rfl) (by kernel_rfl) (fun _ _ _ h => h) (Or.inl ⟨by rfl, ?_⟩) hHeld ?_
        rotate_left
        · (intro w hSw; go_simp; try with_reducible rfl)
        (try simp only [Act.put, List.setIfInBounds_toArray, List.set_cons_zero, List.set_cons_succ])
        refine wpAnyH_take (i := 2) (oi := { dst := some 74, op := Op.move (Operand.tmp 11), type := 3, pos := "outright.go:118", after := #[], guard := none }) (v := ?_) rfl (by kernel_rfl) (by kernel_rfl) (by kernel_rfl) (fun _ _ _ h => h) (Or.inl ⟨by rfl, ?_⟩) hHeld ?_
        rotate_left
        · (intro w hSw; go_simp; try with_reducible rfl)
        (try simp only [Act.put, List.setIfInBounds_toArray, List.set_cons_zero, List.set_cons_succ])
        refine wpAnyH_take (i := 3) (oi := { dst := some 75, op := Op.slice 41 (Operand.tmp 73) (some (Operand.tmp 74)) none none, type := 41, pos := "outright.go:118", after := #[{ on := 1, ground := Ground.data }, { on := 2, ground := Ground.data }], guard := none }) (v := ?_) rfl (by kernel_rfl) (by kernel_rfl) (by kernel_rfl) (fun _ _ _ h => h) (Or.inl ⟨by rfl, ?_⟩) hHeld ?_
        rotate_left
        · (intro w hSw; go_simp; try with_reducible rfl)
        (try simp only [Act.put, List.setIfInBounds_toArray, List.set_cons_zero, List.set_cons_succ])
        refine wpAnyH_ready (rs := [4, 9]) (by kernel_rfl) (by simp) (AllReadyH.cons (o := { dst := some 76, op := Op.call { callee := Callee.value (Operand.func 15), args := #[Operand.tmp 72, Operand.tmp 75], argTypes := #[24, 41] }, type := 42, pos := "outright.go:118", after := #[{ on := 0, ground := Ground.data }, { on := 3, ground := Ground.data }], guard := none }) rfl (fun K hK => ?_) (AllReadyH.cons (o := { dst := some 15, op := Op.alloc 24, type := 0, pos := "outright.go:118", after := #[], guard := none }) rfl (fun K hK => ?_) AllReadyH.nil))
        · go_simp
          refine (HR3.out _ hHeld).mono ?_
          rintro e v104 ⟨v9, rfl, ho9, hba⟩
          have HO9 : Hid (OwnI v104 vs.heap.size v9 lr) := Lib.hid (own_base ho9 hHeld.size)
          obtain ⟨xa, xn, xc, rfl⟩ := own_any HO9.out
          refine hK.out _ _ (bch hHeld hba) (fun hHeld => ?_)
          clear hba ho9
          (try simp only [Act.put, List.setIfInBounds_toArray, List.set_cons_zero, List.set_cons_succ])
          refine wpAnyH_take (i := 5) (oi := { dst := some 71, op := Op.move (Operand.tmp 76), type := 42, pos := "outright.go:118", after := #[{ on := 4, ground := Ground.data }], guard := none }) (v := ?_) rfl (by kernel_rfl) (by kernel_rfl) (by kernel_rfl) (fun _ _ _ h => h) (Or.inl ⟨by rfl, ?_⟩) hHeld ?_
          rotate_left
          · (intro w hSw; go_simp; try with_reducible rfl)
          (try simp only [Act.put, List.setIfInBounds_toArray, List.set_cons_zero, List.set_cons_succ])
          refine wpAnyH_take (i := 6) (oi := { dst := some 77, op := Op.extract (Operand.tmp 71) 0, type := 24, pos := "outright.go:118", after := #[{ on := 5, ground := Ground.data }], guard := none }) (v := ?_) rfl (by kernel_rfl) (by kernel_rfl) (by kernel_rfl) (fun _ _ _ h => h) (Or.inl ⟨by rfl, ?_⟩) hHeld ?_
          rotate_left
          · (intro w hSw; go_simp; try with_reducible rfl)
          (try simp only [Act.put, List.setIfInBounds_toArray, List.set_cons_zero, List.set_cons_succ])
          refine wpAnyH_take (i := 7) (oi := { dst := some 78, op := Op.extract (Operand.tmp 71) 1, type := 3, pos := "outright.go:118", after := #[{ on := 5, ground := Ground.data }, { on := 10, ground := Ground.gcOnly Departure.lateStores }], guard := none }) (v := ?_) rfl (by kernel_rfl) (by kernel_rfl) (by kernel_rfl) (fun _ _ _ h => h) (Or.inl ⟨by rfl, ?_⟩) hHeld ?_
          rotate_left
          · (intro w hSw; go_simp; try with_reducible rfl)
          (try simp only [Act.put, List.setIfInBounds_toArray, List.set_cons_zero, List.set_cons_succ])
          refine wpAnyH_take (i := 8) (oi := { dst := some 79, op := Op.extract (Operand.tmp 71) 2, type := 29, pos := "outright.go:118", after := #[{ on := 5, ground := Ground.data }, { on := 11, ground := Ground.gcOnly Departure.lateStores }], guard := none }) (v := ?_) rfl (by kernel_rfl) (by kernel_rfl) (by kernel_rfl) (fun _ _ _ h => h) (Or.inl ⟨by rfl, ?_⟩) hHeld ?_
          rotate_left
          · (intro w hSw; go_simp; try with_reducible rfl)
          (try simp only [Act.put, List.setIfInBounds_toArray, List.set_cons_zero, List.set_cons_succ])
          refine wpAnyH_ready (rs := [9]) (by kernel_rfl) (by simp) (AllReadyH.cons (o := { dst := some 15, op := Op.alloc 24, type := 0, pos := "outright.go:118", after := #[], guard := none }) rfl (fun K hK => ?_) AllReadyH.nil)
          · go_simp
            have hba : Below v104.heap.size v104 (v104.alloc (.cells #[.slice none 0 0] 24)) := below_new _ _
            have Z7 : Hid (Box (v104.alloc (.cells #[.slice none 0 0] 24)) v104.heap.size 24 #[.slice none 0 0]) := Lib.hid box_new
            have HB7 : Hid (vs.heap.size ≤ v104.heap.size) := Lib.hid hHeld.size
            have HO9 := Lib.hid (HO9.out.on hba)
            obtain ⟨v109, hv9⟩ : ∃ q, q = (v104.alloc (.cells #[.slice none 0 0] 24)) := ⟨_, rfl⟩
            refine hK.out _ _ (bch hHeld hba) (fun hHeld => ?_)
            clear hba
            rw [← hv9] at Z7 hHeld HO9 ⊢
            clear hv9
            obtain ⟨b7, hg9⟩ : ∃ q, q = v104.heap.size := ⟨_, rfl⟩
            rw [← hg9] at Z7 HB7 ⊢
            clear hg9
            (try simp only [Act.put, List.setIfInBounds_toArray, List.set_cons_zero, List.set_cons_succ])
            refine wpAnyH_ready (rs := [10]) (by kernel_rfl) (by simp) (AllReadyH.cons (o := { dst := none, op := Op.store 24 (Operand.tmp 15) (Operand.tmp 77), type := 0, pos := "outright.go:118", after := #[{ on := 9, ground := Ground.data }, { on := 6, ground := Ground.data }, { on := 4, ground := Ground.chain }, { on := 0, ground := Ground.phase }, { on := 1, ground := Ground.phase }, { on := 2, ground := Ground.phase }, { on := 3, ground := Ground.phase }, { on := 4, ground := Ground.phase }, { on := 5, ground := Ground.phase }, { on := 6, ground := Ground.phase }, { on := 7, ground := Ground.textOnly Departure.lateStores }, { on := 8, ground := Ground.textOnly Departure.lateStores }, { on := 9, ground := Ground.phase }], guard := none }) rfl (fun K hK => ?_) AllReadyH.nil)
            · refine wp_store_if (by rfl) 24 (.tmp 15) (.tmp 77) rfl b7 24 #[.slice none 0 0] #[.slice xa xn xc] rfl rfl Z7.out (info24 _) rfl (slice_one _ _ _) ?_
              have Z8 : Hid (Box (v109.setRow b7 #[.slice xa xn xc]) b7 24 #[.slice xa xn xc]) := Lib.hid (Z7.out.row _)
              have HO9 : Hid (OwnI (v109.setRow b7 #[.slice xa xn xc]) vs.heap.size (.slice xa xn xc) lr) := Lib.hid (own_row HO9.out Z7.out)
              refine hK.out _ _ (below_row hHeld HB7.out _) (fun hHeld => ?_)
              clear Z7
              (try simp only [Act.put])
              refine wpAnyH_take (i := 11) (oi := { dst := some 16, op := Op.assign (Operand.tmp 78), type := 3, pos := "outright.go:118", after := #[{ on := 7, ground := Ground.data }, { on := 10, ground := Ground.chain }, { on := 0, ground := Ground.phase }, { on := 1, ground := Ground.phase }, { on := 2, ground := Ground.phase }, { on := 3, ground := Ground.phase }, { on := 4, ground := Ground.phase }, { on := 5, ground := Ground.phase }, { on := 6, ground := Ground.phase }, { on := 7, ground := Ground.phase }, { on := 8, ground := Ground.textOnly Departure.lateStores }, { on := 9, ground := Ground.phase }, { on := 10, ground := Ground.phase }], guard := none }) (v := ?_) rfl (by kernel_rfl) (by kernel_rfl) (by kernel_rfl) (fun _ _ _ h => h) (Or.inl ⟨by rfl, ?_⟩) hHeld ?_
              rotate_left
              · (intro w hSw; go_simp; try with_reducible rfl)
              (try simp only [Act.put, List.setIfInBounds_toArray, List.set_cons_zero, List.set_cons_succ])
              refine wpAnyH_take (i := 12) (oi := { dst := some 17, op := Op.assign (Operand.tmp 79), type := 29, pos := "outright.go:118", after := #[{ on := 8, ground := Ground.data }, { on := 11, ground := Ground.chain }, { on := 0, ground := Ground.phase }, { on := 1, ground := Ground.phase }, { on := 2, ground := Ground.phase }, { on := 3, ground := Ground.phase }, { on := 4, ground := Ground.phase }, { on := 5, ground := Ground.phase }, { on := 6, ground := Ground.phase }, { on := 7, ground := Ground.phase }, { on := 8, ground := Ground.phase }, { on := 9, ground := Ground.phase }, { on := 10, ground := Ground.phase }, { on := 11, ground := Ground.phase }], guard := none }) (v := ?_) rfl (by kernel_rfl) (by kernel_rfl) (by kernel_rfl) (fun _ _ _ h => h) (Or.inl ⟨by rfl, ?_⟩) hHeld ?_
              rotate_left
              · (intro w hSw; go_simp; try with_reducible rfl)
              (try simp only [Act.put, List.setIfInBounds_toArray, List.set_cons_zero, List.set_cons_succ])
              refine wpAnyH_done (by kernel_rfl) ?_ _
              first | refine hK2 _ _ (Met.intro (hJ _ _ ?_)) | refine Met.intro (hJ _ _ ?_)
              (repeat apply Exists.intro)
              refine ⟨?_, rfl⟩
              exact ⟨_, _, rfl, rfl, rfl, Z8, HO9, Lib.hid hHeld, HB7⟩
        · go_simp
          have hba : Below v0.heap.size v0 (v0.alloc (.cells #[.slice none 0 0] 24)) := below_new _ _
          have Z7 : Hid (Box (v0.alloc (.cells #[.slice none 0 0] 24)) v0.heap.size 24 #[.slice none 0 0]) := Lib.hid box_new
          have HB7 : Hid (vs.heap.size ≤ v0.heap.size) := Lib.hid hHeld.size
          obtain ⟨v109, hv9⟩ : ∃ q, q = (v0.alloc (.cells #[.slice none 0 0] 24)) := ⟨_, rfl⟩
          refine hK.out _ _ (bch hHeld hba) (fun hHeld => ?_)
          clear hba
          rw [← hv9] at Z7 hHeld ⊢
          clear hv9
          obtain ⟨b7, hg9⟩ : ∃ q, q = v0.heap.size := ⟨_, rfl⟩
          rw [← hg9] at Z7 HB7 ⊢
          clear hg9
          (try simp only [Act.put, List.setIfInBounds_toArray, List.set_cons_zero, List.set_cons_succ])
          refine wpAnyH_ready (rs := [4]) (by kernel_rfl) (by simp) (AllReadyH.cons (o := { dst := some 76, op := Op.call { callee := Callee.value (Operand.func 15), args := #[Operand.tmp 72, Operand.tmp 75], argTypes := #[24, 41] }, type := 42, pos := "outright.go:118", after := #[{ on := 0, ground := Ground.data }, { on := 3, ground := Ground.data }], guard := none }) rfl (fun K hK => ?_) AllReadyH.nil)
          · go_simp
            refine (HR3.out _ hHeld).mono ?_
            rintro e v104 ⟨v9, rfl, ho9, hba⟩
            have HO9 : Hid (OwnI v104 vs.heap.size v9 lr) := Lib.hid (own_base ho9 hHeld.size)
            obtain ⟨xa, xn, xc, rfl⟩ := own_any HO9.out
            have Z7 := Lib.hid (Z7.out.on hba)
            refine hK.out _ _ (bch hHeld hba) (fun hHeld => ?_)
            clear hba ho9
            (try simp only [Act.put, List.setIfInBounds_toArray, List.set_cons_zero, List.set_cons_succ])
            refine wpAnyH_take (i := 5) (oi := { dst := some 71, op := Op.move (Operand.tmp 76), type := 42, pos := "outright.go:118", after := #[{ on := 4, ground := Ground.data }], guard := none }) (v := ?_) rfl (by kernel_rfl) (by kernel_rfl) (by kernel_rfl) (fun _ _ _ h => h) (Or.inl ⟨by rfl, ?_⟩) hHeld ?_
            rotate_left
            · (intro w hSw; go_simp; try with_reducible rfl)
            (try simp only [Act.put, List.setIfInBounds_toArray, List.set_cons_zero, List.set_cons_succ])
            refine wpAnyH_take (i := 6) (oi := { dst := some 77, op := Op.extract (Operand.tmp 71) 0, type := 24, pos := "outright.go:118", after := #[{ on := 5, ground := Ground.data }], guard := none }) (v := ?_) rfl (by kernel_rfl) (by kernel_rfl) (by kernel_rfl) (fun _ _ _ h => h) (Or.inl ⟨by rfl, ?_⟩) hHeld ?_
            rotate_left
            · (intro w hSw; go_simp; try with_reducible rfl)
            (try simp only [Act.put, List.setIfInBounds_toArray, List.set_cons_zero, List.set_cons_succ])
            refine wpAnyH_take (i := 7) (oi := { dst := some 78, op := Op.extract (Operand.tmp 71) 1, type := 3, pos := "outright.go:118", after := #[{ on := 5, ground := Ground.data }, { on := 10, ground := Ground.gcOnly Departure.lateStores }], guard := none }) (v := ?_) rfl (by kernel_rfl) (by kernel_rfl) (by kernel_rfl) (fun _ _ _ h => h) (Or.inl ⟨by rfl, ?_⟩) hHeld ?_
            rotate_left
            · (intro w hSw; go_simp; try with_reducible rfl)
            (try simp only [Act.put, List.setIfInBounds_toArray, List.set_cons_zero, List.set_cons_succ])
            refine wpAnyH_take (i := 8) (oi := { dst := some 79, op := Op.extract (Operand.tmp 71) 2, type := 29, pos := "outright.go:118", after := #[{ on := 5, ground := Ground.data }, { on := 11, ground := Ground.gcOnly Departure.lateStores }], guard := none }) (v := ?_) rfl (by kernel_rfl) (by kernel_rfl) (by kernel_rfl) (fun _ _ _ h => h) (Or.inl ⟨by rfl, ?_⟩) hHeld ?_
            rotate_left
            · (intro w hSw; go_simp; try with_reducible rfl)
            (try simp only [Act.put, List.setIfInBounds_toArray, List.set_cons_zero, List.set_cons_succ])
            refine wpAnyH_ready (rs := [10]) (by kernel_rfl) (by simp) (AllReadyH.cons (o := { dst := none, op := Op.store 24 (Operand.tmp 15) (Operand.tmp 77), type := 0, pos := "outright.go:118", after := #[{ on := 9, ground := Ground.data }, { on := 6, ground := Ground.data }, { on := 4, ground := Ground.chain }, { on := 0, ground := Ground.phase }, { on := 1, ground := Ground.phase }, { on := 2, ground := Ground.phase }, { on := 3, ground := Ground.phase }, { on := 4, ground := Ground.phase }, { on := 5, ground := Ground.phase }, { on := 6, ground := Ground.phase }, { on := 7, ground := Ground.textOnly Departure.lateStores }, { on := 8, ground := Ground.textOnly Departure.lateStores }, { on := 9, ground := Ground.phase }], guard := none }) rfl (fun K hK => ?_) AllReadyH.nil)
            · refine wp_store_if (by rfl) 24 (.tmp 15) (.tmp 77) rfl b7 24 #[.slice none 0 0] #[.slice xa xn xc] rfl rfl Z7.out (info24 _) rfl (slice_one _ _ _) ?_
              have Z8 : Hid (Box (v104.setRow b7 #[.slice xa xn xc]) b7 24 #[.slice xa xn xc]) := Lib.hid (Z7.out.row _)
              have HO9 : Hid (OwnI (v104.setRow b7 #[.slice xa xn xc]) vs.heap.size (.slice xa xn xc) lr) := Lib.hid (own_row HO9.out Z7.out)
              refine hK.out _ _ (below_row hHeld HB7.out _) (fun hHeld => ?_)
              clear Z7
              (try simp only [Act.put])
              refine wpAnyH_take (i := 11) (oi := { dst := some 16, op := Op.assign (Operand.tmp 78), type := 3, pos := "outright.go:118", after := #[{ on := 7, ground := Ground.data }, { on := 10, ground := Ground.chain }, { on := 0, ground := Ground.phase }, { on := 1, ground := Ground.phase }, { on := 2, ground := Ground.phase }, { on := 3, ground := Ground.phase }, { on := 4, ground := Ground.phase }, { on := 5, ground := Ground.phase }, { on := 6, ground := Ground.phase }, { on := 7, ground := Ground.phase }, { on := 8, ground := Ground.textOnly Departure.lateStores }, { on := 9, ground := Ground.phase }, { on := 10, ground := Ground.phase }], guard := none }) (v := ?_) rfl (by kernel_rfl) (by kernel_rfl) (by kernel_rfl) (fun _ _ _ h => h) (Or.inl ⟨by rfl, ?_⟩) hHeld ?_
              rotate_left
              · (intro w hSw; go_simp; try with_reducible rfl)
              (try simp only [Act.put, List.setIfInBounds_toArray, List.set_cons_zero, List.set_cons_succ])
              refine wpAnyH_take (i := 12) (oi := { dst := some 17, op := Op.assign (Operand.tmp 79), type := 29, pos := "outright.go:118", after := #[{ on := 8, ground := Ground.data }, { on := 11, ground := Ground.chain }, { on := 0, ground := Ground.phase }, { on := 1, ground := Ground.phase }, { on := 2, ground := Ground.phase }, { on := 3, ground := Ground.phase }, { on := 4, ground := Ground.phase }, { on := 5, ground := Ground.phase }, { on := 6, ground := Ground.phase }, { on := 7, ground := Ground.phase }, { on := 8, ground := Ground.phase }, { on := 9, ground := Ground.phase }, { on := 10, ground := Ground.phase }, { on := 11, ground := Ground.phase }], guard := none }) (v := ?_) rfl (by kernel_rfl) (by kernel_rfl) (by kernel_rfl) (fun _ _ _ h => h) (Or.inl ⟨by rfl, ?_⟩) hHeld ?_
              rotate_left
              · (intro w hSw; go_simp; try with_reducible rfl)
              (try simp only [Act.put, List.setIfInBounds_toArray, List.set_cons_zero, List.set_cons_succ])
              refine wpAnyH_done (by kernel_rfl) ?_ _
              first | refine hK2 _ _ (Met.intro (hJ _ _ ?_)) | refine Met.intro (hJ _ _ ?_)
              (repeat apply Exists.intro)
              refine ⟨?_, rfl⟩
              exact ⟨_, _, rfl, rfl, rfl, Z8, HO9, Lib.hid hHeld, HB7⟩
      case rest =>
        obtain ⟨g15, v15, rfl, rfl, rfl, Z15, HOB, HBB2, _⟩ := hcut
        obtain ⟨w8, hw8⟩ : ∃ z, z = wc := ⟨_, rfl⟩
        rw [← hw8] at Z15 HOB HBB2 ⊢
        clear hw8
        obtain ⟨xa3, xn3, xc3, rfl⟩ := own_any HOB.out
        have HB8 := Lib.hid (bch HBv.out HBB2.out)
        have p15 : w8.cell? ⟨g15, 0, none⟩ = some (.slice xa3 xn3 xc3) := Z15.out.cell (k := 0) rfl
        have p8 : w8.cell? ⟨g8, 0, none⟩ = some (.slice ra rn rc) := (X8v.out.on HBB2.out).cell (k := 0) rfl
        have HSA := Lib.hid (same_any lr lr (.slice xa3 xn3 xc3) (.slice ra rn rc) w8 HOB.out.rd (HRv.out.on HBB2.out).rd)
        rw [decide_eq_true (rfl : lr = lr)] at HSA
        go_wp2_with fail
        refine HSA.out.mono ?_
        rintro e w9 ⟨rfl, hb9⟩
        go_wp2_with fail
        go_ret
        exact ⟨rfl, bch HB8.out hb9⟩
end Go.Proofs.YtemhdjplhafmiaaDoor
