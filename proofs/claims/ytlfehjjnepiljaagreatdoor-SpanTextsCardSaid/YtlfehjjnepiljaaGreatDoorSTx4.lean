/- Proved here: Read of puncheonref05: the span of a text, for texts of few bytes. -/
import Derived.Test.YtlfehjjnepiljaaGreatDoorSTx3
namespace Go.Proofs.YtlfehjjnepiljaaGreatDoor
open Go.RowKit Go.Shelf

theorem pbuildS57 {ops : Array Oper} {rest : List Oper} {o : Oper} {ac : Act} {w : World} {Q : Exit → Act → World → Prop} (hg : o.guard = none) (x : Operand) (ho : o.op = .buildSlice 55 1 #[(0, x)]) (b : Bd) (hx : ac.eval x = .agg b.arr)
    (h : wpList Tryz.prog ops Q rest (ac.put o.dst (.slice (some ⟨w.heap.size, 0, none⟩) 1 1)) (w.alloc (.cells b.arr 57))) : wpList Tryz.prog ops Q (o :: rest) ac w := by
  obtain ⟨i0, hi, hz0, hz1, hz2⟩ := info_parts info57z
  refine wpList_buildSlice hg 55 57 1 _ ho b.arr i0 (.agg Bd.zero.arr) Tryz.underlying55 hi hz0 (by rw [hz1]; decide) (by rw [hz1]; decide) ?_ h
  rw [hz1]
  refine Eq.trans ?_ (filledB b.kind b.ver)
  simp [hx]
theorem joinL_room (c : UInt8) : ∀ L : List Str, L.length ≤ (joinL c L).length + 1
  | [] => by simp
  | [a] => by simp
  | a :: b :: r => by
    have := joinL_room c (b :: r)
    simp only [joinL, List.length_append, List.length_cons] at this ⊢
    omega
theorem joinD_room : ∀ L : List Str, L.length ≤ (joinD L).length + 1
  | [] => by simp
  | [a] => by simp
  | a :: b :: r => by
    have := joinD_room (b :: r)
    simp only [joinD, List.length_append, List.length_cons] at this ⊢
    omega
theorem joinL_part (c : UInt8) : ∀ (L : List Str) (x : Str), x ∈ L → x.length ≤ (joinL c L).length
  | [], _, h => by cases h
  | [a], x, h => by rw [List.mem_singleton.1 h]; exact Nat.le_refl _
  | a :: b :: r, x, h => by
    simp only [joinL, List.length_append, List.length_cons]
    rcases List.mem_cons.1 h with rfl | h
    · omega
    · have := joinL_part c (b :: r) x h
      omega
theorem joinD_part : ∀ (L : List Str) (x : Str), x ∈ L → x.length ≤ (joinD L).length
  | [], _, h => by cases h
  | [a], x, h => by rw [List.mem_singleton.1 h]; exact Nat.le_refl _
  | a :: b :: r, x, h => by
    simp only [joinD, List.length_append, List.length_cons]
    rcases List.mem_cons.1 h with rfl | h
    · omega
    · have := joinD_part (b :: r) x h
      omega
/-- The rows so far are those of the pieces. -/
def RowsP (R : List (List Bd)) (P : List Str) : Prop := ∀ (j : Nat) (l : List Bd), R[j]? = some l → (∀ b ∈ l, b.ok = true) ∧ P[j]? = some (rowT l)
theorem RowsP.nil (P : List Str) : RowsP [] P := fun j l h => by simp at h
theorem RowsP.snoc {R : List (List Bd)} {P : List Str} {l : List Bd} (h : RowsP R P) (h1 : ∀ b ∈ l, b.ok = true) (h2 : P[R.length]? = some (rowT l)) : RowsP (R ++ [l]) P := fun j m hm => by
  by_cases hj : j < R.length
  · rw [List.getElem?_append_left hj] at hm
    exact h j m hm
  · rw [List.getElem?_append_right (by omega)] at hm
    have hl := (List.getElem?_eq_some_iff.1 hm).1
    simp at hl
    have e : j = R.length := by omega
    subst e
    simp at hm
    subst hm
    exact ⟨h1, h2⟩
theorem RowsP.all {R : List (List Bd)} {P : List Str} (h : RowsP R P) (hl : R.length = P.length) : R.map rowT = P := by
  apply List.ext_getElem?
  intro j
  rw [List.getElem?_map]
  by_cases hj : j < R.length
  · rw [List.getElem?_eq_getElem hj]
    exact (h j _ (List.getElem?_eq_getElem hj)).2.symm
  · rw [List.getElem?_eq_none (by omega), List.getElem?_eq_none (by omega)]
    rfl
/-- A span that may be, of that text, is just these rows. -/
theorem rows_are {R m : List (List Bd)} {S : Str} (h : RowsP R (splitD S)) (hl : R.length = (splitD S).length) (hm : spanOk m = true) (ht : spanT m = S) : m = R := by
  have h1 := span_split hm
  rw [ht] at h1
  have h2 := h.all hl
  rw [h1] at h2
  apply List.ext_getElem?
  intro j
  have hlen : R.length = m.length := by
    have := congrArg List.length h2
    simpa using this
  by_cases hj : j < m.length
  · have e1 : R[j]? = some R[j] := List.getElem?_eq_getElem (by omega)
    have e2 : m[j]? = some m[j] := List.getElem?_eq_getElem hj
    rw [e1, e2]
    congr 1
    refine row_inj (row_ok ((span_ok hm).2 _ (List.mem_of_getElem? e2))).2 (h j _ e1).1 ?_
    have h3 := congrArg (fun L => L[j]?) h2
    simp only [List.getElem?_map, e1, e2, Option.map_some] at h3
    exact (Option.some.inj h3).symm
  · rw [List.getElem?_eq_none (by omega), List.getElem?_eq_none (by omega)]
theorem no_part {m : List (List Bd)} {S p x : Str} {i j : Nat} (hm : spanOk m = true) (ht : spanT m = S) (hp : (splitD S)[i]? = some p) (hs : p ≠ [42]) (hx : (splitL 44 p)[j]? = some x) : ∃ b : Bd, b.ok = true ∧ b.text = x := by
  have h1 := span_split hm
  rw [ht] at h1
  rw [h1, List.getElem?_map] at hp
  obtain ⟨l, hl, rfl⟩ := Option.map_eq_some_iff.1 hp
  have hr := row_ok ((span_ok hm).2 l (List.mem_of_getElem? hl))
  have hne : l ≠ [] := fun e => hs (by rw [e]; rfl)
  rw [rowT_ne hne, split_join (c := 44) (l.map Bd.text) (by simpa using hne) (fun y hy => by
    obtain ⟨b, hb, rfl⟩ := List.mem_map.1 hy
    exact bd_free44 (hr.2 b hb)), List.getElem?_map] at hx
  obtain ⟨b, hb, rfl⟩ := Option.map_eq_some_iff.1 hx
  exact ⟨b, hr.2 b (List.mem_of_getElem? hb), rfl⟩
theorem row_of {l : List Bd} {p : Str} (h : l.map Bd.text = splitL 44 p) : rowT l = p := by
  have hne : l ≠ [] := fun e => by rw [e] at h; exact split_ne 44 p h.symm
  rw [rowT_ne hne, h, join_split]
theorem txt_at {W : World} {B g n c : Nat} {L : List Str} (h : W.ownsRow B 9 1 (.slice (some ⟨g, 0, none⟩) n c) n (txt L)) {i : Nat} {p : Str} (hp : L[i]? = some p) : W.cell? ⟨g, i, none⟩ = some (.string (ofB p)) := by
  have := h.cells (g := g) rfl i (.string (ofB p)) (by unfold txt; rw [List.getElem?_map, hp]; rfl)
  rw [add_to, Nat.zero_add] at this
  exact this
def ReadT (S : Str) (w : World) (e : Ending) (w' : World) : Prop :=
  ∃ (x : Value) (l : List (List Bd)) (o : Bool), e = .returned (.tuple #[.agg #[x], .bool o]) ∧ ((o = true ∧ spanOk l = true ∧ spanT l = S ∧ OwnR w' w.heap.size x l) ∨ (o = false ∧ x = .slice none 0 0 ∧ ∀ m, spanOk m = true → spanT m ≠ S)) ∧ Below w.heap.size w w'
theorem info27s : (Tryz.prog.info? 27).map (·.size) = some 1 := by kernel_rfl
theorem res27 {W : World} {g : Nat} {x : Value} {tmps : Array Value} (hx : Box W g 27 #[x]) (h2 : tmps.getD 2 undef = .pointer (some ⟨g, 0, none⟩)) : (results Tryz.f18 tmps).run Tryz.prog W = .ok (.tuple #[.agg #[x], tmps.getD 3 undef]) W :=
  results_ver rfl tmps W g h2 #[x] (run_loadVar_row _ g 27 27 #[x] (0, 0) _ hx Tryz.underlying27 rfl info27s)

set_option maxRecDepth 100000 in
set_option maxHeartbeats 8000000 in
theorem rsread_any (s : ByteArray) (S : Str) (N : Nat) (hS : s.data.toList = S) (hN : s.size = N) (hs : N ≤ 100000) (w : World) : Calls Tryz.prog 18 #[.string s] w (ReadT S w) := by
  obtain ⟨i0, hi, hz0, hz1, hz2⟩ := info_parts info57z
  have HS := Lib.hid hS
  have HSL : Hid (S.length = N) := Lib.hid (by rw [← hS, ← hN]; rfl)
  obtain ⟨w2, hw2⟩ : ∃ q, q = (w.alloc (.cells #[.slice none 0 0] 27)).alloc (.cells #[.slice none 0 0] 27) := ⟨_, rfl⟩
  have X2 : Hid (Box w2 w.heap.size 27 #[.slice none 0 0]) := Lib.hid (by rw [hw2]; exact box_new.alloc _)
  have X4 : Hid (Box w2 (w.heap.size + 1) 27 #[.slice none 0 0]) := Lib.hid (by rw [hw2]; exact heap_alloc2_new w _ _)
  have B2 : Hid (Below w.heap.size w w2) := Lib.hid (by rw [hw2]; exact ((Below.refl w.heap.size w).alloc (Nat.le_refl _) _).alloc (by simp) _)
  have S2 : Hid (w2.heap.size = w.heap.size + 2) := Lib.hid (by rw [hw2]; simp)
  have HCT := Lib.hid (rcut_any s ⟨#[124, 124]⟩ S bars N 2 splitD cut_bars hS rfl hN rfl (by omega) (by omega) w2)
  clear hS hN
  go_enter Tryz.func18, Tryz.ntmps18
  go_upto_region 2 with fail
  rw [← hw2]
  clear hw2
  go_wp2_with fail
  refine HCT.out.mono ?_
  rintro e w3 ⟨a13, n, c13, rfl, hn, hown, hb⟩
  have HN := Lib.hid hn
  have HP0 := Lib.hid hown
  replace X2 := Lib.hid (X2.out.on hb)
  replace X4 := Lib.hid (X4.out.on hb)
  have B3 := Lib.hid (bch B2.out hb)
  have S3 : Hid (w.heap.size + 2 ≤ w3.heap.size) := Lib.hid (by have := S2.out; have := hb.size; omega)
  have HPL : Hid ((splitD S).length ≤ N + 1 ∧ ∀ p ∈ splitD S, p.length ≤ N) := Lib.hid (by
    have h1 := joinD_room (splitD S)
    rw [joinD_split, HSL.out] at h1
    refine ⟨h1, fun p hp => ?_⟩
    have h2 := joinD_part (splitD S) p hp
    rw [joinD_split, HSL.out] at h2
    exact h2)
  have hnN : n ≤ N + 1 := by rw [hn]; exact HPL.out.1
  have HG13 : Hid (∀ j, (Value.slice a13 n c13).ownBlock = some j → j < w3.heap.size) := Lib.hid (fun j hj => (hown.lt j hj).2)
  have HP3 : Hid (w3.ownsRow (w.heap.size + 2) 9 1 (.slice a13 n c13) n (txt (splitD S))) := Lib.hid (by rw [← S2.out]; exact hown)
  clear HCT hn hown hb B2 HP0
  go_wp2_with fail
  go_loopw [15] (fun ii W => ∃ (i : Nat) (R : List (List Bd)) (xr : Value), i ≤ n ∧ ii = .int .i64 i ∧ Hid (R.length = i) ∧ Hid (RowsP R (splitD S)) ∧ Hid (Box W w.heap.size 27 #[.slice none 0 0]) ∧ Hid (Box W (w.heap.size + 1) 27 #[xr]) ∧ Hid (OwnR W w3.heap.size xr R) ∧ Hid (W.ownsRow (w.heap.size + 2) 9 1 (.slice a13 n c13) n (txt (splitD S))) ∧ Hid (w3.heap.size ≤ W.heap.size) ∧ Hid (Below w.heap.size w W)) (fun ii _ => n - (Lib.intOf ii).toNat)
  case atStart => exact ⟨0, [], .slice none 0 0, Nat.zero_le _, rfl, Lib.hid rfl, Lib.hid (RowsP.nil _), X2, X4, Lib.hid (OwnR.nil _ _), HP3, Lib.hid (Nat.le_refl _), B3⟩
  case round =>
    clear X2 X4 HP3 B3
    obtain ⟨i, R, xr, hin, rfl, HRL, HRP, HX2, HX4, HO, HP3, HSZ, HB⟩ := hrel
    obtain ⟨wq, hwq⟩ : ∃ q, q = wr := ⟨_, rfl⟩
    rw [← hwq] at HX2 HX4 HO HP3 HSZ HB ⊢
    clear hwq
    by_cases hlt : i < n
    · obtain ⟨p, hp⟩ : ∃ v, (splitD S)[i]? = some v := ⟨_, List.getElem?_eq_getElem (by have := HN.out; omega)⟩
      obtain ⟨g13, rfl⟩ : ∃ g, a13 = some ⟨g, 0, none⟩ := by
        rcases HP3.out.2 with ⟨h0, hz⟩ | ⟨g', c', cur, hv, _⟩
        · omega
        · injection hv with e1
          exact ⟨g', e1⟩
      have r0 := txt_at HP3.out hp
      have hpN : p.length ≤ N := HPL.out.2 p (List.mem_of_getElem? hp)
      have HPI := Lib.hid hp
      have i1 : (i : Int) < (n : Int) := by omega
      have i2 : (0 : Int) ≤ (i : Int) := by omega
      have i4 : IntKind.i64.wrap ((i : Int) + 1) = (i : Int) + 1 := IntWalk.i64_in _ (by omega)
      have HCT := Lib.hid (rcut_any (ofB p) ⟨#[44]⟩ p [44] p.length 1 (splitL 44) (cut_one 44) rfl rfl rfl rfl (by omega) (by omega) wq)
      obtain ⟨q42, hq42⟩ : ∃ q, q = ((ofB p).toList == [42]) := ⟨_, rfl⟩
      have hq := hq42.symm
      have HQS : Hid (q42 = true ↔ p = [42]) := Lib.hid (by rw [hq42, Lib.toList_data, beq_iff_eq]; exact Iff.rfl)
      clear hp hq42
      go_wp2_with fail
      refine HCT.out.mono ?_
      rintro e w4 ⟨a20, m, c20, rfl, hm, hown, hb⟩
      have HM := Lib.hid hm
      have HQ0 := Lib.hid hown
      replace HX2 := Lib.hid (HX2.out.on hb)
      replace HX4 := Lib.hid (HX4.out.on hb)
      replace HO := Lib.hid (HO.out.on hb)
      replace HP3 := Lib.hid (owns_below HP3.out hb)
      replace HSZ := Lib.hid (Nat.le_trans HSZ.out hb.size)
      replace HB := Lib.hid (bch HB.out hb)
      have hmN : m ≤ N + 1 := by
        rw [hm]
        have h1 := joinL_room 44 (splitL 44 p)
        rw [join_split] at h1
        omega
      clear HCT hm hown hb r0
      go_wp2_with fail
      go_loopw [7, 22] (fun xl jj W => ∃ (j : Nat) (al : Option Addr) (ml cl : Nat) (l : List Bd), j ≤ m ∧ jj = .int .i64 j ∧ xl = .slice al ml cl ∧ ml = l.length ∧ Hid (ml = j) ∧ Hid (∀ b ∈ l, b.ok = true) ∧ Hid (l.map Bd.text = (splitL 44 p).take j) ∧ Hid (p = [42] → j = 0) ∧ Hid (W.ownsRow w4.heap.size 57 8 (.slice al ml cl) ml (flatB l)) ∧ Hid (Below w4.heap.size w4 W)) (fun _ jj _ => m - (Lib.intOf jj).toNat)
      case atStart => exact ⟨0, none, 0, 0, [], Nat.zero_le _, rfl, rfl, rfl, Lib.hid rfl, Lib.hid (fun b hb => (by cases hb)), Lib.hid rfl, Lib.hid (fun _ => rfl), Lib.hid (World.ownsRow_nil _ _ _ _), Lib.hid (Below.refl _ _)⟩
      case round =>
        obtain ⟨j, al, ml, cl, l, hjm, rfl, rfl, hml, hmj, HOKL, HMT, HST, HOL, HW⟩ := hrel
        have HML := Lib.hid hml
        clear hml
        obtain ⟨wi, hwi⟩ : ∃ q, q = wr := ⟨_, rfl⟩
        rw [← hwi] at HOL HW ⊢
        clear hwi
        replace HX2 := Lib.hid (HX2.out.on HW.out)
        replace HX4 := Lib.hid (HX4.out.on HW.out)
        replace HO := Lib.hid (HO.out.on HW.out)
        replace HP3 := Lib.hid (owns_below HP3.out HW.out)
        have HBI := Lib.hid (bch HB.out HW.out)
        have HSI := Lib.hid (Nat.le_trans HSZ.out HW.out.size)
        by_cases jlt : j < m
        · obtain ⟨x, hx⟩ : ∃ v, (splitL 44 p)[j]? = some v := ⟨_, List.getElem?_eq_getElem (by have := HM.out; omega)⟩
          obtain ⟨g20, rfl⟩ : ∃ g, a20 = some ⟨g, 0, none⟩ := by
            rcases HQ0.out.2 with ⟨h0, hz⟩ | ⟨g', c', cur, hv, _⟩
            · omega
            · injection hv with e1
              exact ⟨g', e1⟩
          have r1 := txt_at (owns_below HQ0.out HW.out) hx
          have j1 : (j : Int) < (m : Int) := by omega
          have j2 : (0 : Int) ≤ (j : Int) := by omega
          have j4 : IntKind.i64.wrap ((j : Int) + 1) = (j : Int) + 1 := IntWalk.i64_in _ (by omega)
          have HXI := Lib.hid hx
          have hxN : x.length ≤ N := by
            have h1 : x.length ≤ (joinL 44 (splitL 44 p)).length := joinL_part 44 _ x (List.mem_of_getElem? hx)
            rw [join_split] at h1
            omega
          clear hx
          cases q42 with
          | true =>
            have hp42 := HQS.out.1 rfl
            have hj0 := HST.out hp42
            subst hj0
            have hl0 : l = [] := List.eq_nil_of_length_eq_zero (by have := HML.out; have := hmj.out; omega)
            have hml0 : ml = 0 := hmj.out
            have hfr : (∀ b ∈ l, b.ok = true) ∧ rowT l = p := ⟨HOKL.out, by rw [hl0, hp42]; rfl⟩
            have hr4 : wi.ownsRow w3.heap.size 57 8 (.slice al ml cl) l.length (flatB l) := by rw [← HML.out]; exact own_base HOL.out HSZ.out
            have hml9 : ml ≤ N + 1 := by omega
            clear hml0 hl0 hp42 hmj
            have HFR := Lib.hid hfr
            clear hfr
            obtain ⟨x4, hx4⟩ : ∃ q, q = xr := ⟨_, rfl⟩
            obtain ⟨ar, cr, hform⟩ := HO.out.form
            obtain ⟨nr, hnr⟩ : ∃ z, z = R.length := ⟨_, rfl⟩
            rw [← hnr] at hform
            subst hform
            obtain ⟨us, hu1, hu2⟩ := own_rows HO.out hnr
            have HU1 := Lib.hid hu1
            have HNR := Lib.hid hnr
            have HR4 := Lib.hid hr4
            have q0 := HX4.out.cell (k := 0) rfl
            have f0 := frozen_of_row wi _ 0 _ _ HX4.out
            have hnr9 : nr ≤ N + 1 := by rw [hnr, HRL.out]; omega
            obtain ⟨i1, hi1, hy0, hy1, hy2⟩ := info_parts info55z
            have lown : ∀ k, (Value.slice ar nr cr).ownBlock = some k → w3.heap.size ≤ k := fun k e => (HU1.out.lt k e).1
            have HLO := Lib.hid lown
            clear hu1 hu2 hnr lown hx4 hr4
            go_wp2_with (at_builtin; go_loud (refine wpList_append_own _ rfl _ _ 25 rfl w3.heap.size 55 i1 (.slice none 0 0) 1 24 Tryz.underlying25 hi1 hy0 hy1 hy2 rfl (by decide) (.slice ar nr cr) nr us rfl (HU1.out.alloc _) ⟨wi.heap.size, 0, none⟩ 1 1 [.slice al ml cl] rfl rfl (cell_new1 _ _ _) (by simp [Value.oneCell']) (by unfold maxLen; omega) (by omega) (by have := HSI.out; simp; omega) ?_; intro v' w7 hown' hgrow _; have HO7 := Lib.hid hown'; have HG7 := Lib.hid hgrow; clear hown' hgrow; obtain ⟨a7, c7, rfl⟩ := ownF_form HO7.out; have Y4 : Hid (Box w7 (w.heap.size + 1) 27 #[.slice ar nr cr]) := Lib.hid ((HG7.out.block _ (by have := HX4.out.lt; simp; omega) (fun e => by have := HLO.out _ e.symm; have := S3.out; omega)).trans (HX4.out.alloc _)); have q7 := Y4.out.cell (k := 0) rfl; have f7 := frozen_of_row w7 _ 0 _ _ Y4.out))
            have hb12 : Below wi.heap.size wi (wi.alloc (.cells #[.slice al ml cl] 55)) := below_new _ _
            have hP : OwnR w7 w3.heap.size (.slice a7 (nr + 1) c7) (R ++ [l]) := by
              refine OwnR.push (w := wi.alloc (.cells #[.slice al ml cl] 55)) (x := .slice ar nr cr) (v := .slice al ml cl) (HO.out.on hb12) (owns_below HR4.out hb12) HG7.out us (fun us2 h1 h2 _ => ?_) (by rw [← HNR.out]; exact HO7.out)
              have e2 : us2.length = nr := by rw [h2, HNR.out]
              rw [e2] at h1
              exact own_same (HU1.out.alloc _) h1
            have Y2 : Box w7 w.heap.size 27 #[.slice none 0 0] := (HG7.out.block _ (by have := HX2.out.lt; simp; omega) (fun e => by have := HLO.out _ e.symm; have := S3.out; omega)).trans (HX2.out.alloc _)
            have YP : w7.ownsRow (w.heap.size + 2) 9 1 (.slice (some ⟨g13, 0, none⟩) n c13) n (txt (splitD S)) := (HP3.out.alloc _).kept HG7.out (.inr (fun e => by have h1 := HG13.out g13 rfl; have h2 := HLO.out g13 (by rw [← e]; rfl); omega))
            have YB : Below w.heap.size w w7 := (HBI.out.alloc HBI.out.size _).grown HG7.out (by have := HBI.out.size; simp; omega) (fun k e => by have := HLO.out k e; have := S3.out; omega)
            have YS : w3.heap.size ≤ w7.heap.size := by have := HG7.out.size; simp at this; have := HSI.out; omega
            go_roundw
            case rel => exact ⟨i + 1, R ++ [l], .slice a7 (nr + 1) c7, hlt, by go_num, Lib.hid (by rw [List.length_append, HRL.out]; rfl), Lib.hid (HRP.out.snoc HFR.out.1 (by rw [HRL.out, HFR.out.2]; exact HPI.out)), Lib.hid (Y2.far (p := ⟨w.heap.size + 1, 0, none⟩) (by show w.heap.size ≠ w.heap.size + 1; omega) _), Lib.hid (Y4.out.set (k := 0) _), Lib.hid (hP.apart (grownBy_setCell' _ _ _) (fun k e => by cases e; have := S3.out; omega)), Lib.hid (own_apart YP (grownBy_setCell' _ _ _) (fun k e => by cases e; omega)), Lib.hid (by simpa using YS), Lib.hid (YB.setCell (p := ⟨w.heap.size + 1, 0, none⟩) (by show w.heap.size ≤ w.heap.size + 1; omega) _)⟩
            case measure => simp [Lib.intOf]; omega
          | false =>
            have HBD := Lib.hid (rbound2_any (ofB x) x x.length rfl rfl (by omega) wi)
            go_wp2_with fail
            refine HBD.out.mono ?_
            rintro e w5 ⟨b, o, rfl, hyes, hno, hb⟩
            have HYES := Lib.hid hyes
            have HNO := Lib.hid hno
            replace HX2 := Lib.hid (HX2.out.on hb)
            replace HX4 := Lib.hid (HX4.out.on hb)
            replace HO := Lib.hid (HO.out.on hb)
            replace HP3 := Lib.hid (owns_below HP3.out hb)
            replace HOL := Lib.hid (owns_below HOL.out hb)
            have HW5 := Lib.hid (bch HW.out hb)
            have HB5 := Lib.hid (bch HBI.out hb)
            clear HBD hyes hno hb r1
            have Y0 : Hid (Box (w5.alloc (.cells Bd.zero.arr 57)) w5.heap.size 57 Bd.zero.arr) := Lib.hid box_new
            obtain ⟨w6, hw6⟩ : ∃ q, q = (w5.alloc (.cells Bd.zero.arr 57)).setRow w5.heap.size b.arr := ⟨_, rfl⟩
            have Y6 : Hid (Box w6 w5.heap.size 57 b.arr) := Lib.hid (by rw [hw6]; exact Y0.out.row _)
            have b6 : Below w5.heap.size w5 w6 := by rw [hw6]; exact below_row ((Below.refl _ _).alloc (Nat.le_refl _) _) (Nat.le_refl _) _
            replace HX2 := Lib.hid (HX2.out.on b6)
            replace HX4 := Lib.hid (HX4.out.on b6)
            replace HO := Lib.hid (HO.out.on b6)
            replace HP3 := Lib.hid (owns_below HP3.out b6)
            replace HOL := Lib.hid (owns_below HOL.out b6)
            replace HW5 := Lib.hid (bch HW5.out b6)
            replace HB5 := Lib.hid (bch HB5.out b6)
            go_upto_region 11 with (first
              | (with_reducible refine wpList_zero rfl 57 rfl Bd.zero.arr zero57 ?_)
              | (refine wpList_store_row rfl 57 (.tmp 10) (.tmp 31) rfl w5.heap.size b.arr rfl rfl 57 _ Y0.out (info57 _) rfl (barr_one _) ?_))
            rw [← hw6]
            (try go_frame)
            clear hw6 Y0 b6
            obtain ⟨g10, hg10⟩ : ∃ q, q = w5.heap.size := ⟨_, rfl⟩
            rw [← hg10] at Y6 ⊢
            clear hg10
            cases o with
            | false =>
              have HNN : Hid (∀ m, spanOk m = true → spanT m ≠ S) := Lib.hid (fun m hm ht => by
                obtain ⟨y, hy1, hy2⟩ := no_part hm ht HPI.out (fun e => by have := HQS.out.2 e; cases this) HXI.out
                exact HNO.out rfl y hy1 hy2)
              have q2 := HX2.out.cell (k := 0) rfl
              have f2 := frozen_of_row w6 _ 0 _ _ HX2.out
              go_wp2_with fail
              refine bodyPost_ret (res27 (HX2.out.set (k := 0) (.slice none 0 0)) rfl) rfl ⟨.slice none 0 0, [], false, rfl, .inr ⟨rfl, rfl, HNN.out⟩, HB5.out.setCell (p := ⟨w.heap.size, 0, none⟩) (Nat.le_refl _) _⟩
            | true =>
              obtain ⟨hbo, hbt⟩ := HYES.out rfl
              have HOK2 : Hid (∀ y ∈ l ++ [b], y.ok = true) := Lib.hid (fun y hy => by
                rcases List.mem_append.1 hy with h | h
                · exact HOKL.out y h
                · rw [List.mem_singleton.1 h]; exact hbo)
              have HMT2 : Hid ((l ++ [b]).map Bd.text = (splitL 44 p).take (j + 1)) := Lib.hid (by rw [List.map_append, HMT.out, List.take_add_one, HXI.out, List.map_singleton, hbt]; rfl)
              have hmlj : ml ≤ N + 1 := by have := hmj.out; omega
              have lown : ∀ k, (Value.slice al ml cl).ownBlock = some k → w4.heap.size ≤ k := fun k e => (HOL.out.lt k e).1
              have HLO := Lib.hid lown
              have HN8 := Lib.hid (news8 w6 b w6.heap.size _ rfl rfl)
              clear hbo hbt HNO HYES lown
              go_wp2_with (first
                | (refine wpList_load_row rfl 57 (.tmp 10) rfl g10 rfl 57 b.arr (0, 0) _ Y6.out Tryz.underlying57 rfl (info57 _) ?_)
                | (refine pbuildS57 rfl (.tmp 37) rfl b rfl ?_)
                | (at_builtin; refine wpList_append_own _ rfl _ _ 55 rfl w4.heap.size 57 i0 (.agg Bd.zero.arr) 8 72 Tryz.underlying55 hi hz0 hz1 hz2 rfl (by decide) _ _ _ rfl (HOL.out.alloc _) ⟨w6.heap.size, 0, none⟩ 1 1 b.cells rfl rfl HN8.out (bd_one b) (by unfold maxLen; omega) (by omega) (by have := HW5.out.size; simp; omega) ?_; intro v' w7 hown' hgrow _; have HO7 := Lib.hid hown'; have HG7 := Lib.hid hgrow; clear hown' hgrow; obtain ⟨a7, c7, rfl⟩ := ownF_form HO7.out)
                | fail)
              have HF8 : Hid (w7.ownsRow w4.heap.size 57 8 (.slice a7 (ml + 1) c7) (ml + 1) (flatB (l ++ [b]))) := Lib.hid (by
                rw [flatB_append]
                have e : flatB [b] = b.cells := by simp [flatB]
                rw [e]
                exact HO7.out)
              have HW7 : Hid (Below w4.heap.size w4 w7) := Lib.hid ((HW5.out.alloc HW5.out.size _).grown HG7.out (by have := HW5.out.size; simp; omega) (fun k e => HLO.out k e))
              go_roundw
              case rel => exact ⟨j + 1, a7, ml + 1, c7, l ++ [b], jlt, by go_num, rfl, by rw [List.length_append, ← HML.out]; rfl, Lib.hid (by rw [hmj.out]), HOK2, HMT2, Lib.hid (fun e => by have := HQS.out.2 e; cases this), HF8, HW7⟩
              case measure => simp [Lib.intOf]; omega
        · have j1 : ¬ ((j : Int) < (m : Int)) := by omega
          have hjm2 : j = m := by omega
          have hfr : (∀ b ∈ l, b.ok = true) ∧ rowT l = p := ⟨HOKL.out, row_of (by rw [HMT.out, List.take_of_length_le (by have := HM.out; omega)])⟩
          have hr4 : wi.ownsRow w3.heap.size 57 8 (.slice al ml cl) l.length (flatB l) := by rw [← HML.out]; exact own_base HOL.out HSZ.out
          have hml9 : ml ≤ N + 1 := by have := hmj.out; omega
          clear hjm2 hmj
          have HFR := Lib.hid hfr
          clear hfr
          obtain ⟨x4, hx4⟩ : ∃ q, q = xr := ⟨_, rfl⟩
          obtain ⟨ar, cr, hform⟩ := HO.out.form
          obtain ⟨nr, hnr⟩ : ∃ z, z = R.length := ⟨_, rfl⟩
          rw [← hnr] at hform
          subst hform
          obtain ⟨us, hu1, hu2⟩ := own_rows HO.out hnr
          have HU1 := Lib.hid hu1
          have HNR := Lib.hid hnr
          have HR4 := Lib.hid hr4
          have q0 := HX4.out.cell (k := 0) rfl
          have f0 := frozen_of_row wi _ 0 _ _ HX4.out
          have hnr9 : nr ≤ N + 1 := by rw [hnr, HRL.out]; omega
          obtain ⟨i1, hi1, hy0, hy1, hy2⟩ := info_parts info55z
          have lown : ∀ k, (Value.slice ar nr cr).ownBlock = some k → w3.heap.size ≤ k := fun k e => (HU1.out.lt k e).1
          have HLO := Lib.hid lown
          clear hu1 hu2 hnr lown hx4 hr4
          go_wp2_with (at_builtin; go_loud (refine wpList_append_own _ rfl _ _ 25 rfl w3.heap.size 55 i1 (.slice none 0 0) 1 24 Tryz.underlying25 hi1 hy0 hy1 hy2 rfl (by decide) (.slice ar nr cr) nr us rfl (HU1.out.alloc _) ⟨wi.heap.size, 0, none⟩ 1 1 [.slice al ml cl] rfl rfl (cell_new1 _ _ _) (by simp [Value.oneCell']) (by unfold maxLen; omega) (by omega) (by have := HSI.out; simp; omega) ?_; intro v' w7 hown' hgrow _; have HO7 := Lib.hid hown'; have HG7 := Lib.hid hgrow; clear hown' hgrow; obtain ⟨a7, c7, rfl⟩ := ownF_form HO7.out; have Y4 : Hid (Box w7 (w.heap.size + 1) 27 #[.slice ar nr cr]) := Lib.hid ((HG7.out.block _ (by have := HX4.out.lt; simp; omega) (fun e => by have := HLO.out _ e.symm; have := S3.out; omega)).trans (HX4.out.alloc _)); have q7 := Y4.out.cell (k := 0) rfl; have f7 := frozen_of_row w7 _ 0 _ _ Y4.out))
          have hb12 : Below wi.heap.size wi (wi.alloc (.cells #[.slice al ml cl] 55)) := below_new _ _
          have hP : OwnR w7 w3.heap.size (.slice a7 (nr + 1) c7) (R ++ [l]) := by
            refine OwnR.push (w := wi.alloc (.cells #[.slice al ml cl] 55)) (x := .slice ar nr cr) (v := .slice al ml cl) (HO.out.on hb12) (owns_below HR4.out hb12) HG7.out us (fun us2 h1 h2 _ => ?_) (by rw [← HNR.out]; exact HO7.out)
            have e2 : us2.length = nr := by rw [h2, HNR.out]
            rw [e2] at h1
            exact own_same (HU1.out.alloc _) h1
          have Y2 : Box w7 w.heap.size 27 #[.slice none 0 0] := (HG7.out.block _ (by have := HX2.out.lt; simp; omega) (fun e => by have := HLO.out _ e.symm; have := S3.out; omega)).trans (HX2.out.alloc _)
          have YP : w7.ownsRow (w.heap.size + 2) 9 1 (.slice (some ⟨g13, 0, none⟩) n c13) n (txt (splitD S)) := (HP3.out.alloc _).kept HG7.out (.inr (fun e => by have h1 := HG13.out g13 rfl; have h2 := HLO.out g13 (by rw [← e]; rfl); omega))
          have YB : Below w.heap.size w w7 := (HBI.out.alloc HBI.out.size _).grown HG7.out (by have := HBI.out.size; simp; omega) (fun k e => by have := HLO.out k e; have := S3.out; omega)
          have YS : w3.heap.size ≤ w7.heap.size := by have := HG7.out.size; simp at this; have := HSI.out; omega
          go_roundw
          case rel => exact ⟨i + 1, R ++ [l], .slice a7 (nr + 1) c7, hlt, by go_num, Lib.hid (by rw [List.length_append, HRL.out]; rfl), Lib.hid (HRP.out.snoc HFR.out.1 (by rw [HRL.out, HFR.out.2]; exact HPI.out)), Lib.hid (Y2.far (p := ⟨w.heap.size + 1, 0, none⟩) (by show w.heap.size ≠ w.heap.size + 1; omega) _), Lib.hid (Y4.out.set (k := 0) _), Lib.hid (hP.apart (grownBy_setCell' _ _ _) (fun k e => by cases e; have := S3.out; omega)), Lib.hid (own_apart YP (grownBy_setCell' _ _ _) (fun k e => by cases e; omega)), Lib.hid (by simpa using YS), Lib.hid (YB.setCell (p := ⟨w.heap.size + 1, 0, none⟩) (by show w.heap.size ≤ w.heap.size + 1; omega) _)⟩
          case measure => simp [Lib.intOf]; omega
    · have i1 : ¬ ((i : Int) < (n : Int)) := by omega
      have hlen : R.length = (splitD S).length := by have := HRL.out; have := HN.out; omega
      have HALL := Lib.hid (HRP.out.all hlen)
      have HTS : Hid (spanT R = S) := Lib.hid (by unfold spanT; rw [HALL.out, joinD_split])
      have HARE : Hid (∀ m, spanOk m = true → spanT m = S → m = R) := Lib.hid (fun m hm ht => rows_are HRP.out hlen hm ht)
      have HRR := Lib.hid HO.out.rd
      obtain ⟨ar, cr, hform⟩ := HO.out.form
      obtain ⟨nr, hnr⟩ : ∃ z, z = R.length := ⟨_, rfl⟩
      rw [← hnr] at hform
      subst hform
      obtain ⟨o, ho⟩ : ∃ o, o = spanOk R := ⟨_, rfl⟩
      have HC := Lib.hid (rright_any R _ wq HRR.out)
      rw [← ho] at HC
      have HOO := Lib.hid ho
      have p0 := HX4.out.cell (k := 0) rfl
      clear ho hlen hnr
      cases o with
      | false =>
        have HNN : Hid (∀ m, spanOk m = true → spanT m ≠ S) := Lib.hid (fun m hm ht => by
          rw [HARE.out m hm ht, ← HOO.out] at hm
          cases hm)
        go_wp2_with fail
        refine HC.out.mono ?_
        rintro e w4 ⟨rfl, hb⟩
        have X2 := Lib.hid (HX2.out.on hb)
        have B4 := Lib.hid (bch HB.out hb)
        have q2 := X2.out.cell (k := 0) rfl
        have f2 := frozen_of_row w4 _ 0 _ _ X2.out
        clear HC hb p0
        go_wp2_with fail
        refine bodyPost_ret (res27 (X2.out.set (k := 0) (.slice none 0 0)) rfl) rfl ⟨.slice none 0 0, [], false, rfl, .inr ⟨rfl, rfl, HNN.out⟩, B4.out.setCell (p := ⟨w.heap.size, 0, none⟩) (Nat.le_refl _) _⟩
      | true =>
        go_wp2_with fail
        refine HC.out.mono ?_
        rintro e w4 ⟨rfl, hb⟩
        have X2 := Lib.hid (HX2.out.on hb)
        have X4 := Lib.hid (HX4.out.on hb)
        have HO4 := Lib.hid (HO.out.on hb)
        have B4 := Lib.hid (bch HB.out hb)
        have HT := Lib.hid (rstext_any R _ w4 HO4.out.rd HOO.out.symm)
        rw [HTS.out] at HT
        have q4 := X4.out.cell (k := 0) rfl
        clear HC hb p0
        go_wp2_with fail
        refine HT.out.mono ?_
        rintro e w5 ⟨rfl, hb⟩
        replace X2 := Lib.hid (X2.out.on hb)
        replace X4 := Lib.hid (X4.out.on hb)
        replace HO4 := Lib.hid (HO4.out.on hb)
        replace B4 := Lib.hid (bch B4.out hb)
        have e1 : ((ofB S).toList == s.toList) = true := by rw [Lib.toList_data, Lib.toList_data, HS.out, beq_iff_eq]; rfl
        have e2 : ((ofB S).toList != s.toList) = false := by rw [bne, e1]; rfl
        have q4 := X4.out.cell (k := 0) rfl
        have q2 := X2.out.cell (k := 0) rfl
        have f2 := frozen_of_row w5 _ 0 _ _ X2.out
        clear HT hb
        go_wp2_with fail
        refine bodyPost_ret (res27 (X2.out.set (k := 0) (.slice ar nr cr)) rfl) rfl ⟨_, R, true, rfl, .inl ⟨rfl, HOO.out.symm, HTS.out, ?_⟩, B4.out.setCell (p := ⟨w.heap.size, 0, none⟩) (Nat.le_refl _) _⟩
        exact (HO4.out.apart (grownBy_setCell' _ _ _) (fun k e => by cases e; have := S3.out; omega)).base (by have := S3.out; omega)
end Go.Proofs.YtlfehjjnepiljaaGreatDoor
