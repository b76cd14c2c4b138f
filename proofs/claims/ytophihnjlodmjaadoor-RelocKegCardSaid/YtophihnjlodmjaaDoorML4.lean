/- Proved: whatever row of leaves and two texts RelocKeg of puncheonlaw14 is called with, the call returns true, and the row reads behind it as it read before (the statement Rows.RelocKegCardSaid). | Proved here: plain words on leaves moved there and back. | Proved here: RelocKeg of the laws of package reloc answers true. | What the last steps of the laws on leaves share: a row of leaves that came in. -/
import Derived.Test.YtophihnjlodmjaaDoorML1
import Derived.Test.YtophihnjlodmjaaDoorLawRuns
import Derived.Test.YtophihnjlodmjaaDoorML2
import Derived.Test.YtophihnjlodmjaaDoorCommon
import Derived.Shelf.LaysM
namespace Go.Proofs.YtophihnjlodmjaaDoor
open Go.RowKit Go.Shelf

theorem mvLf_is {fr tt : Bs} {x y : Lf} (h : mvLf fr tt x = some y) : ∃ o al, movL fr tt x.d = some (o, al) ∧ o.length ≤ 200 ∧ y = ⟨x.p, x.dir, o⟩ := by
  unfold mvLf at h
  cases hm : movL fr tt x.d with
  | none => rw [hm] at h; cases h
  | some z =>
    obtain ⟨o, al⟩ := z
    rw [hm] at h
    by_cases ho : o.length ≤ 200
    · simp [ho] at h
      exact ⟨o, al, rfl, ho, h.symm⟩
    · simp [ho] at h
theorem mv_find (fr tt : Bs) (u : Bs) : ∀ {l m : List Lf}, mvLs fr tt l = some m → (m.find? (fun x => x.p == u)).map Lf.dir = (l.find? (fun x => x.p == u)).map Lf.dir
  | [], m, h => by cases h; rfl
  | x :: l, m, h => by
    unfold mvLs at h
    cases h1 : mvLf fr tt x with
    | none => rw [h1] at h; cases h
    | some y =>
      cases h2 : mvLs fr tt l with
      | none => rw [h1, h2] at h; cases h
      | some m' =>
        rw [h1, h2] at h; cases h
        obtain ⟨o, al, _, _, rfl⟩ := mvLf_is h1
        have ih := mv_find fr tt u h2
        simp only [List.find?_cons]
        cases x.p == u with
        | true => rfl
        | false => exact ih
def upD (u : Bs) (o : Option Bool) : Bool := u == [47] || o.getD false
theorem upIn_is (u : Bs) (l : List Lf) : upIn u l = upD u ((l.find? (fun x => x.p == u)).map Lf.dir) := by
  unfold upIn findL upD
  cases l.find? (fun x => x.p == u) with
  | none => rfl
  | some x => simp
theorem mv_nil {fr tt : Bs} (hf : 1 ≤ fr.length) {o : Bs} {al : List Nat} (h : movL fr tt [] = some (o, al)) : o = [] := by
  unfold movL at h
  rw [if_neg (by simp)] at h
  cases h
  exact putO_nil fr tt hf
theorem okLs_mv {fr tt : Bs} {l m : List Lf} (hf : 1 ≤ fr.length) (h : okLs l = true) (hm : mvLs fr tt l = some m) : okLs m = true := by
  have hl := mvLs_len fr tt hm
  obtain ⟨h1, h2, h3⟩ := (okLs_iff l).1 h
  have key : ∀ (j : Nat) (y : Lf), m[j]? = some y → ∃ x o al, l[j]? = some x ∧ movL fr tt x.d = some (o, al) ∧ o.length ≤ 200 ∧ y = ⟨x.p, x.dir, o⟩ := fun j y hy => by
    have hj : j < l.length := by rw [← hl]; exact (List.getElem?_eq_some_iff.1 hy).1
    obtain ⟨x, hx⟩ : ∃ x, l[j]? = some x := ⟨_, List.getElem?_eq_getElem hj⟩
    obtain ⟨z, hz, hz2⟩ := mvLs_at fr tt hm j x hx
    rw [hy] at hz2; cases hz2
    obtain ⟨o, al, ho⟩ := mvLf_is hz
    exact ⟨x, o, al, hx, ho⟩
  refine (okLs_iff m).2 ⟨by rw [hl]; exact h1, fun y hy => ?_, fun i a b ha hb => ?_⟩
  · obtain ⟨j, hj⟩ := List.mem_iff_getElem?.1 hy
    obtain ⟨x, o, al, hx, hmv, ho, rfl⟩ := key j y hj
    obtain ⟨v1, v2⟩ := h2 x (List.mem_of_getElem? hx)
    refine ⟨?_, ?_⟩
    · obtain ⟨c1, c2, c3, c4, c5⟩ := (validLf_iff x).1 v1
      refine (validLf_iff _).2 ⟨c1, c2, c3, fun hd => ?_, fun _ => ho⟩
      have := c4 hd
      rw [this] at hmv
      exact mv_nil hf hmv
    · show upIn (Pt.upL x.p) m = true
      rw [upIn_is, mv_find fr tt _ hm, ← upIn_is]
      exact v2
  · obtain ⟨x, o, al, hx, _, _, rfl⟩ := key i a ha
    obtain ⟨x', o', al', hx', _, _, rfl⟩ := key (i + 1) b hb
    exact h3 i x x' hx hx'
theorem mvLf_back {fr tt : Bs} {x : Lf} {o : Bs} {al : List Nat} (ht : okB tt = true) (h : movL fr tt x.d = some (o, al)) (hr : runPl tt o = al) (hx : x.d.length ≤ 200) : mvLf tt fr ⟨x.p, x.dir, o⟩ = some x := by
  have ht1 := (okB_iff tt).1 ht
  obtain ⟨b, hb⟩ := movL_back ht1.1 ht1.2.2 h hr
  exact mvLf_some hb hx
/-- The first k go back. -/
def BackK (fr tt : Bs) (l m : List Lf) (k : Nat) : Prop := ∀ (j : Nat) (x y : Lf), j < k → l[j]? = some x → m[j]? = some y → mvLf tt fr y = some x
theorem BackK.next {fr tt : Bs} {l m : List Lf} {k : Nat} (h : BackK fr tt l m k) {x y : Lf} (hx : l[k]? = some x) (hy : m[k]? = some y) (hb : mvLf tt fr y = some x) : BackK fr tt l m (k + 1) := fun j u v hj hu hv => by
  rcases Nat.lt_or_ge j k with h1 | h1
  · exact h j u v h1 hu hv
  · obtain rfl : j = k := by omega
    rw [hx] at hu; rw [hy] at hv
    cases hu; cases hv
    exact hb
theorem BackK.done {fr tt : Bs} {l m : List Lf} (hl : m.length = l.length) (h : BackK fr tt l m m.length) : mvLs tt fr m = some l :=
  mvLs_of tt fr hl.symm fun j y hy => by
    have hj := (List.getElem?_eq_some_iff.1 hy).1
    obtain ⟨x, hx⟩ : ∃ x, l[j]? = some x := ⟨_, List.getElem?_eq_getElem (by omega)⟩
    exact ⟨x, h j x y hj hx hy, hx⟩
end Go.Proofs.YtophihnjlodmjaaDoor

namespace Go.Proofs.YtophihnjlodmjaaDoor
open Go.RowKit Go.Shelf
attribute [local go_sem] Oper.semAt_some

theorem built41 (a c : ByteArray) (b : Bool) : Tryd.prog.built 41 [(0, .string a), (1, .bool b), (2, .string c)] = some #[.string a, .bool b, .string c] := by kernel_rfl

set_option maxRecDepth 100000 in
set_option maxHeartbeats 8000000 in
theorem lkeg_law (l : List Lf) (fr tt : Bs) (v : Value) (w : World) (hv : RdL w v l) (m0 : Int) (hm : w.cell? ⟨0, 0, none⟩ = some (.int .i64 m0)) (hw0 : 0 < w.heap.size) : Calls Tryd.prog 8 #[v, .string ⟨fr.toArray⟩, .string ⟨tt.toArray⟩] w fun e w' => e = .returned (.bool true) ∧ Below w.heap.size w w' := by
  have HM0 := Lib.hid hm
  have HW0 := Lib.hid hw0
  clear hm hw0
  have HV := Lib.hid hv
  obtain ⟨a, c, rfl, hlc, hcm, hcc⟩ := hv.open
  obtain ⟨n, hn⟩ : ∃ n, n = l.length := ⟨_, rfl⟩
  rw [← hn] at HV hlc ⊢
  have HN := Lib.hid hn
  obtain ⟨F, hF⟩ : ∃ F, F = fr.take 64 := ⟨_, rfl⟩
  obtain ⟨T, hT⟩ : ∃ T, T = tt.take 64 := ⟨_, rfl⟩
  have HFL : Hid (F.length ≤ 64) := Lib.hid (by rw [hF, List.length_take]; omega)
  have HTL : Hid (T.length ≤ 64) := Lib.hid (by rw [hT, List.length_take]; omega)
  have HOW : Hid (∀ W : World, Calls Tryd.prog 10 #[.agg #[.string ⟨#[]⟩, .string ⟨fr.toArray⟩, .string ⟨tt.toArray⟩]] W fun e w' => e = .returned (.agg #[.string ⟨#[]⟩, .string ⟨F.toArray⟩, .string ⟨T.toArray⟩]) ∧ Below W.heap.size W w') := Lib.hid (fun W => by rw [hF, hT]; exact own_any [] fr tt W)
  clear hv hn hcc hF hT
  unfold maxLen at hcm
  have hbu := built25b ⟨fr.toArray⟩ ⟨tt.toArray⟩
  obtain ⟨mm, hmm⟩ : ∃ mm, mm = min n 17 := ⟨_, rfl⟩
  have pm : min (n : Int) 17 = (mm : Int) := by omega
  have pm1 : (0 : Int) ≤ (mm : Int) := by omega
  have pm2 : (mm : Int) ≤ (n : Int) := by omega
  have pm3 : (mm : Int) ≤ (c : Int) := by omega
  have hmn : mm ≤ n := by omega
  have hm17 : mm ≤ 17 := by omega
  obtain ⟨l0, hl0⟩ : ∃ l0, l0 = l.take mm := ⟨_, rfl⟩
  have HL0 : Hid (l0.length = mm) := Lib.hid (by rw [hl0, List.length_take]; have := HN.out; omega)
  have HV0 : Hid (RdL w (.slice a mm c) l0) := Lib.hid (by rw [hl0]; exact RdL.take HN.out HV.out mm hmn)
  clear hl0 hmm
  go_enter Tryd.func8, Tryd.ntmps8
  go_upto_region 3 with (go_at_call 9; refine (wakes_any _).mono ?_; rintro e w1 ⟨rfl, hb⟩; have B1 := Lib.hid hb; clear hb)
  go_upto_region 4 with (go_at_call 10; refine (HOW.out _).mono ?_; rintro e w2 ⟨rfl, hb⟩; have B2 := Lib.hid (bch B1.out hb); clear hb)
  obtain ⟨w3, hw3⟩ : ∃ q, q = w2.alloc (.cells #[.string ⟨#[]⟩, .string ⟨F.toArray⟩, .string ⟨T.toArray⟩] 25) := ⟨_, rfl⟩
  have X3 : Hid (Box w3 w2.heap.size 25 (Cs.arr ⟨[], F, T⟩)) := Lib.hid (by rw [hw3]; exact box_new)
  have B3 : Hid (Below w.heap.size w w3) := Lib.hid (by rw [hw3]; exact bch B2.out (below_new _ _))
  rw [← hw3]
  obtain ⟨bx, hbx⟩ : ∃ q, q = w2.heap.size := ⟨_, rfl⟩
  rw [← hbx] at X3 ⊢
  clear hw3 hbx hbu
  go_upto_region 5 with (go_at_call 20; refine (lclone_any l0 _ _ (HV0.out.on B3.out) (by rw [HL0.out]; omega)).mono ?_; rintro e w5 ⟨v0, rfl, ho, hb⟩; have HO5 : Hid (OwnL w5 _ v0 l0) := Lib.hid ho; have HB5 := Lib.hid hb; obtain ⟨a0, c0, rfl⟩ := HO5.out.slice; clear ho hb; rw [HL0.out] at HO5 ⊢)
  have X5 : Hid (Box w5 bx 25 (Cs.arr ⟨[], F, T⟩)) := Lib.hid (X3.out.on HB5.out)
  have BW : Hid (Below w.heap.size w w5) := Lib.hid (bch B3.out HB5.out)
  have HR0 : Hid (∀ W, Below w5.heap.size w5 W → RdL W (.slice a0 mm c0) l0) := Lib.hid (fun W hW => HO5.out.rd.on hW)
  have HXW : Hid (∀ W, Below w5.heap.size w5 W → W.cell? ⟨bx, 1, none⟩ = some (.string ⟨F.toArray⟩) ∧ W.cell? ⟨bx, 2, none⟩ = some (.string ⟨T.toArray⟩)) := Lib.hid (fun W hW => ⟨(X5.out.on hW).cell (k := 1) rfl, (X5.out.on hW).cell (k := 2) rfl⟩)
  have HMX : Hid (∀ W, Below w5.heap.size w5 W → W.cell? ⟨0, 0, none⟩ = some (.int .i64 m0)) := Lib.hid (fun W hW => ((bch BW.out hW).cell (p := ⟨0, 0, none⟩) HW0.out).trans HM0.out)
  have x1 := (HXW.out w5 (Below.refl _ _)).1
  have x2 := (HXW.out w5 (Below.refl _ _)).2
  have HLV := Lib.hid (leaves_any l0 F T _ w5 (HR0.out w5 (Below.refl _ _)) HFL.out HTL.out)
  clear pm pm1 pm2 pm3 hmn hlc hcm X3 B1 B2 B3
  cases hok : okLs l0 with
  | false =>
    have HK := Lib.hid hok
    clear hok
    go_wp2_with (go_at_call 21; refine HLV.out.mono ?_; rintro e w6 h; obtain ⟨rfl, hb⟩ := lv_a HK.out _ h; have HB6 := Lib.hid hb; clear h hb x1 x2)
    go_ret
    exact ⟨rfl, bch BW.out HB6.out⟩
  | true =>
    have HK := Lib.hid hok
    clear hok
    by_cases hpp : okB F = true ∧ okB T = true
    · have E1 := Lib.hid hpp.1
      have E2 := Lib.hid hpp.2
      clear hpp
      cases hmv : mvLs F T l0 with
      | none =>
        have HMV := Lib.hid hmv
        clear hmv
        go_wp2_with (go_at_call 21; refine HLV.out.mono ?_; rintro e w6 h; obtain ⟨rfl, hb⟩ := lv_c HK.out E1.out E2.out HMV.out _ h; have HB6 := Lib.hid hb; clear h hb x1 x2)
        go_ret
        exact ⟨rfl, bch BW.out HB6.out⟩
      | some m =>
        have HMV := Lib.hid hmv
        have hml := mvLs_len F T hmv
        have HML : Hid (m.length = mm) := Lib.hid (by rw [hml, HL0.out])
        have HLL := Lib.hid hml
        have HKM := Lib.hid (okLs_mv ((okB_iff F).1 E1.out).1 HK.out hmv)
        have EM : Hid (chkLs m = 0) := Lib.hid (by unfold chkLs; rw [HKM.out]; rfl)
        have tmm : ((mm : Int) != (mm : Int)) = false := by simp
        clear hmv hml
        go_upto_region 10 with (first | (go_at_call 21; refine HLV.out.mono ?_; rintro e w6 h; obtain ⟨a8, c8, rfl, ho, hb⟩ := lv_d HK.out E1.out E2.out HMV.out _ h; have HB6 := Lib.hid hb; have HO6 := Lib.hid ho; rw [HML.out] at HO6 ⊢; clear h hb ho x1 x2) | (go_at_call 27; refine (chkls_any m _ _ HO6.out.rd).mono ?_; rintro e w7 ⟨rfl, hb⟩; rw [EM.out]; have HB7 := Lib.hid (bch HB6.out hb); have HO7 := Lib.hid (HO6.out.on hb); clear hb))
        have HRM : Hid (∀ W, Below w7.heap.size w7 W → RdL W (.slice a8 mm c8) m) := Lib.hid (fun W hW => HO7.out.rd.on hW)
        clear tmm
        go_wp2_with fail
        go_loopw [10, 55] (fun pl i W => ∃ (k : Nat) (bb : Bool), k ≤ mm ∧ i = .int .i64 (k : Int) ∧ pl = .bool bb ∧ Hid (bb = true → BackK F T l0 m k) ∧ Hid (Below w7.heap.size w7 W)) (fun _ i _ => mm - (Lib.intOf i).toNat)
        case atStart => exact ⟨0, true, Nat.zero_le _, rfl, rfl, Lib.hid (fun _ j x y h => absurd h (Nat.not_lt_zero _)), Lib.hid (Below.refl _ _)⟩
        case round =>
          obtain ⟨k, bb, hk, rfl, rfl, HBK, HBr⟩ := hrel
          obtain ⟨wq, hwq⟩ : ∃ q, q = wr := ⟨_, rfl⟩
          rw [← hwq] at HBr ⊢
          clear hwq
          by_cases hlt : k < mm
          · obtain ⟨x, hx⟩ : ∃ x, l0[k]? = some x := ⟨_, List.getElem?_eq_getElem (by rw [HL0.out]; exact hlt)⟩
            obtain ⟨y, hyy, hy⟩ := mvLs_at F T HMV.out k x hx
            obtain ⟨o, al, hmo, ho2, rfl⟩ := mvLf_is hyy
            have HRQ := Lib.hid (HRM.out _ HBr.out)
            have HBQ : Hid (Below w5.heap.size w5 wq) := Lib.hid (bch HB7.out HBr.out)
            have HRL := Lib.hid (HR0.out _ HBQ.out)
            obtain ⟨a', c', e, z1, z2, hc⟩ := HRQ.out.open
            rw [HML.out] at e hc
            cases e
            obtain ⟨g, og, rfl, hg, hd⟩ := hc (by omega)
            obtain ⟨q0, q1, q2⟩ := hd k _ hy
            clear z1 z2 hc hd
            obtain ⟨a', c', e, z1, z2, hc⟩ := HRL.out.open
            rw [HL0.out] at e hc
            cases e
            obtain ⟨g0, o0, rfl, hg0, hd0⟩ := hc (by omega)
            have HL3 := Lib.hid (hd0 k x hx)
            have HG0 := Lib.hid hg0
            clear z1 z2 hc hd0 hg0
            have k1 : (k : Int) < (mm : Int) := by omega
            have k2 : (0 : Int) ≤ (k : Int) := by omega
            have k4 : IntKind.i64.wrap ((k : Int) + 1) = (k : Int) + 1 := IntWalk.i64_in _ (by omega)
            obtain ⟨w8, hw8⟩ : ∃ q, q = wq.alloc (.cells #[.string ⟨x.p.toArray⟩, .bool x.dir, .string ⟨o.toArray⟩] 41) := ⟨_, rfl⟩
            have hb8 : Below wq.heap.size wq w8 := by rw [hw8]; exact below_new _ _
            have X8 : Hid (Box w8 wq.heap.size 41 (Lf.arr ⟨x.p, x.dir, o⟩)) := Lib.hid (by rw [hw8]; exact box_new)
            have HB8 : Hid (Below w5.heap.size w5 w8) := Lib.hid (bch HBQ.out hb8)
            have HS8 : Hid (Below w7.heap.size w7 w8) := Lib.hid (bch HBr.out hb8)
            have HXD := Lib.hid (okLs_data HK.out (List.mem_of_getElem? hx))
            have HOB := Lib.hid ho2
            have HX := Lib.hid hx
            have HY := Lib.hid hy
            have HMO := Lib.hid hmo
            have HL8 := Lib.hid (HL3.out.on HG0.out hb8)
            have HG8 : Hid (g0 < w8.heap.size) := Lib.hid (Nat.lt_of_lt_of_le HG0.out hb8.size)
            clear hx hy hyy hmo ho2 hb8 hg
            go_upto_region 14 with fail
            obtain ⟨bq, hbq⟩ : ∃ q, q = wq.heap.size := ⟨_, rfl⟩
            rw [← hbq] at X8 ⊢
            rw [← hw8]
            clear hw8 hbq q0 q1 q2 HL3 HG0 HRQ HRL
            have r2 : w8.cell? ⟨g0, o0 + k * 3 + 2, none⟩ = some (.string ⟨x.d.toArray⟩) := HL8.out.c2
            have x1 := (HXW.out w8 HB8.out).1
            have x2 := (HXW.out w8 HB8.out).2
            have HBW : Hid (∀ w3, Below w8.heap.size w8.drew w3 → Below w8.heap.size w8 w3) := Lib.hid (fun w3 h => bch (below_drewN (Below.refl _ _) 1) h)
            have hS : w8.drew.cell? ⟨g0, o0 + k * 3 + 2, none⟩ = some (.string ⟨x.d.toArray⟩) ∧ w8.drew.cell? ⟨bx, 1, none⟩ = some (.string ⟨F.toArray⟩) ∧ w8.drew.cell? ⟨bx, 2, none⟩ = some (.string ⟨T.toArray⟩) := ⟨r2, x1, x2⟩
            refine wp_region_held_drew (S := fun W => W.cell? ⟨g0, o0 + k * 3 + 2, none⟩ = some (.string ⟨x.d.toArray⟩) ∧ W.cell? ⟨bx, 1, none⟩ = some (.string ⟨F.toArray⟩) ∧ W.cell? ⟨bx, 2, none⟩ = some (.string ⟨T.toArray⟩)) (by kernel_rfl) hS (fun hHeld => ?_)
            clear hS r2 x1 x2
            refine wpAnyH_take (i := 0) (oi := { dst := some 61, op := Op.move (Operand.tmp 0), type := 38, pos := "outright.go:94", after := #[], guard := none }) (v := ?_) rfl (by kernel_rfl) (by kernel_rfl) (by kernel_rfl) (fun _ _ _ h => h) (Or.inl ⟨by rfl, ?_⟩) hHeld ?_
            rotate_left
            · (intro w hSw; go_simp; try with_reducible rfl)
            (try simp only [Act.put, List.setIfInBounds_toArray, List.set_cons_zero, List.set_cons_succ])
            refine wpAnyH_take (i := 1) (oi := { dst := some 62, op := Op.move (Operand.tmp 11), type := 3, pos := "outright.go:94", after := #[], guard := none }) (v := ?_) rfl (by kernel_rfl) (by kernel_rfl) (by kernel_rfl) (fun _ _ _ h => h) (Or.inl ⟨by rfl, ?_⟩) hHeld ?_
            rotate_left
            · (intro w hSw; go_simp; try with_reducible rfl)
            (try simp only [Act.put, List.setIfInBounds_toArray, List.set_cons_zero, List.set_cons_succ])
            refine wpAnyH_take (i := 2) (oi := { dst := some 63, op := Op.indexAddr 38 (Operand.tmp 61) (Operand.tmp 62), type := 0, pos := "outright.go:94", after := #[{ on := 0, ground := Ground.data }, { on := 1, ground := Ground.data }], guard := none }) (v := ?_) rfl (by kernel_rfl) (by kernel_rfl) (by kernel_rfl) (fun _ _ _ h => h) (Or.inl ⟨by rfl, ?_⟩) hHeld ?_
            rotate_left
            · (intro w hSw; go_simp; try with_reducible rfl)
            (try simp only [Act.put, List.setIfInBounds_toArray, List.set_cons_zero, List.set_cons_succ])
            refine wpAnyH_take (i := 3) (oi := { dst := some 64, op := Op.fieldAddr 41 (Operand.tmp 63) 2, type := 0, pos := "outright.go:94", after := #[{ on := 2, ground := Ground.data }], guard := none }) (v := ?_) rfl (by kernel_rfl) (by kernel_rfl) (by kernel_rfl) (fun _ _ _ h => h) (Or.inl ⟨by rfl, ?_⟩) hHeld ?_
            rotate_left
            · (intro w hSw; go_simp; try with_reducible rfl)
            (try simp only [Act.put, List.setIfInBounds_toArray, List.set_cons_zero, List.set_cons_succ])
            refine wpAnyH_take (i := 4) (oi := { dst := some 65, op := Op.load 9 (Operand.tmp 64), type := 9, pos := "outright.go:94", after := #[{ on := 3, ground := Ground.data }], guard := none }) (v := ?_) rfl (by kernel_rfl) (by kernel_rfl) (by kernel_rfl) (fun _ _ _ h => h) (Or.inl ⟨by rfl, ?_⟩) hHeld ?_
            rotate_left
            · (intro w hSw; have p0 := hSw.1; go_simp; try with_reducible rfl)
            (try simp only [Act.put, List.setIfInBounds_toArray, List.set_cons_zero, List.set_cons_succ])
            refine wpAnyH_take (i := 5) (oi := { dst := some 66, op := Op.fieldAddr 25 (Operand.tmp 7) 1, type := 0, pos := "outright.go:94", after := #[], guard := none }) (v := ?_) rfl (by kernel_rfl) (by kernel_rfl) (by kernel_rfl) (fun _ _ _ h => h) (Or.inl ⟨by rfl, ?_⟩) hHeld ?_
            rotate_left
            · (intro w hSw; go_simp; try with_reducible rfl)
            (try simp only [Act.put, List.setIfInBounds_toArray, List.set_cons_zero, List.set_cons_succ])
            refine wpAnyH_take (i := 6) (oi := { dst := some 67, op := Op.load 9 (Operand.tmp 66), type := 9, pos := "outright.go:94", after := #[{ on := 5, ground := Ground.data }], guard := none }) (v := ?_) rfl (by kernel_rfl) (by kernel_rfl) (by kernel_rfl) (fun _ _ _ h => h) (Or.inl ⟨by rfl, ?_⟩) hHeld ?_
            rotate_left
            · (intro w hSw; have p0 := hSw.2.1; go_simp; try with_reducible rfl)
            (try simp only [Act.put, List.setIfInBounds_toArray, List.set_cons_zero, List.set_cons_succ])
            refine wpAnyH_take (i := 7) (oi := { dst := some 68, op := Op.fieldAddr 25 (Operand.tmp 7) 2, type := 0, pos := "outright.go:94", after := #[], guard := none }) (v := ?_) rfl (by kernel_rfl) (by kernel_rfl) (by kernel_rfl) (fun _ _ _ h => h) (Or.inl ⟨by rfl, ?_⟩) hHeld ?_
            rotate_left
            · (intro w hSw; go_simp; try with_reducible rfl)
            (try simp only [Act.put, List.setIfInBounds_toArray, List.set_cons_zero, List.set_cons_succ])
            refine wpAnyH_take (i := 8) (oi := { dst := some 69, op := Op.load 9 (Operand.tmp 68), type := 9, pos := "outright.go:94", after := #[{ on := 7, ground := Ground.data }], guard := none }) (v := ?_) rfl (by kernel_rfl) (by kernel_rfl) (by kernel_rfl) (fun _ _ _ h => h) (Or.inl ⟨by rfl, ?_⟩) hHeld ?_
            rotate_left
            · (intro w hSw; have p0 := hSw.2.2; go_simp; try with_reducible rfl)
            (try simp only [Act.put, List.setIfInBounds_toArray, List.set_cons_zero, List.set_cons_succ])
            refine wpAnyH_ready (rs := [9]) (by kernel_rfl) (by simp) (AllReadyH.cons (o := { dst := some 70, op := Op.call { callee := Callee.value (Operand.func 18), args := #[Operand.tmp 65, Operand.tmp 67, Operand.tmp 69], argTypes := #[9, 9, 9] }, type := 34, pos := "outright.go:94", after := #[{ on := 4, ground := Ground.data }, { on := 6, ground := Ground.data }, { on := 8, ground := Ground.data }], guard := none }) rfl (fun K hK => ?_) AllReadyH.nil)
            · go_simp
              go_wp2_with (go_at_call 18; refine (move_some _ _ _ (by have := HXD.out; omega) (by have := HFL.out; omega) (by have := HTL.out; omega) E1.out E2.out HMO.out _).mono ?_; rintro e w9 ⟨a14, c14, rfl, ho, hb⟩)
              have HB9 := Lib.hid (HBW.out _ hb)
              have HO9 := Lib.hid ho
              clear ho hb
              refine hK.out _ _ ⟨(HL8.out.on HG8.out HB9.out).c2, (HXW.out w9 (bch HB8.out HB9.out)).1, (HXW.out w9 (bch HB8.out HB9.out)).2⟩ (fun hHeld => ?_)
              clear hK K
              (try simp only [Act.put, List.setIfInBounds_toArray, List.set_cons_zero, List.set_cons_succ])
              refine wpAnyH_take (i := 10) (oi := { dst := some 60, op := Op.move (Operand.tmp 70), type := 34, pos := "outright.go:94", after := #[{ on := 9, ground := Ground.data }], guard := none }) (v := ?_) rfl (by kernel_rfl) (by kernel_rfl) (by kernel_rfl) (fun _ _ _ h => h) (Or.inl ⟨by rfl, ?_⟩) hHeld ?_
              rotate_left
              · (intro w hSw; go_simp; try with_reducible rfl)
              (try simp only [Act.put, List.setIfInBounds_toArray, List.set_cons_zero, List.set_cons_succ])
              refine wpAnyH_take (i := 11) (oi := { dst := some 71, op := Op.extract (Operand.tmp 60) 0, type := 9, pos := "outright.go:94", after := #[{ on := 10, ground := Ground.data }], guard := none }) (v := ?_) rfl (by kernel_rfl) (by kernel_rfl) (by kernel_rfl) (fun _ _ _ h => h) (Or.inl ⟨by rfl, ?_⟩) hHeld ?_
              rotate_left
              · (intro w hSw; go_simp; try with_reducible rfl)
              (try simp only [Act.put, List.setIfInBounds_toArray, List.set_cons_zero, List.set_cons_succ])
              refine wpAnyH_take (i := 12) (oi := { dst := some 72, op := Op.extract (Operand.tmp 60) 1, type := 27, pos := "outright.go:94", after := #[{ on := 10, ground := Ground.data }, { on := 14, ground := Ground.gcOnly Departure.lateStores }], guard := none }) (v := ?_) rfl (by kernel_rfl) (by kernel_rfl) (by kernel_rfl) (fun _ _ _ h => h) (Or.inl ⟨by rfl, ?_⟩) hHeld ?_
              rotate_left
              · (intro w hSw; go_simp; try with_reducible rfl)
              (try simp only [Act.put, List.setIfInBounds_toArray, List.set_cons_zero, List.set_cons_succ])
              refine wpAnyH_take (i := 13) (oi := { dst := some 73, op := Op.extract (Operand.tmp 60) 2, type := 30, pos := "outright.go:94", after := #[{ on := 10, ground := Ground.data }, { on := 15, ground := Ground.gcOnly Departure.lateStores }], guard := none }) (v := ?_) rfl (by kernel_rfl) (by kernel_rfl) (by kernel_rfl) (fun _ _ _ h => h) (Or.inl ⟨by rfl, ?_⟩) hHeld ?_
              rotate_left
              · (intro w hSw; go_simp; try with_reducible rfl)
              (try simp only [Act.put, List.setIfInBounds_toArray, List.set_cons_zero, List.set_cons_succ])
              refine wpAnyH_take (i := 14) (oi := { dst := some 13, op := Op.assign (Operand.tmp 71), type := 9, pos := "outright.go:94", after := #[{ on := 11, ground := Ground.data }, { on := 9, ground := Ground.chain }, { on := 0, ground := Ground.phase }, { on := 1, ground := Ground.phase }, { on := 2, ground := Ground.phase }, { on := 3, ground := Ground.phase }, { on := 4, ground := Ground.phase }, { on := 5, ground := Ground.phase }, { on := 6, ground := Ground.phase }, { on := 7, ground := Ground.phase }, { on := 8, ground := Ground.phase }, { on := 9, ground := Ground.phase }, { on := 10, ground := Ground.phase }, { on := 11, ground := Ground.phase }, { on := 12, ground := Ground.textOnly Departure.lateStores }, { on := 13, ground := Ground.textOnly Departure.lateStores }], guard := none }) (v := ?_) rfl (by kernel_rfl) (by kernel_rfl) (by kernel_rfl) (fun _ _ _ h => h) (Or.inl ⟨by rfl, ?_⟩) hHeld ?_
              rotate_left
              · (intro w hSw; go_simp; try with_reducible rfl)
              (try simp only [Act.put, List.setIfInBounds_toArray, List.set_cons_zero, List.set_cons_succ])
              refine wpAnyH_take (i := 15) (oi := { dst := some 14, op := Op.assign (Operand.tmp 72), type := 27, pos := "outright.go:94", after := #[{ on := 12, ground := Ground.data }, { on := 14, ground := Ground.chain }, { on := 0, ground := Ground.phase }, { on := 1, ground := Ground.phase }, { on := 2, ground := Ground.phase }, { on := 3, ground := Ground.phase }, { on := 4, ground := Ground.phase }, { on := 5, ground := Ground.phase }, { on := 6, ground := Ground.phase }, { on := 7, ground := Ground.phase }, { on := 8, ground := Ground.phase }, { on := 9, ground := Ground.phase }, { on := 10, ground := Ground.phase }, { on := 11, ground := Ground.phase }, { on := 12, ground := Ground.phase }, { on := 13, ground := Ground.textOnly Departure.lateStores }, { on := 14, ground := Ground.phase }], guard := none }) (v := ?_) rfl (by kernel_rfl) (by kernel_rfl) (by kernel_rfl) (fun _ _ _ h => h) (Or.inl ⟨by rfl, ?_⟩) hHeld ?_
              rotate_left
              · (intro w hSw; go_simp; try with_reducible rfl)
              (try simp only [Act.put, List.setIfInBounds_toArray, List.set_cons_zero, List.set_cons_succ])
              refine wpAnyH_take (i := 16) (oi := { dst := some 15, op := Op.assign (Operand.tmp 73), type := 30, pos := "outright.go:94", after := #[{ on := 13, ground := Ground.data }, { on := 15, ground := Ground.chain }, { on := 0, ground := Ground.phase }, { on := 1, ground := Ground.phase }, { on := 2, ground := Ground.phase }, { on := 3, ground := Ground.phase }, { on := 4, ground := Ground.phase }, { on := 5, ground := Ground.phase }, { on := 6, ground := Ground.phase }, { on := 7, ground := Ground.phase }, { on := 8, ground := Ground.phase }, { on := 9, ground := Ground.phase }, { on := 10, ground := Ground.phase }, { on := 11, ground := Ground.phase }, { on := 12, ground := Ground.phase }, { on := 13, ground := Ground.phase }, { on := 14, ground := Ground.phase }, { on := 15, ground := Ground.phase }], guard := none }) (v := ?_) rfl (by kernel_rfl) (by kernel_rfl) (by kernel_rfl) (fun _ _ _ h => h) (Or.inl ⟨by rfl, ?_⟩) hHeld ?_
              rotate_left
              · (intro w hSw; go_simp; try with_reducible rfl)
              (try simp only [Act.put, List.setIfInBounds_toArray, List.set_cons_zero, List.set_cons_succ])
              refine wpAnyH_done (by kernel_rfl) ?_ _
              go_upto_region 15 with fail
              have XB9 := Lib.hid (X8.out.on HB9.out)
              have e0 : w9.cell? ⟨bq, 0, none⟩ = some (.string ⟨x.p.toArray⟩) := XB9.out.cell (k := 0) rfl
              have e1 : w9.cell? ⟨bq, 1, none⟩ = some (.bool x.dir) := XB9.out.cell (k := 1) rfl
              have e2 : w9.cell? ⟨bq, 2, none⟩ = some (.string ⟨o.toArray⟩) := XB9.out.cell (k := 2) rfl
              have HL9 := Lib.hid (HL8.out.on HG8.out HB9.out)
              have q0 : w9.cell? ⟨g0, o0 + k * 3, none⟩ = some (.string ⟨x.p.toArray⟩) := HL9.out.c0
              have q1 : w9.cell? ⟨g0, o0 + k * 3 + 1, none⟩ = some (.bool x.dir) := HL9.out.c1
              have hne := lneq41 ⟨x.p, x.dir, o⟩ ⟨x.p, x.dir, o⟩ false (by simp)
              have hgd := lguard41
              have hbl := built41 ⟨x.p.toArray⟩ ⟨o.toArray⟩ x.dir
              obtain ⟨na, hna⟩ : ∃ na, na = al.length := ⟨_, rfl⟩
              have HNA := Lib.hid hna
              rw [← hna] at HO9 ⊢
              clear hna
              go_region
              go_upto_region 17 with fail
              obtain ⟨wd, hwd⟩ : ∃ q, q = w9.drew := ⟨_, rfl⟩
              have HBd : Hid (Below w8.heap.size w8 wd) := Lib.hid (by rw [hwd]; exact below_drewN HB9.out 1)
              have HOd : Hid (Rd wd (.slice a14 na c14) (natsV al)) := Lib.hid (by rw [hwd]; exact Rd.of_own HO9.out)
              rw [← hwd]
              clear hwd e0 e1 e2 q0 q1 hne hgd hbl
              cases bb with
              | false =>
                go_wp2
                go_roundw
                case rel => exact ⟨k + 1, false, hlt, by go_num, rfl, Lib.hid (fun h => by cases h), Lib.hid (HS8.out.trans (HBd.out.mono HS8.out.size))⟩
                case measure => simp [Lib.intOf]; omega
              | true =>
                have HBDW : Hid (Below w5.heap.size w5 wd) := Lib.hid (bch HB8.out HBd.out)
                have x2 := (HXW.out wd HBDW.out).2
                have HRC : Hid (Calls Tryd.prog 26 #[.string ⟨o.toArray⟩, .string ⟨T.toArray⟩] wd fun e w' => ∃ a c, e = .returned (.slice a (lrunsL T o).length c) ∧ Rd w' (.slice a (lrunsL T o).length c) (natsV (lrunsL T o)) ∧ Below wd.heap.size wd w') := Lib.hid ((lruns_any o T E2.out (by have := HOB.out; omega) m0 wd (HMX.out wd HBDW.out)).mono (by
                  rintro e w' ⟨v9, rfl, ho, hb⟩
                  obtain ⟨a, c, rfl⟩ := own_slice ho
                  exact ⟨a, c, rfl, Rd.of_own ho, hb⟩))
                obtain ⟨L, hL⟩ : ∃ L, L = lrunsL T o := ⟨_, rfl⟩
                have HL := Lib.hid hL
                rw [← hL] at HRC
                clear hL
                obtain ⟨nL, hnL⟩ : ∃ nL, nL = L.length := ⟨_, rfl⟩
                rw [← hnL] at HRC
                clear hnL
                obtain ⟨q, hq⟩ : ∃ q, q = eqB L al := ⟨_, rfl⟩
                have HBN : Hid (q = true → BackK F T l0 m (k + 1)) := Lib.hid (fun h => BackK.next (HBK.out rfl) HX.out HY.out (mvLf_back E2.out HMO.out (by
                  rw [← lruns_is T o ((okB_iff T).1 E2.out).1, ← HL.out]
                  rw [hq] at h
                  exact of_decide_eq_true h) HXD.out))
                have HEQ : Hid (∀ (W : World) (v1 v2 : Value), Rd W v1 (natsV L) → Rd W v2 (natsV al) → Calls Tryd.prog 16 #[v1, v2] W fun e w' => e = .returned (.bool q) ∧ Below W.heap.size W w') := Lib.hid (fun W v1 v2 h1 h2 => by rw [hq]; exact eqn_any L al v1 v2 W h1 h2)
                have HSD : Hid (Below w7.heap.size w7 wd) := Lib.hid (HS8.out.trans (HBd.out.mono HS8.out.size))
                clear hq
                go_wp2_with (first
                  | (go_at_call 26; refine HRC.out.mono ?_; rintro e w10 ⟨a9, c9, rfl, hr7, hb⟩; have HB10 := Lib.hid hb; have HR7 := Lib.hid hr7; clear hb hr7)
                  | (go_at_call 16; refine (HEQ.out _ _ _ HR7.out (Rd.on HOd.out HB10.out)).mono ?_; rintro e w11 ⟨rfl, hb⟩; have HB11 := Lib.hid (bch (bch HSD.out HB10.out) hb); clear hb))
                go_roundw
                case rel => exact ⟨k + 1, q, hlt, by go_num, rfl, HBN, HB11⟩
                case measure => simp [Lib.intOf]; omega
          · have k1 : ¬ ((k : Int) < (mm : Int)) := by omega
            obtain rfl : k = mm := by omega
            have HBQ : Hid (Below w5.heap.size w5 wq) := Lib.hid (bch HB7.out HBr.out)
            have x1 := (HXW.out wq HBQ.out).1
            have x2 := (HXW.out wq HBQ.out).2
            have HLQ := Lib.hid (leaves_any m T F _ wq (HRM.out _ HBr.out) HTL.out HFL.out)
            cases bb with
            | true =>
              have HMB : Hid (mvLs T F m = some l0) := Lib.hid (BackK.done HLL.out (by rw [HML.out]; exact HBK.out rfl))
              go_wp2_with (first
                | (go_at_call 21; refine HLQ.out.mono ?_; rintro e w8 h; obtain ⟨a16, c16, rfl, ho, hb⟩ := lv_d HKM.out E2.out E1.out HMB.out _ h; have HB8 := Lib.hid (bch HBQ.out hb); have HO8 := Lib.hid ho; rw [HL0.out] at HO8 ⊢; clear h hb ho x1 x2)
                | (go_at_call 24; refine (lequal_self l0 _ _ _ HO8.out.rd (HR0.out _ HB8.out)).mono ?_; rintro e w9 ⟨rfl, hb⟩; have HB9 := Lib.hid (bch HB8.out hb); clear hb))
              go_ret
              exact ⟨rfl, bch BW.out HB9.out⟩
            | false =>
              cases hmb : mvLs T F m with
              | none =>
                have HMB := Lib.hid hmb
                clear hmb
                go_wp2_with (go_at_call 21; refine HLQ.out.mono ?_; rintro e w8 h; obtain ⟨rfl, hb⟩ := lv_c HKM.out E2.out E1.out HMB.out _ h; have HB8 := Lib.hid (bch HBQ.out hb); clear h hb x1 x2)
                go_ret
                exact ⟨rfl, bch BW.out HB8.out⟩
              | some m2 =>
                have HMB := Lib.hid hmb
                clear hmb
                go_wp2_with (go_at_call 21; refine HLQ.out.mono ?_; rintro e w8 h; obtain ⟨a16, c16, rfl, ho, hb⟩ := lv_d HKM.out E2.out E1.out HMB.out _ h; have HB8 := Lib.hid (bch HBQ.out hb); clear h hb ho x1 x2)
                go_ret
                exact ⟨rfl, bch BW.out HB8.out⟩
    · have HNO := Lib.hid hpp
      clear hpp
      go_wp2_with (go_at_call 21; refine HLV.out.mono ?_; rintro e w6 h; obtain ⟨rfl, hb⟩ := lv_b HK.out HNO.out _ h; have HB6 := Lib.hid hb; clear h hb x1 x2)
      go_ret
      exact ⟨rfl, bch BW.out HB6.out⟩
end Go.Proofs.YtophihnjlodmjaaDoor

namespace Go.Proofs.YtophihnjlodmjaaDoor
open Go.ChangeShapes Go.WideShapes Go.ChangeAt Go.RowKit Go.Joins
open Go.ChangeMaps (open_string shut_string)

theorem cells41 : Tryd.prog.cellsOf 41 = 3 := by kernel_rfl
theorem cells4 : Tryd.prog.cellsOf 4 = 1 := by kernel_rfl
theorem max_cell {W : World} (h : W.ShapedOpen Tryd.prog) : ∃ m, W.cell? ⟨0, 0, none⟩ = some (.int .i64 m) :=
  Go.Proofs.cell_of_shapedOpen_int (zero := #[.int .i64 0]) (t := 3) h (of_decide_eq_true (by kernel_rfl)) (by kernel_rfl) rfl (by kernel_rfl) (by kernel_rfl) Tryd.underlying3
theorem cell_lt {W : World} {v : Value} {g : Nat} (h : W.cell? ⟨g, 0, none⟩ = some v) : g < W.heap.size := by
  rcases Nat.lt_or_ge g W.heap.size with h1 | h1
  · exact h1
  · have : W.heap[g]? = none := Array.getElem?_eq_none h1
    simp [World.cell?, this] at h
theorem ba_toArray (s : ByteArray) : (⟨s.data.toList.toArray⟩ : ByteArray) = s := by cases s; rfl
set_option maxRecDepth 100000 in
/-- A leaf's cells, and its datum. -/
theorem lf_of {H : Type} {enc : TypeId × Value → H} {W : World} {base fuel : Nat} {hd : Bool} {cs : List Value} {d : DataW H} {p : List MemPlace} (h : DataW.trod enc Tryd.prog W base (fun _ => true) hd fuel 41 cs = some (d, p)) :
    ∃ b : Lf, cs = b.cells ∧ d = .agg [.lit (.string b.p), .lit (.bool b.dir), .lit (.string b.d)] := by
  obtain ⟨y0, y1, y2, n, hx, hl, t0, t1, t2⟩ := Go.Deep.trod_struct3 Tryd.underlying41 h
  rw [cells41] at hl
  rw [cells9] at t0 t2
  rw [cells4] at t1
  obtain ⟨s, e0, hy0, _⟩ := DataW.trod_string Tryd.underlying9 t0
  obtain ⟨m, e1, hy1⟩ := DataW.trod_bool Tryd.underlying4 t1
  obtain ⟨z, e2, hy2, _⟩ := DataW.trod_string Tryd.underlying9 t2
  obtain ⟨q0, q1, q2, rfl⟩ := list3 hl
  simp at e0 e1 e2
  simp only [Prod.mk.injEq] at hx
  refine ⟨⟨s.data.toList, m, z.data.toList⟩, ?_, ?_⟩
  · rw [e0, e1, e2]
    show _ = [Value.string ⟨s.data.toList.toArray⟩, _, Value.string ⟨z.data.toList.toArray⟩]
    rw [ba_toArray, ba_toArray]
  · rw [hx.1, hy0, hy1, hy2]
theorem weights_all {H : Type} {P : Program} {e : TypeId} {d : DataW H} : ∀ {l : List (DataW H)}, d ∈ l → ∀ n ∈ d.weights P e, n ∈ DataW.weightsAll P e l
  | d0 :: l, h, n, hn => by
    simp only [DataW.weightsAll, List.mem_append]
    rcases List.mem_cons.1 h with rfl | h
    · exact .inl hn
    · exact .inr (weights_all h n hn)
  | [], h, _, _ => by cases h
theorem bulk_part {H : Type} {d : DataW H} {l : List (DataW H)} (h : d ∈ l) : Rows.uptoBulk d ≤ Rows.uptoBulkAll l := by
  induction l with
  | nil => cases h
  | cons x r ih =>
    simp only [Rows.uptoBulkAll]
    rcases List.mem_cons.1 h with rfl | h
    · omega
    · have := ih h; omega
set_option maxRecDepth 100000 in
/-- An argument that is a slice of leaves. -/
theorem argL_of {H : Type} {enc : TypeId × Value → H} {W : World} {base fuel : Nat} {hd : Bool} {v : Value} {d : DataW H} {p : List MemPlace}
    (hf : DataW.trod enc Tryd.prog W base (fun _ => true) hd fuel 38 [v] = some (d, p)) (hlt : ∀ x ∈ p, x.block < W.heap.size) : ∃ l, RdL W v l ∧ ∀ x ∈ l, x.p.length ∈ d.weights Tryd.prog 38 ∧ x.p.length ≤ Rows.uptoBulk d := by
  rcases Go.Deep.open_slice Tryd.underlying38 hf with ⟨hcs, _⟩ | ⟨a, len, cap, m, n, D, Pl, hcs, _, hl, hm, hmm, hx, hi⟩
  · simp at hcs
    subst hcs
    exact ⟨[], RdX.nil W, fun x hx => by cases hx⟩
  · simp at hcs
    subst hcs
    simp only [if_true] at hmm
    subst hmm
    simp only [Prod.mk.injEq] at hx
    obtain ⟨hd0, rfl⟩ := hx
    have key : ∀ i : Nat, ∃ b : Lf, i < m → (∀ (j : Nat), j < 3 → W.cell? ((a.add (i * 3)).add j) = b.cells[j]?) ∧ D i = .agg [.lit (.string b.p), .lit (.bool b.dir), .lit (.string b.d)] := by
      intro i
      by_cases him : i < m
      · obtain ⟨cs', hc, ht⟩ := hi i him
        rw [cells41] at hc
        obtain ⟨_, hcl, hat⟩ := World.cells?_some hc
        obtain ⟨b, rfl, hD⟩ := lf_of ht
        exact ⟨b, fun _ => ⟨fun j hj => hat j (by omega), hD⟩⟩
      · exact ⟨Lf.nil, fun h => absurd h him⟩
    obtain ⟨F, hF⟩ := Classical.axiomOfChoice key
    refine ⟨(List.range len).map F, ⟨some a, m, by simp, by simpa using hl, hm, fun h0 => ?_⟩, fun x hx => ?_⟩
    · have h0' : 0 < len := by simpa using h0
      obtain ⟨g, o, spot⟩ := a
      have hspot : spot = none := by
        have e := (hF 0 (by omega)).1 0 (by omega)
        have := World.cell?_spot (v := .string ⟨(F 0).p.toArray⟩) (e.trans rfl)
        simpa [Addr.add] using this
      subst hspot
      refine ⟨g, o, rfl, hlt (.cell g o) (List.mem_append_left _ (MemPlace.mem_row.2 ⟨0, by rw [cells41]; omega, by simp⟩)), fun j u hu => ?_⟩
      obtain ⟨q, r, hr, rfl⟩ : ∃ q r, r < 3 ∧ j = q * 3 + r := ⟨j / 3, j % 3, by omega, by omega⟩
      rw [flat3L _ q r hr, List.getElem?_map] at hu
      obtain ⟨b, hb, hbu⟩ := Option.bind_eq_some_iff.1 hu
      obtain ⟨i, hi1, rfl⟩ := Option.map_eq_some_iff.1 hb
      have hql : q < len := by simpa using (List.getElem?_eq_some_iff.1 hi1).1
      have e : i = q := by
        have := (List.getElem?_eq_some_iff.1 hi1).2
        simpa using this.symm
      subst e
      have hk := (hF i (by omega)).1 r hr
      rw [addr_add, addr_add, Nat.add_assoc] at hk
      rw [hk]
      exact hbu
    · obtain ⟨i, hi1, rfl⟩ := List.mem_map.1 hx
      have hil : i < len := List.mem_range.1 hi1
      have hD := (hF i (by omega)).2
      refine ⟨?_, ?_⟩
      rotate_left
      · have h1 := bulk_part (d := D i) (List.mem_map.2 ⟨i, hi1, rfl⟩ : D i ∈ (List.range len).map D)
        rw [hD] at h1
        rw [hd0]
        simp only [Rows.uptoBulk, Rows.uptoBulkAll] at h1 ⊢
        omega
      rw [hd0]
      simp only [DataW.weights, Tryd.underlying38, List.mem_cons, List.mem_append]
      refine .inr (.inl (weights_all (d := D i) (List.mem_map.2 ⟨i, hi1, rfl⟩) _ ?_))
      rw [hD]
      simp [DataW.weights, Tryd.underlying41, DataW.weightsEach]
end Go.Proofs.YtophihnjlodmjaaDoor

namespace Go.Proofs.YtophihnjlodmjaaDoor.RelocKegP
open Go.ChangeShapes Go.WideShapes Go.ChangeAt Go.RowKit Go.Joins Go.Deep
open Go.ChangeMaps (open_string shut_string)

theorem met (os : Os) : laidMet Tryd.prog Rows.relocKegRow.laid ((laidWorld os).forCall (fun _ _ => 0) ⟨#[], #[.slice none 0 0, .string ByteArray.empty, .string ByteArray.empty], []⟩).memory :=
  laid_met os _
theorem reads (os : Os) {H : Type} (enc : TypeId × Value → H) : ∃ places, DataW.whole enc Tryd.prog ((laidWorld os).forCall (fun _ _ => 0) ⟨#[], #[.slice none 0 0, .string ByteArray.empty, .string ByteArray.empty], []⟩).memory Tryd.f8.params.toList Rows.relocKegSpec.vars false #[Value.slice none 0 0, .string ByteArray.empty, .string ByteArray.empty].toList 8 = some ([.nil, .lit (.string []), .lit (.string [])], [], places) :=
  ⟨[], by kernel_rfl⟩

set_option maxRecDepth 100000 in
theorem lifted (os : Os) (started : os.Started) (H : Type) (enc : TypeId × Value → H) (F : Stop.Interp) :
    ReturnsInHanded {} Tryd.checked os 8 .any ((OpenSpec.ofChange Rows.relocKegSpec).preRow enc Tryd.prog Tryd.f8 Rows.relocKegRow.domain false Rows.relocKegRow.laid) (((OpenSpec.ofChange Rows.relocKegSpec).at F).post enc Tryd.prog Tryd.f8 false true false false) := by
  obtain ⟨places, hx⟩ := reads os enc
  refine returnsInHanded_of_row (C := Tryd.checked) (s := OpenSpec.ofChange Rows.relocKegSpec) own0 started (by kernel_rfl) Tryd.func8
    (witness_row_at (enc := enc) (C := Tryd.checked) false (laidWorld os) #[.slice none 0 0, .string ByteArray.empty, .string ByteArray.empty] rfl (by kernel_rfl) (by kernel_rfl) (by kernel_rfl)
      (OpenSpec.preRow_of_cond 8 hx (by kernel_rfl) (fun k hk => by cases hk) (by kernel_rfl) (met os))) ?_
  intro W base args ds gs before hval0 hW _ _ _ _ hsh _
  have hval : ∀ (j : Nat) t v, Tryd.f8.params[j]? = some t → args[j]? = some v → Value.okWide Tryd.prog W .any base t v := hval0
  have hW' := hW
  obtain ⟨p, q, hA0, hV, rfl, hfz, hnd⟩ := hW
  have hA : DataW.TrodAll enc Tryd.prog W 0 (fun _ => true) true Tryd.f8.params.toList args.toList ds p := hA0
  rw [Tryd.params8] at hA hval
  obtain ⟨v0, vs0, d0, ds0, p0, q0, hargs, rfl, rfl, h0, r0⟩ := trodAll_cons hA
  obtain ⟨v1, vs1, d1, ds1, p1, q1, rfl, rfl, rfl, h1, r1⟩ := trodAll_cons r0
  obtain ⟨v2, vs2, d2, ds2, p2, q2, rfl, rfl, rfl, h2, r2⟩ := trodAll_cons r1
  obtain ⟨rfl, rfl, rfl⟩ := trodAll_nil r2
  obtain rfl : args = #[v0, v1, v2] := by cases args; simp_all
  obtain ⟨rfl, rfl⟩ := trodVars_none hV
  obtain ⟨a0, n0, c0, rfl⟩ := okWide_slice Tryd.underlying38 (hval 0 38 v0 rfl rfl)
  obtain ⟨a1, rfl, rfl, rfl, w1⟩ := open_string Tryd.underlying9 (hval 1 9 v1 rfl rfl) h1
  obtain ⟨a2, rfl, rfl, rfl, w2⟩ := open_string Tryd.underlying9 (hval 2 9 v2 rfl rfl) h2
  have h0k := h0
  obtain ⟨fuel0, hf0⟩ := h0
  clear hA0 hval0
  simp only [List.append_nil] at hW'
  have hlt0 : ∀ x ∈ p0, x.block < W.heap.size := fun x hx => by simpa using hW'.lt x (by simp [hx])
  obtain ⟨l0, hr0, hw0'⟩ := argL_of (by simpa [Value.cells] using hf0) hlt0
  obtain ⟨m, hm⟩ := max_cell hsh
  have hm0 : 0 < W.heap.size := cell_lt hm
  have key : Calls Tryd.prog 8 #[.slice a0 n0 c0, .string a1, .string a2] W fun e w' => e = .returned (.bool true) ∧ Below W.heap.size W w' := by
    have := lkeg_law l0 a1.data.toList a2.data.toList _ W hr0 m hm hm0
    rw [← bytes_list a1, ← bytes_list a2] at this
    exact this
  refine key.mono fun e W' ⟨he, hb⟩ => ?_
  subst he
  exact ⟨_, rfl, _, _, _, [], _, [], hW', (trodAll_cons_mk (shut_bool Tryd.underlying4 _) trodAll_mk0), (trodAll_cons_mk (Below.trod laidOut (by kernel_rfl) (of_decide_eq_true (by kernel_rfl)) h0k hb hlt0) (trodAll_cons_mk (shut_string Tryd.underlying9 w1) (trodAll_cons_mk (shut_string Tryd.underlying9 w2) trodAll_mk0))), rfl, hb.frame _, fun h => by cases h⟩

theorem said : Rows.RelocKegSaid :=
  OpenClaim.holds_of_cond 8 Tryd.f8 rfl rfl rfl rfl rfl rfl rfl ⟨rfl, rfl, rfl, rfl, rfl⟩ rfl rfl rfl rfl rfl (by kernel_rfl) Tryd.func8 (by kernel_rfl)
    (of_decide_eq_true (by kernel_rfl)) (by unfold Func.isWrapper; first | (rw [if_pos (by decide +kernel)]; kernel_rfl) | (rw [if_neg (by decide +kernel)]; exact ⟨rfl, rfl⟩))
    (fun os started H enc _ F => by rw [OpenClaim.pre_eq_preRow]; exact lifted os started H enc F)

/-- No parameter wants a stand-in; the program's own looks are off: what the card asks. -/
theorem plain (f : FuncId) (fn : Func) (hf : Tryd.pinned.checked.prog.funcNamed "puncheon/puncheonlaw14.RelocKeg" = some f) (hfn : Tryd.pinned.checked.prog.funcs[f]? = some fn) :
    false = Tryd.pinned.checked.prog.looks [] ∧ ∀ (j : Nat) t, fn.params[j]? = some t → Tryd.pinned.checked.prog.wantsStandIn t = false := by
  obtain rfl : f = 8 := Option.some.inj ((show Tryd.prog.funcNamed "puncheon/puncheonlaw14.RelocKeg" = some 8 by kernel_rfl).symm.trans hf) |>.symm
  obtain rfl : fn = Tryd.f8 := (Option.some.inj (Tryd.func8.symm.trans hfn)).symm
  refine ⟨by kernel_rfl, fun j t ht => ?_⟩
  rw [Tryd.params8] at ht
  have hm : t ∈ [38, 9, 9] := by simpa using Array.mem_of_getElem? ht
  have hall : ([38, 9, 9].all fun u => !Tryd.prog.wantsStandIn u) = true := by kernel_rfl
  exact (show Tryd.prog.wantsStandIn t = false by simpa using List.all_eq_true.1 hall t hm)
end Go.Proofs.YtophihnjlodmjaaDoor.RelocKegP
namespace Go.Proofs.YtophihnjlodmjaaDoor
theorem relocKeg_card : Rows.RelocKegCardSaid :=
  Claim7.holds_tied_plain_at .later [] _ _ _ _ RelocKegP.said (fun _ h => by cases h) (by kernel_rfl) (fun _ h => by cases h) relocKeg_row_tie rfl ⟨rfl, rfl⟩ (by kernel_rfl) rfl RelocKegP.plain (by kernel_rfl)
#print axioms relocKeg_card
end Go.Proofs.YtophihnjlodmjaaDoor
