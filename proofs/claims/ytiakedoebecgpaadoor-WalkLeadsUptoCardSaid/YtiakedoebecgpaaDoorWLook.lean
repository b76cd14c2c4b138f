/- Proved here: Lookup of package walk: which directory leads on first. -/
import Derived.Test.YtiakedoebecgpaaDoorWWalk
import Derived.Test.YtiakedoebecgpaaDoorRefC
namespace Go.Proofs.YtiakedoebecgpaaDoor
open Go.RowKit Go.Shelf

def lookF (l : List It) (s : Str) : List Str → Nat → Except Int (Nat × It)
  | [], _ => .error 4
  | d :: ds, k => match leadM l d s true with
    | .ok r => .ok (k, r.1)
    | .error _ => lookF l s ds (k + 1)
def lookM (l : List It) (ds : List Str) (s : Str) : Except Int (Nat × It) :=
  if validT l = false then .error 160 else if 2000 < s.length then .error 3 else lookF l s ds 0
/-- Place, item and error's number. -/
def placeL : Except Int (Nat × It) → Int
  | .ok r => r.1
  | .error z => if z = 4 then -1 else 0
theorem placeL_err {z : Int} (h : z ≠ 4) : placeL (.error z) = 0 := if_neg h
def itL : Except Int (Nat × It) → It
  | .ok r => r.2
  | .error _ => .nil
def errL : Except Int (Nat × It) → Int
  | .ok _ => 0
  | .error z => z
def LookR (R : Except Int (Nat × It)) (w : World) (e : Ending) (w' : World) : Prop :=
  e = .returned (.tuple #[.int .i64 (placeL R), .agg (itL R).arr, .int .i64 (errL R)]) ∧ Below w.heap.size w w'

theorem results_mid {P : Program} {fn : Func} {p q r : Tmp} {ty : TypeId} (h : fn.results = #[.tmp p, .cell q ty, .tmp r]) (tmps : Array Value) (w : World) (g : Nat) (hp : tmps.getD q undef = .pointer (some ⟨g, 0, none⟩)) (cs : Array Value) (hr : (loadVar ty ⟨g, 0, none⟩).run P w = .ok (.agg cs) w) :
    (results fn tmps).run P w = .ok (.tuple #[tmps.getD p undef, .agg cs, tmps.getD r undef]) w := by
  have e : tmps[q]?.getD undef = .pointer (some ⟨g, 0, none⟩) := by rw [← hp]; simp
  simp [results, h, e, asAddr, hr]
theorem end_mid {fn : Func} {p q r : Tmp} (h : fn.results = #[.tmp p, .cell q 35, .tmp r]) (tmps : Array Value) {w : World} {g : Nat} {y : It} (X : Box w g 35 y.arr) (hp : tmps.getD q undef = .pointer (some ⟨g, 0, none⟩)) {u v : Value} (hu : tmps.getD p undef = u) (hq : tmps.getD r undef = v) :
    (results fn tmps).run Tryd.prog w = .ok (.tuple #[u, .agg y.arr, v]) w := by
  rw [← hq, ← hu]
  exact results_mid h tmps w g hp y.arr (run_loadVar_row _ g 35 35 y.arr (0, 0) _ X Tryd.underlying35 rfl (info35 _))

set_option maxRecDepth 100000 in
set_option maxHeartbeats 8000000 in
theorem lookup_any (l : List It) (v : Value) (ds : List Str) (dv : Value) (s : ByteArray) (w : World) (hv : RdI w v l) (hl : l.length ≤ 1000000) (hsz : ∀ x ∈ l, x.path.length ≤ 140737488355328) (hT : Tabs w) (hd : RdS w dv ds) (hdl : ds.length ≤ 1000000) (hds : ∀ x ∈ ds, x.length ≤ 140737488355328) :
    Calls Tryd.prog 27 #[.agg #[v], dv, .string s] w (LookR (lookM l ds s.data.toList) w) := by
  obtain ⟨w1, hw1⟩ : ∃ z, z = (w.alloc (.cells #[v] 24)).alloc (.cells #[.string ⟨#[]⟩, .int .i64 0, .string ⟨#[]⟩] 35) := ⟨_, rfl⟩
  have X : Box w1 w.heap.size 24 #[v] := by rw [hw1]; exact box_new.alloc _
  have X1 : Hid (Box w1 (w.heap.size + 1) 35 It.nil.arr) := Lib.hid (by rw [hw1, show w.heap.size + 1 = (w.alloc (.cells #[v] 24)).heap.size from by simp]; exact box_new)
  have HB1 : Hid (Below w.heap.size w w1) := Lib.hid (by rw [hw1]; exact bch (below_new _ _) (below_new _ _))
  have hlen : s.data.toList.length = s.size := by rw [Array.length_toList]; rfl
  obtain ⟨b, hb⟩ : ∃ b, b = validT l := ⟨_, rfl⟩
  have HC := Lib.hid (wcheck_any l b hb v s w1 (hv.on HB1.out) hsz (hT.on HB1.out))
  have HV := Lib.hid (hv.on HB1.out)
  have HT := Lib.hid (hT.on HB1.out)
  have HSZ := Lib.hid hsz
  have HCS : Hid ((errC b s.size = 0 ∧ TreeOk l ∧ s.size ≤ 2000 ∧ lookM l ds s.data.toList = lookF l s.data.toList ds 0) ∨ (errC b s.size ≠ 0 ∧ errC b s.size ≠ 4 ∧ lookM l ds s.data.toList = .error (errC b s.size))) := Lib.hid (by
    unfold lookM errC
    rw [hlen, ← hb]
    cases b with
    | false => exact .inr ⟨by simp, by simp, by simp⟩
    | true =>
      by_cases h2 : 2000 < s.size
      · exact .inr ⟨by simp [h2], by simp [h2], by simp [h2]⟩
      · exact .inl ⟨by simp [h2], (valid_tree l).1 hb.symm, by omega, by simp [h2]⟩)
  obtain ⟨b7, hb7⟩ : ∃ z, z = w.heap.size + 1 := ⟨_, rfl⟩
  rw [← hb7] at X1
  have HB7 := Lib.hid hb7
  have HLT : Hid (w.heap.size < w1.heap.size) := Lib.hid X.lt
  have c0 := X.cell (k := 0) rfl
  have HD1 := Lib.hid (hd.below HB1.out)
  have HDS := Lib.hid hds
  obtain ⟨a, c, rfl, _⟩ := hv.open
  obtain ⟨da, dc, hdv, hdc, hdm, _⟩ := id hd
  subst hdv
  clear hv hT hsz hb X hlen hd hds
  go_enter Tryd.func27, Tryd.ntmps27
  go_upto_region 1 with fail
  rw [← hw1, ← hb7]
  clear hw1 hb7
  go_wp2_with fail
  refine HC.out.mono ?_
  rintro e w2 ⟨rfl, hb2⟩
  have HB2 := Lib.hid (bch HB1.out hb2)
  have X2 := Lib.hid (X1.out.on hb2)
  have c2 := (hb2.cell (p := ⟨w.heap.size, 0, none⟩) HLT.out).trans c0
  have HV2 := Lib.hid (HV.out.on hb2)
  have HT2 := Lib.hid (HT.out.on hb2)
  have HD2 := Lib.hid (HD1.out.below hb2)
  have H8 : Hid (w.heap.size ≤ b7) := Lib.hid (by rw [HB7.out]; exact Nat.le_succ _)
  clear hb2 c0 HC X1 HV HT HD1
  obtain ⟨z, hz⟩ : ∃ z, z = errC b s.size := ⟨_, rfl⟩
  have hcs := HCS.out
  rw [← hz] at hcs ⊢
  clear hz HCS
  rcases hcs with ⟨rfl, hok, hs2, hw⟩ | ⟨hz, h4, hw⟩
  · have HW := Lib.hid hw
    have HS2 := Lib.hid hs2
    have HOK := Lib.hid hok
    clear hw hs2 hok
    go_wp2_with fail
    refine (standing_any l (.slice a l.length c) w2 HV2.out hl HSZ.out HT2.out).mono ?_
    rintro e w3 ⟨g, bm, rfl, hF, hb3, _⟩
    have HB3 := Lib.hid (bch HB2.out hb3)
    have X3 := Lib.hid (X2.out.on hb3)
    have HD3 := Lib.hid (HD2.out.below hb3)
    have HF3 := Lib.hid hF
    have HT3 := Lib.hid (HT2.out.on hb3)
    have HDL := Lib.hid hdl
    have hdi : (ds.length : Int) ≤ 1000000 := by omega
    obtain ⟨R, hR⟩ : ∃ R, R = lookF l s.data.toList ds 0 := ⟨_, rfl⟩
    have HR := Lib.hid hR
    have HWR : Hid (lookM l ds s.data.toList = R) := Lib.hid (by rw [HW.out, hR])
    clear hF hb3 X2 HB2 c2 HD2 HT2 HV2 hR HW
    go_wp2_with fail
    go_loopw [11, 12, 13, 14, 26, 27, 28, 29, 30, 31, 32, 33, 34, 35, 36, 37, 38, 39, 43] (fun _ _ _ _ i _ _ _ _ _ _ _ _ _ _ _ _ _ _ W => ∃ k : Nat, k ≤ ds.length ∧ i = .int .i64 k ∧ Hid (lookF l s.data.toList (ds.drop k) k = R) ∧ Hid (Below w3.heap.size w3 W)) (fun _ _ _ _ i _ _ _ _ _ _ _ _ _ _ _ _ _ _ _ => ds.length - (Lib.intOf i).toNat)
    case atStart => exact ⟨0, Nat.zero_le _, rfl, Lib.hid (by rw [List.drop_zero]; exact HR.out.symm), Lib.hid (Below.refl _ _)⟩
    case round =>
      obtain ⟨k, hk, rfl, HK, HBk⟩ := hrel
      obtain ⟨wq, hwq⟩ : ∃ q, q = wr := ⟨_, rfl⟩
      rw [← hwq] at HBk ⊢
      clear hwq
      by_cases hlt : k < ds.length
      · obtain ⟨x, hx⟩ : ∃ x, ds[k]? = some x := ⟨_, List.getElem?_eq_getElem hlt⟩
        obtain ⟨da', dc', e, _, _, hcell⟩ := HD3.out
        cases e
        obtain ⟨gg, o, rfl, hgg, hc⟩ := hcell (by omega)
        have q0 : wq.cell? ⟨gg, o + k, none⟩ = some (.string ⟨x.toArray⟩) := (HBk.out.cell (p := ⟨gg, _, none⟩) hgg).trans (hc k x hx)
        have hdrop : ds.drop k = x :: ds.drop (k + 1) := by
          rw [List.drop_eq_getElem_cons hlt]
          have := List.getElem?_eq_getElem hlt
          rw [hx] at this
          cases this; rfl
        have HK2 : Hid ((match leadM l x s.data.toList true with
          | .ok r => .ok (k, r.1)
          | .error _ => lookF l s.data.toList (ds.drop (k + 1)) (k + 1)) = R) := Lib.hid (by have := HK.out; rw [hdrop] at this; exact this)
        have k1 : (k : Int) < (ds.length : Int) := by omega
        have k2 : (0 : Int) ≤ (k : Int) := by omega
        have k4 : IntKind.i64.wrap ((k : Int) + 1) = (k : Int) + 1 := IntWalk.i64_in _ (by omega)
        have HCL : Hid (Calls Tryd.prog 54 #[fnd g, .string ⟨x.toArray⟩, .string s, .bool true] wq (WayR (leadM l x s.data.toList true) wq)) := Lib.hid (lead_any g bm l HOK.out ⟨x.toArray⟩ s true wq (HF3.out.on HBk.out) (HT3.out.on HBk.out) (HDS.out x (List.mem_of_getElem? hx)) HS2.out)
        unfold fnd at HCL
        have HBw : Hid (Below w.heap.size w wq) := Lib.hid (bch HB3.out HBk.out)
        have X4 : Hid (Box wq b7 35 It.nil.arr) := Lib.hid (X3.out.on HBk.out)
        clear hx hc hcell hdrop HK
        go_wp2_with fail
        refine HCL.out.mono ?_
        rintro e w4 ⟨fv, rv, hf, hr, rfl, hz, hb4⟩
        obtain ⟨r, hr0⟩ : ∃ r, r = leadM l x s.data.toList true := ⟨_, rfl⟩
        rw [← hr0] at hz
        rw [← hr0]
        have HK3 := HK2.out
        rw [← hr0] at HK3
        have HK4 := Lib.hid HK3
        have HB4 := Lib.hid (bch HBk.out hb4)
        have HBw4 := Lib.hid (bch HBw.out hb4)
        have X5 := Lib.hid (X4.out.on hb4)
        have hcs := way_one fv hf (itW r) rv hr (hopW r)
        have HCS := Lib.hid hcs
        have HZ := Lib.hid hz
        obtain ⟨E, hE⟩ : ∃ E, E = errW r := ⟨_, rfl⟩
        have HE := Lib.hid hE
        rw [← hE]
        obtain ⟨H, hH⟩ : ∃ H, H = hopW r := ⟨_, rfl⟩
        rw [← hH]
        rw [← hH] at HCS
        obtain ⟨y, hy⟩ : ∃ y, y = itW r := ⟨_, rfl⟩
        have HY := Lib.hid hy
        rw [← hy] at HCS ⊢
        obtain ⟨b13, hb13⟩ : ∃ z, z = w4.heap.size := ⟨_, rfl⟩
        obtain ⟨w5, hw5⟩ : ∃ z, z = (w4.alloc (.cells wayZ 88)).setRow w4.heap.size (wayA fv y rv H) := ⟨_, rfl⟩
        have hne : b7 ≠ w4.heap.size := Nat.ne_of_lt X5.out.lt
        have X6 : Hid (Box w5 b7 35 It.nil.arr) := Lib.hid (by rw [hw5]; exact (X5.out.alloc _).far_row hne _)
        have x7 : Box w5 b13 88 (wayA fv y rv H) := by rw [hw5, hb13]; exact Box.row (box_new (w := w4) (t := 88) (cs := wayZ)) _
        have c1 := x7.cell (k := 1) rfl
        have c2 := x7.cell (k := 2) rfl
        have c3 := x7.cell (k := 3) rfl
        have HB5 : Hid (Below w3.heap.size w3 w5) := Lib.hid (by rw [hw5]; exact below_row (bch HB4.out (below_new _ _)) HB4.out.size _)
        have HBw5 : Hid (Below w.heap.size w w5) := Lib.hid (by rw [hw5]; exact below_row (bch HBw4.out (below_new _ _)) HBw4.out.size _)
        have HW5 := Lib.hid hw5
        have HB13 := Lib.hid hb13
        unfold wayZ at HW5
        simp only [wayA, List.getElem_toArray, List.getElem_cons_zero, List.getElem_cons_succ] at c1 c2 c3
        clear hcs hz hr0 hf hr hb4 hE hH hy hw5 hb13 x7 HB4 HBw4 X5 HK2 HK3 HCL HBk hne
        cases r with
        | error z =>
          have hz : E ≠ 0 := by rw [HE.out]; exact HZ.out z rfl
          have t1 : (E == 0) = false := by simp [hz]
          have t2 : (E != 0) = true := by simp [hz]
          have HK5 : Hid (lookF l s.data.toList (ds.drop (k + 1)) (k + 1) = R) := Lib.hid HK4.out
          clear hz
          go_wp2_with (first
            | (refine wpList_store_row rfl 88 (.tmp 13) (.tmp 36) rfl w4.heap.size (wayA fv y rv H) rfl rfl 88 wayZ box_new (info88 _ rfl) rfl HCS.out ?_; rw [← HW5.out, ← HB13.out])
            | fail)
          go_roundw
          case rel => exact ⟨k + 1, hlt, by go_num, HK5, HB5⟩
          case measure => simp [Lib.intOf]; omega
        | ok r =>
          have hz : E = 0 := HE.out
          subst hz
          have HK5 : Hid (R = .ok (k, r.1)) := Lib.hid HK4.out.symm
          go_wp2_with (first
            | (refine wpList_store_row rfl 88 (.tmp 13) (.tmp 36) rfl w4.heap.size (wayA fv y rv H) rfl rfl 88 wayZ box_new (info88 _ rfl) rfl HCS.out ?_; rw [← HW5.out, ← HB13.out])
            | fail)
          have d0 := X6.out.cell (k := 0) rfl
          have d1 := X6.out.cell (k := 1) rfl
          have d2 := X6.out.cell (k := 2) rfl
          have f0 : w5.frozen? ⟨b7, 0, none⟩ = false := Option.some.inj (X6.out.free (k := 0))
          have f1 : w5.frozen? ⟨b7, 1, none⟩ = false := Option.some.inj (X6.out.free (k := 1))
          have f2 : w5.frozen? ⟨b7, 2, none⟩ = false := Option.some.inj (X6.out.free (k := 2))
          go_region
          have X7 : Hid (Box ((((w5.setCell ⟨b7, 0, none⟩ (.string ⟨y.path.toArray⟩)).setCell ⟨b7, 1, none⟩ (.int .i64 y.kind)).setCell ⟨b7, 2, none⟩ (.string ⟨y.data.toArray⟩)).drew) b7 35 y.arr) := Lib.hid (((X6.out.set (k := 0) (.string ⟨y.path.toArray⟩)).set (k := 1) (.int .i64 y.kind)).set (k := 2) (.string ⟨y.data.toArray⟩)).drew
          have HB7' : Hid (Below w.heap.size w ((((w5.setCell ⟨b7, 0, none⟩ (.string ⟨y.path.toArray⟩)).setCell ⟨b7, 1, none⟩ (.int .i64 y.kind)).setCell ⟨b7, 2, none⟩ (.string ⟨y.data.toArray⟩)).drew)) := Lib.hid (((HBw5.out.setCell (p := ⟨b7, 0, none⟩) H8.out _).setCell (p := ⟨b7, 1, none⟩) H8.out _).setCell (p := ⟨b7, 2, none⟩) H8.out _).drew
          clear d0 d1 d2 f0 f1 f2 c1 c2 c3
          go_wp2_with fail
          exact bodyPost_ret (end_mid rfl _ X7.out rfl rfl rfl) rfl ⟨by rw [HWR.out, HK5.out, HY.out]; rfl, HB7'.out⟩
      · have k1 : ¬ ((k : Int) < (ds.length : Int)) := by omega
        have hkn : k = ds.length := by omega
        subst hkn
        have HK5 : Hid (lookM l ds s.data.toList = .error 4) := Lib.hid (by
          have := HK.out
          rw [List.drop_length] at this
          rw [HWR.out, ← this]; rfl)
        have X4 : Hid (Box wq b7 35 It.nil.arr) := Lib.hid (X3.out.on HBk.out)
        have HB4 := Lib.hid (bch HB3.out HBk.out)
        go_wp2_with (first
          | (with_reducible refine wpList_zero rfl 35 rfl It.nil.arr zero35 ?_)
          | (refine wpList_store_row rfl 35 (.tmp 7) (.tmp 44) rfl b7 It.nil.arr rfl rfl 35 _ X4.out (info35 _) rfl (iarr_one _) ?_))
        exact bodyPost_ret (end_mid rfl _ (X4.out.row _) rfl rfl rfl) rfl ⟨by rw [HK5.out]; rfl, below_row HB4.out H8.out _⟩
  · have HZ := Lib.hid hz
    have HW := Lib.hid hw
    have H4 := Lib.hid h4
    have t1 : (z == 0) = false := by simp [hz]
    have t2 : (z != 0) = true := by simp [hz]
    clear hz hw h4
    go_wp2_with (first
      | (with_reducible refine wpList_zero rfl 35 rfl It.nil.arr zero35 ?_)
      | (refine wpList_store_row rfl 35 (.tmp 7) (.tmp 20) rfl b7 It.nil.arr rfl rfl 35 _ X2.out (info35 _) rfl (iarr_one _) ?_))
    exact bodyPost_ret (end_mid rfl _ (X2.out.row _) rfl rfl rfl) rfl ⟨by rw [HW.out, placeL_err H4.out]; rfl, below_row HB2.out H8.out _⟩
end Go.Proofs.YtiakedoebecgpaaDoor
