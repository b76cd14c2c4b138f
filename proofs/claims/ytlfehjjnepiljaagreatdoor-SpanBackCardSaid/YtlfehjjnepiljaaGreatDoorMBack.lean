/- Proved here: SpanBack of puncheonlaw05 returns true for every span and text, wherever the tables stand. | Proved: whatever span and text SpanBack of puncheonlaw05 is called with, the call returns true, and both read behind it as they read before (the statement Rows.SpanBackCardSaid). No condition of ours: the tables of the library stand as the program's text lays them (the card ties them), and the form's own reach. -/
import Derived.Test.YtlfehjjnepiljaaGreatDoorM7
namespace Go.Proofs.YtlfehjjnepiljaaGreatDoor
open Go.RowKit Go.Shelf

theorem scheck_ok {ls : List (List Bd)} {x : Value} (h : spanOk ls = true) (W : World) (hx : RdR W x ls) : Calls Tryz.prog 13 #[.agg #[x]] W fun e w' => e = .returned (.int .i64 0) ∧ Below W.heap.size W w' := by
  have := scheck_any ls x W hx
  rw [h] at this
  exact this
theorem stext_ok {ls : List (List Bd)} {x : Value} (h : spanOk ls = true) (W : World) (hx : RdR W x ls) (hT : Tabs W) : Calls Tryz.prog 12 #[.agg #[x]] W fun e w' => e = .returned (.tuple #[.string (ofB (spanT ls)), .int .i64 0]) ∧ Below W.heap.size W w' := by
  have := stext_any ls x W hx hT.fr hT.tab
  have e : textS ls = (ofB (spanT ls), 0) := if_pos h
  rw [e] at this
  exact this
theorem stext_no {ls : List (List Bd)} {x : Value} (h : spanOk ls = false) (W : World) (hx : RdR W x ls) (hT : Tabs W) : Calls Tryz.prog 12 #[.agg #[x]] W fun e w' => e = .returned (.tuple #[.string ⟨#[]⟩, .int .i64 150]) ∧ Below W.heap.size W w' := by
  have := stext_any ls x W hx hT.fr hT.tab
  have e : textS ls = (⟨#[]⟩, 150) := if_neg (by rw [h]; decide)
  rw [e] at this
  exact this
/-- Read of the text of a span that may be. -/
theorem sread_back {ls : List (List Bd)} (h : spanOk ls = true) (W : World) (hT : Tabs W) : Calls Tryz.prog 17 #[.string (ofB (spanT ls))] W fun e w' => ∃ x, e = .returned (.tuple #[.agg #[x], .int .i64 0]) ∧ OwnR w' W.heap.size x ls ∧ Below W.heap.size W w' := by
  have hl := spanT_len h
  have hsz : (ofB (spanT ls)).size < 4294967281 := by
    have : (ofB (spanT ls)).size = (spanT ls).length := rfl
    omega
  refine (sread_any _ hsz W hT.fr hT.max hT.one).mono ?_
  rintro e w' ⟨x, l, z, rfl, hz, hb⟩
  rcases hz with ⟨rfl, h2, h3, h4⟩ | ⟨_, _, h3⟩
  · have : l = ls := span_inj h2 h h3
    subst this
    exact ⟨x, rfl, h4, hb⟩
  · exact absurd rfl (h3 ls h)

set_option maxRecDepth 100000 in
set_option maxHeartbeats 8000000 in
theorem back_law (ls : List (List Bd)) (x : Value) (s : ByteArray) (hs : s.size ≤ 140737488355328) (w : World) (hx : RdR w x ls) (hT : Tabs w) : Calls Tryz.prog 6 #[.agg #[x], .string s] w fun e w' => e = .returned (.bool true) ∧ Below w.heap.size w w' := by
  have HX := Lib.hid hx
  have HT0 := Lib.hid hT
  obtain ⟨a, c, rfl, _⟩ := hx.open
  obtain ⟨n0, hn0⟩ : ∃ n, n = ls.length := ⟨_, rfl⟩
  rw [← hn0] at HX ⊢
  obtain ⟨w1, hw1⟩ : ∃ q, q = w.alloc (.cells #[.slice a n0 c] 27) := ⟨_, rfl⟩
  have A1 : Hid (Box w1 w.heap.size 27 #[.slice a n0 c]) := Lib.hid (by rw [hw1]; exact box_new)
  have B1 : Hid (Below w.heap.size w w1) := Lib.hid (by rw [hw1]; exact below_new _ _)
  have T1 := Lib.hid (HT0.out.on B1.out)
  have HW := Lib.hid (swakes_any w1 T1.out)
  clear hx hT hn0
  go_enter Tryz.func6, Tryz.ntmps6
  go_upto_region 1 with fail
  rw [← hw1]
  clear hw1
  go_wp2_with fail
  refine HW.out.mono ?_
  rintro e w2 ⟨rfl, hb⟩
  have A2 := Lib.hid (A1.out.on hb)
  have B2 := Lib.hid (bch B1.out hb)
  have T2 := Lib.hid (T1.out.on hb)
  clear A1 B1 T1 HW hb HT0
  have HFW := Lib.hid (few_any ls _ w2 (HX.out.on B2.out))
  go_wp2_with (refine wpList_load_row rfl 27 (.tmp 2) rfl w.heap.size rfl 27 #[.slice a n0 c] (0, 0) _ A2.out Tryz.underlying27 rfl (info27 _) ?_)
  refine HFW.out.mono ?_
  rintro e w3 ⟨x5, rfl, hown, hb⟩
  obtain ⟨fs, hfs⟩ : ∃ t, t = fewR ls := ⟨_, rfl⟩
  rw [← hfs] at hown
  have B3 := Lib.hid (bch B2.out hb)
  have T3 := Lib.hid (T2.out.on hb)
  have R3 : Hid (RdR w3 x5 fs) := Lib.hid hown.rd
  obtain ⟨a5, c5, rfl⟩ := hown.form
  obtain ⟨n5, hn5⟩ : ∃ n, n = fs.length := ⟨_, rfl⟩
  rw [← hn5] at R3 ⊢
  clear hfs hown hb HFW A2 B2 T2 hn5 HX
  obtain ⟨w4, hw4⟩ : ∃ q, q = w3.alloc (.cells #[.slice a5 n5 c5] 27) := ⟨_, rfl⟩
  have A4 : Hid (Box w4 w3.heap.size 27 #[.slice a5 n5 c5]) := Lib.hid (by rw [hw4]; exact box_new)
  have b4 : Below w3.heap.size w3 w4 := by rw [hw4]; exact below_new _ _
  have B4 := Lib.hid (bch B3.out b4)
  have T4 := Lib.hid (T3.out.on b4)
  have R4 := Lib.hid (R3.out.on b4)
  go_upto_region 4 with fail
  rw [← hw4]
  obtain ⟨g5, hg5⟩ : ∃ q, q = w3.heap.size := ⟨_, rfl⟩
  rw [← hg5] at A4 ⊢
  clear hw4 b4 B3 T3 R3 hg5
  cases ho : spanOk fs
  case' false =>
    have HTX := Lib.hid (stext_no ho w4 R4.out T4.out)
    clear ho
    go_wp2_with (refine wpList_load_row rfl 27 (.tmp 5) rfl g5 rfl 27 #[.slice a5 n5 c5] (0, 0) _ A4.out Tryz.underlying27 rfl (info27 _) ?_)
    refine HTX.out.mono ?_
    rintro e WT ⟨rfl, hb⟩
    have BT := Lib.hid (bch B4.out hb)
    have TT := Lib.hid (T4.out.on hb)
    clear HTX hb A4 B4 T4 R4
    go_upto_region 9 with fail
  case' true =>
    have HTX := Lib.hid (stext_ok ho w4 R4.out T4.out)
    have HO := Lib.hid ho
    clear ho
    obtain ⟨tx, htx⟩ : ∃ t, t = ofB (spanT fs) := ⟨_, rfl⟩
    rw [← htx] at HTX
    have HTE := Lib.hid htx
    clear htx
    go_wp2_with (refine wpList_load_row rfl 27 (.tmp 5) rfl g5 rfl 27 #[.slice a5 n5 c5] (0, 0) _ A4.out Tryz.underlying27 rfl (info27 _) ?_)
    refine HTX.out.mono ?_
    rintro e w5 ⟨rfl, hb⟩
    have A5 := Lib.hid (A4.out.on hb)
    have B5 := Lib.hid (bch B4.out hb)
    have T5 := Lib.hid (T4.out.on hb)
    have R5 := Lib.hid (R4.out.on hb)
    clear HTX hb A4 B4 T4 R4
    have HRB := Lib.hid (sread_back HO.out w5 T5.out)
    rw [← HTE.out] at HRB
    go_wp2_with fail
    refine HRB.out.mono ?_
    rintro e w6 ⟨x8, rfl, hown, hb⟩
    have A6 := Lib.hid (A5.out.on hb)
    have B6 := Lib.hid (bch B5.out hb)
    have T6 := Lib.hid (T5.out.on hb)
    have R6 := Lib.hid (R5.out.on hb)
    have Q6 : Hid (RdR w6 x8 fs) := Lib.hid hown.rd
    obtain ⟨a8, c8, rfl⟩ := hown.form
    obtain ⟨n8, hn8⟩ : ∃ n, n = fs.length := ⟨_, rfl⟩
    rw [← hn8] at Q6 ⊢
    clear hown hb HRB A5 B5 T5 R5 hn8
    obtain ⟨w7, hw7⟩ : ∃ q, q = w6.alloc (.cells #[.slice a8 n8 c8] 27) := ⟨_, rfl⟩
    have C7 : Hid (Box w7 w6.heap.size 27 #[.slice a8 n8 c8]) := Lib.hid (by rw [hw7]; exact box_new)
    have b7 : Below w6.heap.size w6 w7 := by rw [hw7]; exact below_new _ _
    have A7 := Lib.hid (A6.out.on b7)
    have B7 := Lib.hid (bch B6.out b7)
    have T7 := Lib.hid (T6.out.on b7)
    have HSM := Lib.hid (same_any fs fs _ _ w7 (Q6.out.on b7) (R6.out.on b7))
    rw [decide_eq_true (rfl : fs = fs)] at HSM
    go_upto_region 7 with fail
    rw [← hw7]
    obtain ⟨g8, hg8⟩ : ∃ q, q = w6.heap.size := ⟨_, rfl⟩
    rw [← hg8] at C7 ⊢
    clear hw7 b7 A6 B6 T6 R6 Q6 hg8
    have p8 := C7.out.cell (k := 0) rfl
    have p5 := A7.out.cell (k := 0) rfl
    go_wp2_with (first
      | (refine wpList_load_row rfl 27 (.tmp 8) rfl g8 rfl 27 #[.slice a8 n8 c8] (0, 0) _ C7.out Tryz.underlying27 rfl (info27 _) ?_)
      | (refine wpList_load_row rfl 27 (.tmp 5) rfl g5 rfl 27 #[.slice a5 n5 c5] (0, 0) _ A7.out Tryz.underlying27 rfl (info27 _) ?_))
    refine HSM.out.mono ?_
    rintro e WT ⟨rfl, hb⟩
    have BT := Lib.hid (bch B7.out hb)
    have TT := Lib.hid (T7.out.on hb)
    clear HSM hb A7 B7 T7 C7 p8 p5 HTE HO
    go_upto_region 9 with fail
  all_goals
    obtain ⟨q, hq⟩ : ∃ q, q = min s.size 300 := ⟨_, rfl⟩
    have m1 : (0 : Int) ≤ (q : Int) := by omega
    have m2 : (q : Int) ≤ (s.size : Int) := by omega
    have m3 : min (s.size : Int) 300 = (q : Int) := by omega
    obtain ⟨t, ht⟩ : ∃ t, t = s.extract 0 q := ⟨_, rfl⟩
    have htz : t.size < 4294967281 := by rw [ht]; simp; omega
    have HR := Lib.hid (sread_any t htz WT TT.out.fr TT.out.max TT.out.one)
    have HTT := Lib.hid ht
    clear hq htz
    go_wp2_with fail
    rw [← HTT.out]
    refine HR.out.mono ?_
    rintro e w8 ⟨x, l, z, rfl, hz, hb⟩
    have B8 := Lib.hid (bch BT.out hb)
    have T8 := Lib.hid (TT.out.on hb)
    have HZ := Lib.hid hz
    clear hz hb HR BT TT
    rcases HZ.out with ⟨rfl, h1, h2, h3⟩ | ⟨rfl, rfl, _⟩
    · have HOK := Lib.hid h1
      have hte : ofB (spanT l) = t := by rw [h2]; rfl
      have R8 : Hid (RdR w8 x l) := Lib.hid h3.rd
      obtain ⟨a10, c10, rfl⟩ := h3.form
      obtain ⟨n10, hn10⟩ : ∃ n, n = l.length := ⟨_, rfl⟩
      rw [← hn10] at R8 ⊢
      obtain ⟨w9, hw9⟩ : ∃ q, q = w8.alloc (.cells #[.slice a10 n10 c10] 27) := ⟨_, rfl⟩
      have C9 : Hid (Box w9 w8.heap.size 27 #[.slice a10 n10 c10]) := Lib.hid (by rw [hw9]; exact box_new)
      have b9 : Below w8.heap.size w8 w9 := by rw [hw9]; exact below_new _ _
      have B9 := Lib.hid (bch B8.out b9)
      have T9 := Lib.hid (T8.out.on b9)
      have R9 := Lib.hid (R8.out.on b9)
      have HTX := Lib.hid (stext_ok HOK.out w9 R9.out T9.out)
      rw [hte] at HTX
      clear h1 h2 h3 hte HZ hn10
      go_upto_region 11 with fail
      rw [← hw9]
      obtain ⟨g10, hg10⟩ : ∃ q, q = w8.heap.size := ⟨_, rfl⟩
      rw [← hg10] at C9 ⊢
      clear hw9 b9 B8 T8 R8 hg10
      go_wp2_with (refine wpList_load_row rfl 27 (.tmp 10) rfl g10 rfl 27 #[.slice a10 n10 c10] (0, 0) _ C9.out Tryz.underlying27 rfl (info27 _) ?_)
      refine HTX.out.mono ?_
      rintro e wA ⟨rfl, hb⟩
      have CA := Lib.hid (C9.out.on hb)
      have BA := Lib.hid (bch B9.out hb)
      have RA := Lib.hid (R9.out.on hb)
      have HCK := Lib.hid (scheck_ok HOK.out wA RA.out)
      have pA := CA.out.cell (k := 0) rfl
      clear HTX hb C9 B9 R9 T9
      go_wp2_with fail
      refine HCK.out.mono ?_
      rintro e wB ⟨rfl, hb⟩
      have BB := Lib.hid (bch BA.out hb)
      go_wp2_with fail
      go_ret
      exact ⟨rfl, BB.out⟩
    · clear HZ
      go_wp2_with fail
      go_ret
      exact ⟨rfl, B8.out.alloc B8.out.size _⟩
end Go.Proofs.YtlfehjjnepiljaaGreatDoor

namespace Go.Proofs.YtlfehjjnepiljaaGreatDoor.SpanBackP
open Go.ChangeShapes Go.WideShapes Go.ChangeAt Go.RowKit Go.Joins Go.Deep
open Go.ChangeMaps (open_string shut_string)

theorem met (os : Os) : laidMet Tryz.prog Rows.spanBackRow.laid ((laidWorld os).forCall (fun _ _ => 0) ⟨#[], #[zeroSpan, .string ByteArray.empty], []⟩).memory :=
  laid_met os _
theorem reads (os : Os) {H : Type} (enc : TypeId × Value → H) : ∃ places, DataW.whole enc Tryz.prog ((laidWorld os).forCall (fun _ _ => 0) ⟨#[], #[zeroSpan, .string ByteArray.empty], []⟩).memory Tryz.f6.params.toList Rows.spanBackSpec.vars false #[zeroSpan, .string ByteArray.empty].toList 8 = some ([zeroSpanD, .lit (.string [])], [], places) :=
  ⟨[], by kernel_rfl⟩

set_option maxRecDepth 100000 in
theorem lifted (os : Os) (started : os.Started) (H : Type) (enc : TypeId × Value → H) (F : Stop.Interp) :
    ReturnsInHanded {} Tryz.checked os 6 .any ((OpenSpec.ofChange Rows.spanBackSpec).preRow enc Tryz.prog Tryz.f6 Rows.spanBackRow.domain false Rows.spanBackRow.laid) (((OpenSpec.ofChange Rows.spanBackSpec).at F).post enc Tryz.prog Tryz.f6 false true false false) := by
  obtain ⟨places, hx⟩ := reads os enc
  refine returnsInHanded_of_row (C := Tryz.checked) (s := OpenSpec.ofChange Rows.spanBackSpec) own0 started (by kernel_rfl) Tryz.func6
    (witness_row_at (enc := enc) (C := Tryz.checked) false (laidWorld os) #[zeroSpan, .string ByteArray.empty] rfl (by kernel_rfl) (by kernel_rfl) (by kernel_rfl)
      (OpenSpec.preRow_of_cond 8 hx (by kernel_rfl) (fun k hk => by cases hk) (by kernel_rfl) (met os))) ?_
  intro W base args ds gs before hval0 hW _ _ hsz0 hL hsh _
  have hval : ∀ (j : Nat) t v, Tryz.f6.params[j]? = some t → args[j]? = some v → Value.okWide Tryz.prog W .any base t v := hval0
  have hsz : (DataW.weightsEach Tryz.prog (Tryz.f6.params.toList ++ Rows.spanBackSpec.plain.varTypes Tryz.prog) (ds ++ gs)).all (· ≤ reachBytes) = true := hsz0
  clear hsz0
  have hW' := hW
  obtain ⟨p, q, hA0, hV, rfl, hfz, hnd⟩ := hW
  have hA : DataW.TrodAll enc Tryz.prog W 0 (fun _ => true) true Tryz.f6.params.toList args.toList ds p := hA0
  rw [Tryz.params6] at hA hval hsz
  obtain ⟨v0, vs0, d0, ds0, p0, q0, hargs, rfl, rfl, h0, r0⟩ := trodAll_cons hA
  obtain ⟨v1, vs1, d1, ds1, p1, q1, rfl, rfl, rfl, h1, r1⟩ := trodAll_cons r0
  obtain ⟨rfl, rfl, rfl⟩ := trodAll_nil r1
  obtain rfl : args = #[v0, v1] := by cases args; simp_all
  obtain ⟨rfl, rfl⟩ := trodVars_none hV
  obtain ⟨cs0, rfl⟩ := okWide_span (hval 0 27 v0 rfl rfl)
  have h0k := h0
  obtain ⟨fuel0, hf0⟩ := h0
  obtain ⟨a1, rfl, rfl, rfl, w1⟩ := open_string Tryz.underlying9 (hval 1 9 v1 rfl rfl) h1
  clear hA0 hval0
  simp only [List.append_nil] at hW'
  have hlt0 : ∀ x ∈ p0, x.block < W.heap.size := fun x hx => by simpa using hW'.lt x (by simp [hx])
  have z1 := reach_size a1 (sized_string hsz (j := 1) (t := 9) rfl rfl)
  obtain ⟨x0, l0, rfl, hr0⟩ := argS_of (by simpa [Value.cells] using hf0) hlt0
  refine (back_law l0 x0 a1 z1 W hr0 (tabs hL hsh)).mono fun e W' ⟨he, hb⟩ => ?_
  subst he
  exact ⟨_, rfl, _, _, _, [], _, [], hW', (trodAll_cons_mk (shut_bool Tryz.underlying4 _) trodAll_mk0), (trodAll_cons_mk (Below.trod laidOut (by kernel_rfl) (of_decide_eq_true (by kernel_rfl)) h0k hb hlt0) (trodAll_cons_mk (shut_string Tryz.underlying9 w1) trodAll_mk0)), rfl, hb.frame _, fun h => by cases h⟩

theorem said : Rows.SpanBackSaid :=
  OpenClaim.holds_of_cond 6 Tryz.f6 rfl rfl rfl rfl rfl rfl rfl ⟨rfl, rfl, rfl, rfl, rfl⟩ rfl rfl rfl rfl rfl (by kernel_rfl) Tryz.func6 (by kernel_rfl)
    (of_decide_eq_true (by kernel_rfl)) (by unfold Func.isWrapper; first | (rw [if_pos (by decide +kernel)]; kernel_rfl) | (rw [if_neg (by decide +kernel)]; exact ⟨rfl, rfl⟩))
    (fun os started H enc _ F => by rw [OpenClaim.pre_eq_preRow]; exact lifted os started H enc F)

/-- No parameter wants a stand-in; the program's own looks are off: what the card asks. -/
theorem plain (f : FuncId) (fn : Func) (hf : Tryz.pinned.checked.prog.funcNamed "puncheon/puncheonlaw05.SpanBack" = some f) (hfn : Tryz.pinned.checked.prog.funcs[f]? = some fn) :
    false = Tryz.pinned.checked.prog.looks [] ∧ ∀ (j : Nat) t, fn.params[j]? = some t → Tryz.pinned.checked.prog.wantsStandIn t = false := by
  obtain rfl : f = 6 := Option.some.inj ((show Tryz.prog.funcNamed "puncheon/puncheonlaw05.SpanBack" = some 6 by kernel_rfl).symm.trans hf) |>.symm
  obtain rfl : fn = Tryz.f6 := (Option.some.inj (Tryz.func6.symm.trans hfn)).symm
  refine ⟨by kernel_rfl, fun j t ht => ?_⟩
  rw [Tryz.params6] at ht
  have hm : t ∈ [27, 9] := by simpa using Array.mem_of_getElem? ht
  have hall : ([27, 9].all fun u => !Tryz.prog.wantsStandIn u) = true := by kernel_rfl
  exact (show Tryz.prog.wantsStandIn t = false by simpa using List.all_eq_true.1 hall t hm)
end Go.Proofs.YtlfehjjnepiljaaGreatDoor.SpanBackP
namespace Go.Proofs.YtlfehjjnepiljaaGreatDoor
theorem spanBack_card : Rows.SpanBackCardSaid :=
  Claim7.holds_tied_plain_at .later [] _ _ _ _ SpanBackP.said (fun _ h => by cases h) (by kernel_rfl) (fun _ h => by cases h) spanBack_row_tie rfl ⟨rfl, rfl⟩ (by kernel_rfl) rfl SpanBackP.plain (by kernel_rfl)
#print axioms spanBack_card
end Go.Proofs.YtlfehjjnepiljaaGreatDoor
