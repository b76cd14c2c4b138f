/- Proved here: moveBinary of package reloc. -/
import Derived.Test.YtophihnjlodmjaaDoorMid
import Derived.Sort.CutIn
namespace Go.Proofs.YtophihnjlodmjaaDoor
open Go.RowKit Go.Shelf
attribute [local go_sem] Oper.semAt_some

theorem runsfn_any (a1 : Option Addr) (n1 c1 : Nat) (w : World) : Calls Tryd.prog 49 #[.slice a1 n1 c1] w fun e w' => e = .returned (.func (.func 61) #[] #[.pointer (some ⟨w.heap.size, 0, none⟩)]) ∧ w.alloc (.cells #[.slice a1 n1 c1] 57) = w' := by
  go_enter Tryd.func49, Tryd.ntmps49
  go_wp2
  go_ret
  exact ⟨rfl, rfl⟩
theorem rd_box {w : World} {g n : Nat} {xs : List Value} {t : TypeId} (h : Box w g t xs.toArray) (hn : xs.length = n) (hm : n ≤ 1000000000) : Rd w (.slice (some ⟨g, 0, none⟩) n n) xs :=
  ⟨_, n, by rw [hn], by omega, by unfold maxLen; omega, fun e => (by cases e), fun _ => ⟨g, 0, rfl, h.lt, fun j x hx => by
    rw [Nat.zero_add]
    exact h.cell (by simpa using hx)⟩⟩
def MovBR (fr tt l : Bs) (w : World) (e : Ending) (w' : World) : Prop :=
  ((∃ o a v1 v2, movB fr tt l = some (o, a) ∧ e = .returned (.tuple #[v1, v2, .bool true]) ∧ Rd w' v1 (bytesV o) ∧ w'.ownsRow w.heap.size 3 1 v2 a.length (natsV a)) ∨
    (movB fr tt l = none ∧ ∃ v1 v2, e = .returned (.tuple #[v1, v2, .bool false]))) ∧ Below w.heap.size w w'

set_option maxRecDepth 100000 in
set_option maxHeartbeats 8000000 in
theorem moveb_any (bf bt : Nat) (vf vt vd : Value) (fr tt l : Bs) (w : World) (hk : FT bf bt vf vt fr tt w) (rd : Rd w vd (bytesV l)) (h0 : 0 ∈ l) (hf : 1 ≤ fr.length) (ht1 : 0 < tt.length) (hl : l.length ≤ 1000000) (hf2 : fr.length ≤ 1000) (ht2 : tt.length ≤ 1000)
    (hlow : ∀ g, inBlk vd g ∨ inBlk vf g ∨ inBlk vt g → g < w.heap.size) :
    Calls Tryd.prog 35 #[vd, .func (.func 48) #[] #[.pointer (some ⟨bf, 0, none⟩), .pointer (some ⟨bt, 0, none⟩)]] w (MovBR fr tt l w) := by
  have hlp : 0 < l.length := List.length_pos_of_mem h0
  obtain ⟨ad, cd, rfl, hd1, hd2, hd3⟩ := rd.shape
  obtain ⟨gd, od, rfl⟩ := hd3 hlp
  obtain ⟨n, hn⟩ : ∃ n, n = l.length := ⟨_, rfl⟩
  have HN := Lib.hid hn
  obtain ⟨fv, hfv⟩ : ∃ z, z = Value.func (.func 48) #[] #[.pointer (some ⟨bf, 0, none⟩), .pointer (some ⟨bt, 0, none⟩)] := ⟨_, rfl⟩
  rw [← hn] at hd1 hlp hl rd hlow ⊢
  obtain ⟨b, hb⟩ : ∃ z, z = w.heap.size := ⟨_, rfl⟩
  obtain ⟨w0, hw0⟩ : ∃ z, z = ((((w.alloc (.cells #[.slice (some ⟨gd, od, none⟩) n cd] 57)).alloc (.cells #[.func (.func 48) #[] #[.pointer (some ⟨bf, 0, none⟩), .pointer (some ⟨bt, 0, none⟩)]] 60)).alloc (.cells #[.slice none 0 0] 57)).alloc (.cells #[.slice none 0 0] 27)).alloc (.cells #[.bool false] 4) := ⟨_, rfl⟩
  have hb0 : Below w.heap.size w w0 := by rw [hw0]; exact bch (bch (bch (bch (below_new _ _) (below_new _ _)) (below_new _ _)) (below_new _ _)) (below_new _ _)
  have hs0 : w0.heap.size = b + 5 := by rw [hw0, hb]; simp
  have x0 : Boxed w0 b 57 (.slice (some ⟨gd, od, none⟩) n cd) := by rw [hw0, hb]; exact ((((Boxed.new _ _ _).alloc _).alloc _).alloc _).alloc _
  have x1 : Boxed w0 (b + 1) 60 fv := by
    have := (((Boxed.new (w.alloc (.cells #[.slice (some ⟨gd, od, none⟩) n cd] 57)) 60 fv).alloc (.cells #[.slice none 0 0] 57)).alloc (.cells #[.slice none 0 0] 27)).alloc (.cells #[.bool false] 4)
    rw [hw0, hb, ← hfv]; simpa using this
  have x2 : Boxed w0 (b + 2) 57 (.slice none 0 0) := by
    have := ((Boxed.new ((w.alloc (.cells #[.slice (some ⟨gd, od, none⟩) n cd] 57)).alloc (.cells #[fv] 60)) 57 (.slice none 0 0)).alloc (.cells #[.slice none 0 0] 27)).alloc (.cells #[.bool false] 4)
    rw [hw0, hb, ← hfv]; simpa using this
  have x3 : Boxed w0 (b + 3) 27 (.slice none 0 0) := by
    have := (Boxed.new (((w.alloc (.cells #[.slice (some ⟨gd, od, none⟩) n cd] 57)).alloc (.cells #[fv] 60)).alloc (.cells #[.slice none 0 0] 57)) 27 (.slice none 0 0)).alloc (.cells #[.bool false] 4)
    rw [hw0, hb, ← hfv]; simpa using this
  have x4 : Boxed w0 (b + 4) 4 (.bool false) := by
    have := Boxed.new ((((w.alloc (.cells #[.slice (some ⟨gd, od, none⟩) n cd] 57)).alloc (.cells #[fv] 60)).alloc (.cells #[.slice none 0 0] 57)).alloc (.cells #[.slice none 0 0] 27)) 4 (.bool false)
    rw [hw0, hb, ← hfv]; simpa using this
  obtain ⟨w1, hmk, hz1, hb1⟩ := run_make_zer w0 n hl
  rw [hs0] at hz1
  have hs1 : b + 6 ≤ w1.heap.size := hz1.lt
  have hmkx : (Instr.makeSlice 57 (.int .i64 (n : Int)) (.int .i64 (n : Int))).run Tryd.prog (((((w.alloc (.cells #[.slice (some ⟨gd, od, none⟩) n cd] 57)).alloc (.cells #[.func (.func 48) #[] #[.pointer (some ⟨bf, 0, none⟩), .pointer (some ⟨bt, 0, none⟩)]] 60)).alloc (.cells #[.slice none 0 0] 57)).alloc (.cells #[.slice none 0 0] 27)).alloc (.cells #[.bool false] 4)) = .ok (.slice (some ⟨b + 5, 0, none⟩) n n) w1 := by
    rw [← hw0, ← hs0]; exact hmk
  obtain ⟨b6, hb6⟩ : ∃ z, z = w1.heap.size := ⟨_, rfl⟩
  obtain ⟨W, hW⟩ : ∃ z, z = (((w1.alloc (.cells #[.slice (some ⟨b + 5, 0, none⟩) n n] 57)).alloc (.cells #[.slice none 0 0] 27)).alloc (.cells #[.int .i64 0] 3)).alloc (.cells #[.slice (some ⟨gd, od, none⟩) n cd] 57) := ⟨_, rfl⟩
  have hbW : Below w1.heap.size w1 W := by rw [hW]; exact bch (bch (bch (below_new _ _) (below_new _ _)) (below_new _ _)) (below_new _ _)
  have hsW : W.heap.size = b6 + 4 := by rw [hW, hb6]; simp
  have y0 : Boxed W b6 57 (.slice (some ⟨b + 5, 0, none⟩) n n) := by rw [hW, hb6]; exact (((Boxed.new _ _ _).alloc _).alloc _).alloc _
  have y1 : Boxed W (b6 + 1) 27 (.slice none 0 0) := by
    have := ((Boxed.new (w1.alloc (.cells #[.slice (some ⟨b + 5, 0, none⟩) n n] 57)) 27 (.slice none 0 0)).alloc (.cells #[.int .i64 0] 3)).alloc (.cells #[.slice (some ⟨gd, od, none⟩) n cd] 57)
    rw [hW, hb6]; simpa using this
  have y2 : Boxed W (b6 + 2) 3 (.int .i64 ((0 : Nat) : Int)) := by
    have := (Boxed.new ((w1.alloc (.cells #[.slice (some ⟨b + 5, 0, none⟩) n n] 57)).alloc (.cells #[.slice none 0 0] 27)) 3 (.int .i64 0)).alloc (.cells #[.slice (some ⟨gd, od, none⟩) n cd] 57)
    rw [hW, hb6]; simpa using this
  have y3 : Boxed W (b6 + 3) 57 (.slice (some ⟨gd, od, none⟩) n cd) := by
    have := Boxed.new (((w1.alloc (.cells #[.slice (some ⟨b + 5, 0, none⟩) n n] 57)).alloc (.cells #[.slice none 0 0] 27)).alloc (.cells #[.int .i64 0] 3)) 57 (.slice (some ⟨gd, od, none⟩) n cd)
    rw [hW, hb6]; simpa using this
  have hb01 : Below w0.heap.size w0 W := bch hb1 hbW
  have hbww : Below w.heap.size w W := bch hb0 hb01
  have hMJ : MJ w b b6 W.heap.size l fr tt (.slice (some ⟨gd, od, none⟩) n cd) fv (.slice none 0 0) [] [] 0 W := ⟨boxed_on x0 hb01, boxed_on x1 hb01, boxed_on x2 hb01, boxed_on x3 hb01, boxed_on x4 hb01, by
      have := (hbW.block _ hz1.lt).trans hz1
      rw [List.nil_append, List.length_nil, Nat.sub_zero, ← hn]; exact this, by rw [← hn]; exact y0, y1, World.ownsRow_nil _ _ _ _, (fun g e => by cases e), y2, hbww, by unfold leftS; rw [List.drop_zero], by unfold leftS; rw [List.drop_zero, segs_flat', List.length_nil, Nat.zero_add], Nat.le_refl _, ⟨hb, by omega, hsW⟩⟩
  have hnb : ¬ inBlk (.slice (some ⟨gd, od, none⟩) n cd) (b6 + 3) := fun h => by have := hlow _ (.inl h); omega
  have hit := runs_hands 4 (by omega) (b6 + 3) l (by omega) (.slice (some ⟨gd, od, none⟩) n cd) W y3 (rd.on hbww) hnb (fun g hg => by have := hlow g (.inl hg); have := hbww.size; omega)
  have cdW : W.cell? ⟨b, 0, none⟩ = some (.slice (some ⟨gd, od, none⟩) n cd) := (boxed_on x0 hb01).cell
  have cdn : (((w1.alloc (.cells #[.slice (some ⟨b + 5, 0, none⟩) n n] 57)).alloc (.cells #[.slice none 0 0] 27)).alloc (.cells #[.int .i64 0] 3)).cell? ⟨w.heap.size, 0, none⟩ = some (.slice (some ⟨gd, od, none⟩) n cd) := by rw [← hb]; exact ((((boxed_on x0 hb1).alloc _).alloc _).alloc _).cell
  have cd0 : w0.cell? ⟨b, 0, none⟩ = some (.slice (some ⟨gd, od, none⟩) n cd) := x0.cell
  have hbf := hk.f.lt
  have hbt := hk.t.lt
  have HMJ := Lib.hid hMJ
  have HIT := Lib.hid hit
  have HK := Lib.hid hk
  have HRD := Lib.hid rd
  have HLOW := Lib.hid hlow
  have HW := Lib.hid hW
  have HW0 := Lib.hid hw0
  have HSW := Lib.hid hsW
  have HB6 := Lib.hid hb6
  have HB := Lib.hid hb
  have HS0 := Lib.hid hs0
  have HBW := Lib.hid hbww
  have HH0 := Lib.hid h0
  have HFV := Lib.hid hfv
  have hbb : w.heap.size < w1.heap.size := by omega
  have HHM := Lib.hid hmkx
  clear hMJ hit hk rd hlow hW hmk hb1 hbW hsW x0 x1 x2 x3 x4 y0 y1 y2 y3 hb01 hbww hz1 hnb hd3 h0 hb0 hs1 cdW hn hb hb6 hs0 hfv hw0 cd0
  refine (callsIn_wide (n := 5)).1 ?_
  refine callsIn_of_wp_marks Tryd.func35 rfl trivial ?_ rfl
  simp only [Tryd.ntmps35, List.size_toArray, List.length_cons, List.length_nil, Nat.reduceAdd, Nat.reduceSub, Array.replicate_succ, Array.replicate_zero, List.push_toArray, List.append_toArray, List.nil_append, List.cons_append]
  gi_wp2_with (refine ⟨trivial, ?_⟩; gi_at_call 49; refine (callsIn_wide.2 (runsfn_any _ _ _ _)).mono ?_; rintro e w' ⟨rfl, rfl⟩)
  have e1 : w.heap.size + 1 = b + 1 := by rw [HB.out]
  have e2 : w.heap.size + 1 + 1 = b + 2 := by rw [HB.out]
  have e3 : w.heap.size + 1 + 1 + 1 = b + 3 := by rw [HB.out]
  have e4 : w.heap.size + 1 + 1 + 1 + 1 = b + 4 := by rw [HB.out]
  have f1 : w1.heap.size + 1 = b6 + 1 := by rw [HB6.out]
  have f2 : w1.heap.size + 1 + 1 = b6 + 2 := by rw [HB6.out]
  have f3 : w1.heap.size + 1 + 1 + 1 = b6 + 3 := by rw [HB6.out]
  rw [← HW.out, e4, e3, e2, e1, f3, f2, f1, ← HB.out, ← HB6.out, ← HFV.out]
  clear e1 e2 e3 e4 f1 f2 f3 cdn hbb hmkx
  have hlb := HMJ.out.lay.2.1
  have HLAY := Lib.hid HMJ.out.lay
  refine range_handsE rfl (by omega) (gf := 61) (lb := #[.pointer (some ⟨b6 + 3, 0, none⟩)]) rfl trivial (enters_of Tryd.func61 (by kernel_rfl) rfl)
    (ruT (b6 + 3) (.slice (some ⟨gd, od, none⟩) n cd)) (fun k => k = b6 + 3) W.heap.size rfl (fun k hk => by
      have hy := HLAY.out
      rcases hk with hk | hk
      · omega
      · have := HLOW.out k (.inl hk); omega) (fun k hk => .inl hk) HIT.out (fun x args hE => by obtain ⟨_, _, _, rfl, _⟩ := hE; rfl)
    (fun pre X => ∃ vp o al, MJ w b b6 W.heap.size l fr tt (.slice (some ⟨gd, od, none⟩) n cd) fv vp o al pre.length X)
    (fun _ X => movB fr tt l = none ∧ Boxed X (b + 2) 57 (.slice none 0 0) ∧ Boxed X (b + 3) 27 (.slice none 0 0) ∧ Boxed X (b + 4) 4 (.bool false) ∧ Below w.heap.size w X)
    ?steady ?steadyx ⟨_, _, _, HMJ.out⟩
    (fun x args => { tmps := #[.slice (some ⟨gd, od, none⟩) n cd, fv, .pointer (some ⟨b, 0, none⟩), .pointer (some ⟨b + 1, 0, none⟩), .pointer (some ⟨b + 2, 0, none⟩), .pointer (some ⟨b + 3, 0, none⟩), .pointer (some ⟨b + 4, 0, none⟩), .pointer (some ⟨b6, 0, none⟩), .pointer (some ⟨b6 + 1, 0, none⟩), .pointer (some ⟨b6 + 2, 0, none⟩), (args.getD 0 undef), (args.getD 1 undef), undef, undef, undef, undef, undef, undef, undef, .slice (some ⟨gd, od, none⟩) n cd, .int .i64 (n : Int), .slice (some ⟨b + 5, 0, none⟩) n n, .slice (some ⟨gd, od, none⟩) n cd, .func (.func 61) #[] #[.pointer (some ⟨b6 + 3, 0, none⟩)], (args.getD 0 undef), (args.getD 1 undef), undef, undef, undef, undef, undef, undef, undef, undef, undef, undef, undef, undef, undef, undef, undef, undef, undef, undef, undef, undef, undef, undef, undef, undef, undef, undef, undef, undef, undef, undef, undef, undef, undef, undef, undef, undef, undef, undef, undef, undef, undef, undef, undef, undef, undef, undef, undef, undef, undef, undef, undef], defers := [] }) ?assign ?body ?done ?stop
  case steady =>
    rintro pre X Y row ⟨vp, o, al, h⟩ hg hr
    exact ⟨vp, o, al, h.grown hg fun r e => hr r e⟩
  case steadyx =>
    rintro pre X Y row ⟨h1, h2, h3, h4, h5⟩ hg hr
    have hy := HLAY.out
    have far : ∀ q, q < b6 + 3 → some q ≠ row := fun q hq e => by have := hr q e.symm; omega
    exact ⟨h1, h2.kept hg (far _ (by omega)), h3.kept hg (far _ (by omega)), h4.kept hg (far _ (by omega)), h5.grown hg h5.size fun r e => by have := hr r e; omega⟩
  case assign =>
    rintro q x args X K ⟨ad, a2, c2, rfl, hRr, hIr⟩ hK
    gi_wp2
    exact hK
  case body =>
    rintro lp pre x args X hpre ⟨ad, a2, c2, rfl, hRr, hIr⟩ hsX ⟨vp, o, al, h⟩
    obtain ⟨r, k⟩ := x
    have hls := leftS_next hpre
    obtain ⟨hr0, hm1, hTe, hfl⟩ := left_facts hls
    simp only at hRr hIr
    have hlen := h.len
    have hcnt := h.cnt
    obtain ⟨T, hT⟩ : ∃ T, T = leftS l (pre.length + 1) := ⟨_, rfl⟩
    rw [← hT] at hls hTe hfl
    obtain ⟨a, ha⟩ : ∃ a, a = o.length := ⟨_, rfl⟩
    obtain ⟨ms, hms⟩ : ∃ ms, ms = r.length + k := ⟨_, rfl⟩
    obtain ⟨en, hen⟩ : ∃ en, en = a + ms := ⟨_, rfl⟩
    have hnl := HN.out
    have hen2 : en ≤ n := by omega
    have hTn : T = [] ↔ en = n := by rw [hTe]; omega
    have hstep : movF fr tt (segs l) ([], []) = movF fr tt ((r, k) :: T) (o, al) := by rw [h.eq, hls]
    have HST := Lib.hid hstep
    have HT := Lib.hid hT
    have hsD := HSW.out
    have cb := h.bd.cell
    have cc := h.bc.cell
    have ca := h.ba.cell
    have cs := h.bs.cell
    have fp := h.bp.frozen
    have fs := h.bs.frozen
    have z4 := h.r4.frozen
    have z5 := h.r5.frozen
    have z6 := h.r6.frozen
    rw [← ha] at cs
    rw [← hnl] at ca
    have HFT := Lib.hid (show FT bf bt vf vt fr tt X from ⟨(h.low.block bf hbf).trans HK.out.f, (h.low.block bt hbt).trans HK.out.t, HK.out.rf.on h.low, HK.out.rt.on h.low⟩)
    have HRX : Hid (Rd X (.slice (some ad) r.length r.length) (bytesV r)) := Lib.hid (hRr.kept fun g hg => by
      have h1 := HLOW.out g (.inl (hIr g hg))
      exact (h.low.block g h1).trans (HBW.out.block g h1).symm)
    have HLX : Hid (∀ g, inBlk (.slice (some ad) r.length r.length) g ∨ inBlk vf g ∨ inBlk vt g → g < X.heap.size) := Lib.hid (fun g hg => by
      have hz := h.low.size
      rcases hg with hg | hg | hg
      · have := HLOW.out g (.inl (hIr g hg)); omega
      · have := HLOW.out g (.inr (.inl hg)); omega
      · have := HLOW.out g (.inr (.inr hg)); omega)
    have hrl : r.length ≤ ms := by omega
    obtain ⟨rn, hrn⟩ : ∃ rn, rn = r.length := ⟨_, rfl⟩
    obtain ⟨rO, hrO⟩ : ∃ rO, rO = putO fr tt r := ⟨_, rfl⟩
    obtain ⟨pa, hpa⟩ : ∃ pa, pa = putA fr tt r := ⟨_, rfl⟩
    have HH := Lib.hid h
    have w1 : IntKind.i64.wrap ((rn : Int) + (k : Int)) = (ms : Int) := by rw [IntWalk.i64_in _ (by omega)]; omega
    have w2 : IntKind.i64.wrap ((a : Int) + (ms : Int)) = (en : Int) := by rw [IntWalk.i64_in _ (by omega)]; omega
    have w3 : IntKind.i64.wrap ((ms : Int) - 1) = ((ms - 1 : Nat) : Int) := by rw [IntWalk.i64_in _ (by omega)]; omega
    have HRO := Lib.hid hrO
    have HPA := Lib.hid hpa
    have HRN := Lib.hid hrn
    have HMS := Lib.hid hms
    have HEN := Lib.hid hen
    have HA := Lib.hid ha
    have HTN := Lib.hid hTn
    have HM1 : Hid (1 ≤ ms) := Lib.hid (by omega)
    have HCN : Hid (al.length ≤ a) := Lib.hid (by omega)
    have HLF : Hid (en + (flat T).length = n) := Lib.hid (by omega)
    have HSX := Lib.hid hsX
    have HRL : Hid (r.length ≤ 1000000) := Lib.hid (by omega)
    dsimp only
    rw [← hrn] at HRX HLX ⊢
    rw [show (#[Value.slice (some ad) rn rn, Value.slice a2 k c2].getD 0 undef) = Value.slice (some ad) rn rn from rfl, show (#[Value.slice (some ad) rn rn, Value.slice a2 k c2].getD 1 undef) = Value.slice a2 k c2 from rfl]
    have hfv := HFV.out
    clear HFV
    subst hfv
    clear hRr hIr hpre hls hr0 hm1 hTe hfl hlen hcnt hT hms hnl hstep h hrO hpa hrl ha hTn hsX hrn
    have hmsb : ms ≤ 1000000 := by omega
    clear hen
    by_cases hTT : T = []
    · have hee : en = n := HTN.out.1 hTT
      have t1 : decide (en < n) = false := decide_eq_false (by omega)
      have t1' : decide ((en : Int) < (n : Int)) = false := decide_eq_false (by omega)
      have HB := Lib.hid (become_any bf bt vf vt (.slice (some ad) rn rn) fr tt r (ms : Nat) X HFT.out HRX.out ⟨_, _, _, rfl⟩ hf ht1 HRL.out hf2 ht2 (by omega) HLX.out)
      by_cases hfit : rO.length ≤ ms
      · have HC : Hid (Calls Tryd.prog 48 #[.slice (some ad) rn rn, .int .i64 ((ms : Nat) : Int), .pointer (some ⟨bf, 0, none⟩), .pointer (some ⟨bt, 0, none⟩)] X fun e w' => ∃ v1 v2, e = .returned (.tuple #[v1, v2, .bool true]) ∧ w'.ownsRow X.heap.size 5 1 v1 rO.length (bytesV rO) ∧ w'.ownsRow X.heap.size 3 1 v2 pa.length (natsV pa) ∧ Below X.heap.size X w') := Lib.hid (HB.out.mono (by
          rintro e w' ⟨⟨_, v1, v2, h1, h2, h3⟩ | ⟨h1, _⟩, hb⟩
          · rw [HRO.out, HPA.out]; exact ⟨v1, v2, h1, h2, h3, hb⟩
          · rw [← HRO.out] at h1; omega))
        clear HB
        gi_upto_region 11 with fail
        clear fp fs z4 z5 z6 w1 w2 w3 t1 t1' cs ca cb
        gi_upto_region 12 with (refine ⟨trivial, ?_⟩; gi_at_call 48; refine (CallsIn.inRound lp (callsIn_wide.2 HC.out)).mono ?_; rintro e w' ⟨v14, v15, rfl, hO, hP, hb⟩; have HX1 := Lib.hid (HH.out.on' hb); have HB1 := Lib.hid hb; have HO1 := Lib.hid hO; have HP1 := Lib.hid hP; obtain ⟨a14, c14, rfl⟩ := own_slice hO; obtain ⟨a15, c15, rfl⟩ := own_slice hP; clear hb hO hP)
        have ka := HX1.out.ba.cell
        have ks := HX1.out.bs.cell
        rw [← HA.out] at ks
        rw [← HN.out] at ka
        have hae : a < en := by have h1 := HEN.out; have h2 := HM1.out; omega
        obtain ⟨m, hm⟩ : ∃ m, m = pa.length := ⟨_, rfl⟩
        have hmb : m ≤ 1000000 := by
          have h1 : pa.length ≤ r.length := by rw [HPA.out, putA_len]; exact plcs_count fr r hf
          have := HRL.out
          omega
        have HM := Lib.hid hm
        have HPAR : Hid (m ≤ ms) := Lib.hid (by
          have h1 : pa.length ≤ r.length := by rw [HPA.out, putA_len]; exact plcs_count fr r hf
          have := HMS.out
          omega)
        obtain ⟨rl, hrl⟩ : ∃ rl, rl = rO.length := ⟨_, rfl⟩
        have HRLE := Lib.hid hrl
        have hrlb : rl ≤ ms := by have := HM1.out; omega
        have HALL : Hid (Box w' (b + 5) 5 (bytesV (o ++ zer (n - a))).toArray) := Lib.hid (by
          have := HX1.out.all
          rw [← HN.out, ← HA.out] at this
          exact this)
        have HRO1 : Hid (Rd w' (.slice a14 rl c14) (bytesV rO)) := Lib.hid (by rw [hrl]; exact Rd.of_own HO1.out)
        have HPUT := Lib.hid (all_put (rO := rO) (n := n) HA.out (by have := HEN.out; omega))
        rw [← hm] at HP1 ⊢
        rw [← hrl] at hfit ⊢
        have HC1 : Hid (rO.length ≤ n - a) := Lib.hid (by have := HEN.out; have := HRLE.out; omega)
        have HC2 : Hid (a + rO.length ≤ (bytesV (o ++ zer (n - a))).length) := Lib.hid (by
          rw [bytesV_len, List.length_append, zer_len, ← HA.out]
          have := HEN.out; have := HRLE.out; omega)
        have HPLE : Hid (∀ i ∈ pa, i ≤ rl) := Lib.hid (by rw [hrl, HRO.out, HPA.out]; exact putA_le fr tt r)
        have HFIT := Lib.hid hfit
        clear hm hrl hfit
        gi_wp2_with (refine wpListIn_copy_here rfl (.tmp 54) (.tmp 55) rfl (b + 5) a (n - a) (n - a) (bytesV (o ++ zer (n - a))) (.slice a14 rl c14) rO rfl rfl HALL.out HRO1.out HC1.out HC2.out ?_; intro w2 hbx hgr; have HST2 := Lib.hid (mm_start HH.out HX1.out HSX.out HB1.out (by rw [← HM.out]; exact HP1.out) (by rw [← HPUT.out]; exact hbx) hgr); clear hbx hgr; refine Hid.out ?_)
        refine Lib.hid ?_
        clear ka ks HX1 HALL HRO1 HC1 HC2 HO1 HPUT HC cc
        gi_wp2
        obtain ⟨CS, hCS⟩ : ∃ z, z = o ++ rO ++ zer (n - a - rO.length) := ⟨_, rfl⟩
        have HCS := Lib.hid hCS
        rw [← hCS, ← HA.out] at HST2
        clear hCS
        gi_loopw [59] (fun i wr => ∃ (q : Nat) (vq : Value), i = .int .i64 (q : Int) ∧ q ≤ m ∧ Hid (MM w b b6 W.heap.size l (.slice (some ⟨gd, od, none⟩) n cd) (.func (.func 48) #[] #[.pointer (some ⟨bf, 0, none⟩), .pointer (some ⟨bt, 0, none⟩)]) vq (.slice a15 m c15) CS a (al ++ (pa.take q).map (o.length + ·)) pa wr ∧ Fix (mjF b b6 W.heap.size) X wr ∧ X.heap.size ≤ wr.heap.size)) (fun i _ => m - (Lib.intOf i).toNat)
        case atStart => exact ⟨0, _, rfl, Nat.zero_le _, by simpa using HST2⟩
        case round =>
          obtain ⟨q, vq, rfl, hqm, HL⟩ := hrel
          by_cases hq : q < m
          · have hqp : q < pa.length := by rw [← HM.out]; exact hq
            obtain ⟨x, hx⟩ : ∃ x, x = pa[q] := ⟨_, rfl⟩
            have hxb : x ≤ 1000000 := by
              have := HPLE.out x (by rw [hx]; exact List.getElem_mem hqp)
              omega
            obtain ⟨g1, o1, hg15, hg1, e1⟩ := HL.out.1.row.numAt hqp
            cases hg15
            rw [← hx] at e1
            obtain ⟨y, hy⟩ : ∃ y, y = a + x := ⟨_, rfl⟩
            have w6 : IntKind.i64.wrap ((a : Int) + (x : Int)) = (y : Int) := by rw [hy]; exact IntWalk.i64_in _ (by omega)
            have HTK : Hid ((pa.take (q + 1)).map (o.length + ·) = (pa.take q).map (o.length + ·) ++ [y]) := Lib.hid (by
              rw [List.take_succ_eq_append_getElem hqp, List.map_append, hy, hx, HA.out]; rfl)
            obtain ⟨L, hL⟩ : ∃ L, L = al ++ (pa.take q).map (o.length + ·) := ⟨_, rfl⟩
            have HLE : Hid (L = al ++ (pa.take q).map (o.length + ·)) := Lib.hid hL
            rw [← hL] at HL
            obtain ⟨nL, hnL⟩ : ∃ nL, nL = L.length := ⟨_, rfl⟩
            have HNB : Hid (nL ≤ 2000000) := Lib.hid (by
              rw [hnL, hL, List.length_append, List.length_map, List.length_take]
              have := HCN.out
              omega)
            obtain ⟨ap, cp, rfl⟩ := own_slice HL.out.1.op
            have lp8 := HL.out.1.bp.cell
            have lp9 := HL.out.1.bs.cell
            obtain ⟨WB, hWB⟩ : ∃ z, z = wr.alloc (.cells #[.int .i64 (y : Int)] 3) := ⟨_, rfl⟩
            have hBB : Below wr.heap.size wr WB := by rw [hWB]; exact below_new _ _
            have HBB := Lib.hid (HL.out.1.on' hBB)
            have HNW : Hid (∀ (j : Nat) (u : Value), [i64 y][j]? = some u → WB.cell? ((⟨wr.heap.size, 0, none⟩ : Addr).add j) = some u) := Lib.hid (fun j u hu => by
              rw [addr_add, Nat.zero_add]
              have hbx : Box WB wr.heap.size 3 #[i64 y] := by rw [hWB]; exact heap_alloc_new wr _
              exact hbx.cell (by simpa using hu))
            have HWB := Lib.hid hWB
            have HSB : Hid (w.heap.size ≤ WB.heap.size ∧ W.heap.size + 2 ≤ WB.heap.size) := Lib.hid (by have := HSX.out; have := hBB.size; have := HBB.out.low.size; have := HL.out.2.2; omega)
            have HFB := Lib.hid (HL.out.2.1.trans (Fix.below (Z := mjF b b6 W.heap.size) hBB (fun k hk => by have := hk.1; have := HSX.out; have := HL.out.2.2; omega)))
            have HSS : Hid (X.heap.size ≤ WB.heap.size) := Lib.hid (by have := hBB.size; have := HL.out.2.2; omega)
            obtain ⟨i3, hi3, hz30, hz31, hz32⟩ := info_parts info3
            have HP2 : Hid (∀ v' w', w'.ownsRow w.heap.size 3 1 v' (L.length + 1) (natsV L ++ [i64 y]) → WB.grownBy w' (Value.slice ap L.length cp).ownBlock → (v'.ownBlock = (Value.slice ap L.length cp).ownBlock ∨ v'.ownBlock = some WB.heap.size) → (MM w b b6 W.heap.size l (.slice (some ⟨gd, od, none⟩) n cd) (.func (.func 48) #[] #[.pointer (some ⟨bf, 0, none⟩), .pointer (some ⟨bt, 0, none⟩)]) v' (.slice (some ⟨g1, o1, none⟩) m c15) CS a (L ++ [y]) pa (w'.setCell ⟨b6 + 1, 0, none⟩ v') ∧ Fix (mjF b b6 W.heap.size) X (w'.setCell ⟨b6 + 1, 0, none⟩ v') ∧ X.heap.size ≤ (w'.setCell ⟨b6 + 1, 0, none⟩ v').heap.size) ∧ Boxed w' (b6 + 1) 27 (.slice ap L.length cp)) := Lib.hid (fun v' w' e1 e2 e3 => by
              have h1 := HBB.out.put (al' := L ++ [y]) HSB.out.2 (by rw [natsV_app, List.length_append]; exact e1) e2 e3
              exact ⟨⟨h1.1, HFB.out.trans h1.2.1, Nat.le_trans HSS.out h1.2.2⟩, HBB.out.bp.kept e2 fun e => by have := HBB.out.sp _ e.symm; have := HBB.out.lay; omega⟩)
            have HNL : Hid (nL = L.length) := Lib.hid hnL
            clear hx hxb hy hL hnL hqp hWB hBB
            gi_wp2_with (gi_at_builtin; go_loud (rw [← HWB.out]; refine wpListIn_append_own_at _ rfl _ _ 27 rfl w.heap.size 3 i3 (.int .i64 0) 1 8 Tryd.underlying27 hi3 hz30 hz31 hz32 rfl (by decide) _ _ _ rfl HBB.out.op ⟨wr.heap.size, 0, none⟩ 1 1 [i64 y] rfl rfl HNW.out (by simp [Value.oneCell', i64]) (by have := HNB.out; have := HNL.out; unfold maxLen; omega) (by have := HNB.out; have := HNL.out; omega) HSB.out.1 ?_; intro v6 w6 hown6 hg6 _ hat6; obtain ⟨hB6, hX6⟩ := HP2.out v6 w6 hown6 hg6 hat6; have xw := hX6.cell; have fw := hX6.frozen; have HB6 := Lib.hid hB6; obtain ⟨a6, c6, rfl⟩ := own_slice hown6; clear hown6 hg6 hat6 hB6 hX6 lp8; refine Hid.out ?_))
            refine Lib.hid ?_
            gi_wp2
            go_roundw
            case rel => exact ⟨q + 1, _, by go_num, hq, by rw [HTK.out, ← List.append_assoc, ← HLE.out]; exact HB6⟩
            case measure => simp [Lib.intOf]; omega
          · obtain rfl : q = m := by omega
            have HTA : Hid (al ++ (pa.take q).map (o.length + ·) = al ++ pa.map (o.length + ·)) := Lib.hid (by rw [HM.out, List.take_length])
            rw [HTA.out] at HL
            clear HTA
            have zs := HL.out.1.bs.cell
            have zf := HL.out.1.bs.frozen
            have HEND := Lib.hid (mm_end (k := pre.length + 1) (en := n) (o2 := o ++ rO ++ zer (ms - rO.length)) HL.out.1
              (by rw [HCS.out, HA.out, ← HN.out]; exact all_next (by rw [← HRLE.out]; exact hrlb) (by have := HEN.out; have := HA.out; omega))
              (by rw [List.length_append, List.length_append, zer_len, ← HRLE.out, ← HA.out]; have := HEN.out; omega)
              (by rw [HST.out, movF, ← HRO.out, ← HPA.out, ← HT.out, ← HMS.out, if_pos hTT, if_pos (by rw [← HRLE.out]; have := HM1.out; have := HFIT.out; omega)])
              (by rw [List.length_append, List.length_append, zer_len, ← HRLE.out, ← HA.out, ← HT.out]; have := HLF.out; have := HEN.out; have := HN.out; omega)
              (by
                rw [List.length_append, List.length_append, List.length_append, zer_len, List.length_map, ← HRLE.out, ← HA.out, ← HM.out]
                have := HCN.out; have := HPAR.out; omega))
            gi_wp2
            have hF := HEND.out.2
            have hM := HEND.out.1
            have hFX := HL.out.2.1
            have hlo : ∀ g, inBlk (.slice (some ⟨gd, od, none⟩) n cd) g → g < w.heap.size := fun g hg => HLOW.out g (.inl hg)
            exact ⟨fix_part (hFX.trans hF) HLAY.out.1 HLAY.out.2.1 HLAY.out.2.2 hlo, by have := HL.out.2.2; simpa using this, _, _, _, by rw [List.length_append]; exact hM⟩
      · have HC : Hid (Calls Tryd.prog 48 #[.slice (some ad) rn rn, .int .i64 ((ms : Nat) : Int), .pointer (some ⟨bf, 0, none⟩), .pointer (some ⟨bt, 0, none⟩)] X fun e w' => e = .returned (.tuple #[.slice none 0 0, .slice none 0 0, .bool false]) ∧ Below X.heap.size X w') := Lib.hid (HB.out.mono (by
          rintro e w' ⟨⟨h1, _⟩ | ⟨_, h1⟩, hb⟩
          · rw [← HRO.out] at h1; omega
          · exact ⟨h1, hb⟩))
        have HNO : Hid (movB fr tt l = none) := Lib.hid (by
          unfold movB
          rw [HST.out, movF, ← HRO.out, ← HRN.out]
          rw [if_pos hTT, if_neg (by have := HMS.out; have := HRN.out; have := HM1.out; omega)])
        clear HB hfit
        gi_upto_region 11 with fail
        clear fp fs z4 z5 z6 w1 w2 w3 t1 t1' cs ca cb
        gi_upto_region 12 with (refine ⟨trivial, ?_⟩; gi_at_call 48; refine (CallsIn.inRound lp (callsIn_wide.2 HC.out)).mono ?_; rintro e w' ⟨rfl, hb⟩; have HX1 := Lib.hid (HH.out.on' hb); have HB1 := Lib.hid hb; clear hb)
        have k4 := HX1.out.r4.cell
        have k5 := HX1.out.r5.cell
        have k6 := HX1.out.r6.cell
        have u4 := HX1.out.r4.frozen
        have u5 := (HX1.out.r5.other (show b + 3 ≠ b + 2 by omega) (.slice none 0 0)).frozen
        have u6 := ((HX1.out.r6.other (show b + 4 ≠ b + 2 by omega) (.slice none 0 0)).other (show b + 4 ≠ b + 3 by omega) (.slice none 0 0)).frozen
        gi_wp2
        obtain ⟨q1, q2, q3, q4, q5⟩ := mj_fail HH.out (fun g hg => HLOW.out g (.inl hg)) HSX.out HB1.out
        exact ⟨q1, HNO.out, q2, q3, q4, q5⟩
    · have hee : en < n := by
        have : en ≠ n := fun e => hTT (HTN.out.2 e)
        omega
      have t1 : decide (en < n) = true := decide_eq_true (by omega)
      have t1' : decide ((en : Int) < (n : Int)) = true := decide_eq_true (by omega)
      have HB := Lib.hid (become_any bf bt vf vt (.slice (some ad) rn rn) fr tt r ((ms - 1) : Nat) X HFT.out HRX.out ⟨_, _, _, rfl⟩ hf ht1 HRL.out hf2 ht2 (by omega) HLX.out)
      by_cases hfit : rO.length ≤ (ms - 1)
      · have HC : Hid (Calls Tryd.prog 48 #[.slice (some ad) rn rn, .int .i64 (((ms - 1) : Nat) : Int), .pointer (some ⟨bf, 0, none⟩), .pointer (some ⟨bt, 0, none⟩)] X fun e w' => ∃ v1 v2, e = .returned (.tuple #[v1, v2, .bool true]) ∧ w'.ownsRow X.heap.size 5 1 v1 rO.length (bytesV rO) ∧ w'.ownsRow X.heap.size 3 1 v2 pa.length (natsV pa) ∧ Below X.heap.size X w') := Lib.hid (HB.out.mono (by
          rintro e w' ⟨⟨_, v1, v2, h1, h2, h3⟩ | ⟨h1, _⟩, hb⟩
          · rw [HRO.out, HPA.out]; exact ⟨v1, v2, h1, h2, h3, hb⟩
          · rw [← HRO.out] at h1; omega))
        clear HB
        gi_upto_region 11 with fail
        clear fp fs z4 z5 z6 w1 w2 w3 t1 t1' cs ca cb
        gi_upto_region 12 with (refine ⟨trivial, ?_⟩; gi_at_call 48; refine (CallsIn.inRound lp (callsIn_wide.2 HC.out)).mono ?_; rintro e w' ⟨v14, v15, rfl, hO, hP, hb⟩; have HX1 := Lib.hid (HH.out.on' hb); have HB1 := Lib.hid hb; have HO1 := Lib.hid hO; have HP1 := Lib.hid hP; obtain ⟨a14, c14, rfl⟩ := own_slice hO; obtain ⟨a15, c15, rfl⟩ := own_slice hP; clear hb hO hP)
        have ka := HX1.out.ba.cell
        have ks := HX1.out.bs.cell
        rw [← HA.out] at ks
        rw [← HN.out] at ka
        have hae : a < en := by have h1 := HEN.out; have h2 := HM1.out; omega
        obtain ⟨m, hm⟩ : ∃ m, m = pa.length := ⟨_, rfl⟩
        have hmb : m ≤ 1000000 := by
          have h1 : pa.length ≤ r.length := by rw [HPA.out, putA_len]; exact plcs_count fr r hf
          have := HRL.out
          omega
        have HM := Lib.hid hm
        have HPAR : Hid (m ≤ ms) := Lib.hid (by
          have h1 : pa.length ≤ r.length := by rw [HPA.out, putA_len]; exact plcs_count fr r hf
          have := HMS.out
          omega)
        obtain ⟨rl, hrl⟩ : ∃ rl, rl = rO.length := ⟨_, rfl⟩
        have HRLE := Lib.hid hrl
        have hrlb : rl ≤ ms := by have := HM1.out; omega
        have HALL : Hid (Box w' (b + 5) 5 (bytesV (o ++ zer (n - a))).toArray) := Lib.hid (by
          have := HX1.out.all
          rw [← HN.out, ← HA.out] at this
          exact this)
        have HRO1 : Hid (Rd w' (.slice a14 rl c14) (bytesV rO)) := Lib.hid (by rw [hrl]; exact Rd.of_own HO1.out)
        have HPUT := Lib.hid (all_put (rO := rO) (n := n) HA.out (by have := HEN.out; omega))
        rw [← hm] at HP1 ⊢
        rw [← hrl] at hfit ⊢
        have HC1 : Hid (rO.length ≤ en - a) := Lib.hid (by have := HEN.out; have := HRLE.out; omega)
        have HC2 : Hid (a + rO.length ≤ (bytesV (o ++ zer (n - a))).length) := Lib.hid (by
          rw [bytesV_len, List.length_append, zer_len, ← HA.out]
          have := HEN.out; have := HRLE.out; omega)
        have HPLE : Hid (∀ i ∈ pa, i ≤ rl) := Lib.hid (by rw [hrl, HRO.out, HPA.out]; exact putA_le fr tt r)
        have HFIT := Lib.hid hfit
        clear hm hrl hfit
        gi_wp2_with (refine wpListIn_copy_here rfl (.tmp 54) (.tmp 55) rfl (b + 5) a (en - a) (en - a) (bytesV (o ++ zer (n - a))) (.slice a14 rl c14) rO rfl rfl HALL.out HRO1.out HC1.out HC2.out ?_; intro w2 hbx hgr; have HST2 := Lib.hid (mm_start HH.out HX1.out HSX.out HB1.out (by rw [← HM.out]; exact HP1.out) (by rw [← HPUT.out]; exact hbx) hgr); clear hbx hgr; refine Hid.out ?_)
        refine Lib.hid ?_
        clear ka ks HX1 HALL HRO1 HC1 HC2 HO1 HPUT HC cc
        gi_wp2
        obtain ⟨CS, hCS⟩ : ∃ z, z = o ++ rO ++ zer (n - a - rO.length) := ⟨_, rfl⟩
        have HCS := Lib.hid hCS
        rw [← hCS, ← HA.out] at HST2
        clear hCS
        gi_loopw [59] (fun i wr => ∃ (q : Nat) (vq : Value), i = .int .i64 (q : Int) ∧ q ≤ m ∧ Hid (MM w b b6 W.heap.size l (.slice (some ⟨gd, od, none⟩) n cd) (.func (.func 48) #[] #[.pointer (some ⟨bf, 0, none⟩), .pointer (some ⟨bt, 0, none⟩)]) vq (.slice a15 m c15) CS a (al ++ (pa.take q).map (o.length + ·)) pa wr ∧ Fix (mjF b b6 W.heap.size) X wr ∧ X.heap.size ≤ wr.heap.size)) (fun i _ => m - (Lib.intOf i).toNat)
        case atStart => exact ⟨0, _, rfl, Nat.zero_le _, by simpa using HST2⟩
        case round =>
          obtain ⟨q, vq, rfl, hqm, HL⟩ := hrel
          by_cases hq : q < m
          · have hqp : q < pa.length := by rw [← HM.out]; exact hq
            obtain ⟨x, hx⟩ : ∃ x, x = pa[q] := ⟨_, rfl⟩
            have hxb : x ≤ 1000000 := by
              have := HPLE.out x (by rw [hx]; exact List.getElem_mem hqp)
              omega
            obtain ⟨g1, o1, hg15, hg1, e1⟩ := HL.out.1.row.numAt hqp
            cases hg15
            rw [← hx] at e1
            obtain ⟨y, hy⟩ : ∃ y, y = a + x := ⟨_, rfl⟩
            have w6 : IntKind.i64.wrap ((a : Int) + (x : Int)) = (y : Int) := by rw [hy]; exact IntWalk.i64_in _ (by omega)
            have HTK : Hid ((pa.take (q + 1)).map (o.length + ·) = (pa.take q).map (o.length + ·) ++ [y]) := Lib.hid (by
              rw [List.take_succ_eq_append_getElem hqp, List.map_append, hy, hx, HA.out]; rfl)
            obtain ⟨L, hL⟩ : ∃ L, L = al ++ (pa.take q).map (o.length + ·) := ⟨_, rfl⟩
            have HLE : Hid (L = al ++ (pa.take q).map (o.length + ·)) := Lib.hid hL
            rw [← hL] at HL
            obtain ⟨nL, hnL⟩ : ∃ nL, nL = L.length := ⟨_, rfl⟩
            have HNB : Hid (nL ≤ 2000000) := Lib.hid (by
              rw [hnL, hL, List.length_append, List.length_map, List.length_take]
              have := HCN.out
              omega)
            obtain ⟨ap, cp, rfl⟩ := own_slice HL.out.1.op
            have lp8 := HL.out.1.bp.cell
            have lp9 := HL.out.1.bs.cell
            obtain ⟨WB, hWB⟩ : ∃ z, z = wr.alloc (.cells #[.int .i64 (y : Int)] 3) := ⟨_, rfl⟩
            have hBB : Below wr.heap.size wr WB := by rw [hWB]; exact below_new _ _
            have HBB := Lib.hid (HL.out.1.on' hBB)
            have HNW : Hid (∀ (j : Nat) (u : Value), [i64 y][j]? = some u → WB.cell? ((⟨wr.heap.size, 0, none⟩ : Addr).add j) = some u) := Lib.hid (fun j u hu => by
              rw [addr_add, Nat.zero_add]
              have hbx : Box WB wr.heap.size 3 #[i64 y] := by rw [hWB]; exact heap_alloc_new wr _
              exact hbx.cell (by simpa using hu))
            have HWB := Lib.hid hWB
            have HSB : Hid (w.heap.size ≤ WB.heap.size ∧ W.heap.size + 2 ≤ WB.heap.size) := Lib.hid (by have := HSX.out; have := hBB.size; have := HBB.out.low.size; have := HL.out.2.2; omega)
            have HFB := Lib.hid (HL.out.2.1.trans (Fix.below (Z := mjF b b6 W.heap.size) hBB (fun k hk => by have := hk.1; have := HSX.out; have := HL.out.2.2; omega)))
            have HSS : Hid (X.heap.size ≤ WB.heap.size) := Lib.hid (by have := hBB.size; have := HL.out.2.2; omega)
            obtain ⟨i3, hi3, hz30, hz31, hz32⟩ := info_parts info3
            have HP2 : Hid (∀ v' w', w'.ownsRow w.heap.size 3 1 v' (L.length + 1) (natsV L ++ [i64 y]) → WB.grownBy w' (Value.slice ap L.length cp).ownBlock → (v'.ownBlock = (Value.slice ap L.length cp).ownBlock ∨ v'.ownBlock = some WB.heap.size) → (MM w b b6 W.heap.size l (.slice (some ⟨gd, od, none⟩) n cd) (.func (.func 48) #[] #[.pointer (some ⟨bf, 0, none⟩), .pointer (some ⟨bt, 0, none⟩)]) v' (.slice (some ⟨g1, o1, none⟩) m c15) CS a (L ++ [y]) pa (w'.setCell ⟨b6 + 1, 0, none⟩ v') ∧ Fix (mjF b b6 W.heap.size) X (w'.setCell ⟨b6 + 1, 0, none⟩ v') ∧ X.heap.size ≤ (w'.setCell ⟨b6 + 1, 0, none⟩ v').heap.size) ∧ Boxed w' (b6 + 1) 27 (.slice ap L.length cp)) := Lib.hid (fun v' w' e1 e2 e3 => by
              have h1 := HBB.out.put (al' := L ++ [y]) HSB.out.2 (by rw [natsV_app, List.length_append]; exact e1) e2 e3
              exact ⟨⟨h1.1, HFB.out.trans h1.2.1, Nat.le_trans HSS.out h1.2.2⟩, HBB.out.bp.kept e2 fun e => by have := HBB.out.sp _ e.symm; have := HBB.out.lay; omega⟩)
            have HNL : Hid (nL = L.length) := Lib.hid hnL
            clear hx hxb hy hL hnL hqp hWB hBB
            gi_wp2_with (gi_at_builtin; go_loud (rw [← HWB.out]; refine wpListIn_append_own_at _ rfl _ _ 27 rfl w.heap.size 3 i3 (.int .i64 0) 1 8 Tryd.underlying27 hi3 hz30 hz31 hz32 rfl (by decide) _ _ _ rfl HBB.out.op ⟨wr.heap.size, 0, none⟩ 1 1 [i64 y] rfl rfl HNW.out (by simp [Value.oneCell', i64]) (by have := HNB.out; have := HNL.out; unfold maxLen; omega) (by have := HNB.out; have := HNL.out; omega) HSB.out.1 ?_; intro v6 w6 hown6 hg6 _ hat6; obtain ⟨hB6, hX6⟩ := HP2.out v6 w6 hown6 hg6 hat6; have xw := hX6.cell; have fw := hX6.frozen; have HB6 := Lib.hid hB6; obtain ⟨a6, c6, rfl⟩ := own_slice hown6; clear hown6 hg6 hat6 hB6 hX6 lp8; refine Hid.out ?_))
            refine Lib.hid ?_
            gi_wp2
            go_roundw
            case rel => exact ⟨q + 1, _, by go_num, hq, by rw [HTK.out, ← List.append_assoc, ← HLE.out]; exact HB6⟩
            case measure => simp [Lib.intOf]; omega
          · obtain rfl : q = m := by omega
            have HTA : Hid (al ++ (pa.take q).map (o.length + ·) = al ++ pa.map (o.length + ·)) := Lib.hid (by rw [HM.out, List.take_length])
            rw [HTA.out] at HL
            clear HTA
            have zs := HL.out.1.bs.cell
            have zf := HL.out.1.bs.frozen
            have HEND := Lib.hid (mm_end (k := pre.length + 1) (en := en) (o2 := o ++ rO ++ zer (ms - rO.length)) HL.out.1
              (by rw [HCS.out, HA.out, ← HN.out]; exact all_next (by rw [← HRLE.out]; exact hrlb) (by have := HEN.out; have := HA.out; omega))
              (by rw [List.length_append, List.length_append, zer_len, ← HRLE.out, ← HA.out]; have := HEN.out; omega)
              (by rw [HST.out, movF, ← HRO.out, ← HPA.out, ← HT.out, ← HMS.out, if_neg hTT, if_pos (by rw [← HRLE.out]; have := HM1.out; have := HFIT.out; omega)])
              (by rw [List.length_append, List.length_append, zer_len, ← HRLE.out, ← HA.out, ← HT.out]; have := HLF.out; have := HEN.out; have := HN.out; omega)
              (by
                rw [List.length_append, List.length_append, List.length_append, zer_len, List.length_map, ← HRLE.out, ← HA.out, ← HM.out]
                have := HCN.out; have := HPAR.out; omega))
            gi_wp2
            have hF := HEND.out.2
            have hM := HEND.out.1
            have hFX := HL.out.2.1
            have hlo : ∀ g, inBlk (.slice (some ⟨gd, od, none⟩) n cd) g → g < w.heap.size := fun g hg => HLOW.out g (.inl hg)
            exact ⟨fix_part (hFX.trans hF) HLAY.out.1 HLAY.out.2.1 HLAY.out.2.2 hlo, by have := HL.out.2.2; simpa using this, _, _, _, by rw [List.length_append]; exact hM⟩
      · have HC : Hid (Calls Tryd.prog 48 #[.slice (some ad) rn rn, .int .i64 (((ms - 1) : Nat) : Int), .pointer (some ⟨bf, 0, none⟩), .pointer (some ⟨bt, 0, none⟩)] X fun e w' => e = .returned (.tuple #[.slice none 0 0, .slice none 0 0, .bool false]) ∧ Below X.heap.size X w') := Lib.hid (HB.out.mono (by
          rintro e w' ⟨⟨h1, _⟩ | ⟨_, h1⟩, hb⟩
          · rw [← HRO.out] at h1; omega
          · exact ⟨h1, hb⟩))
        have HNO : Hid (movB fr tt l = none) := Lib.hid (by
          unfold movB
          rw [HST.out, movF, ← HRO.out, ← HRN.out]
          rw [if_neg hTT, if_neg (by have := HMS.out; have := HRN.out; have := HM1.out; omega)])
        clear HB hfit
        gi_upto_region 11 with fail
        clear fp fs z4 z5 z6 w1 w2 w3 t1 t1' cs ca cb
        gi_upto_region 12 with (refine ⟨trivial, ?_⟩; gi_at_call 48; refine (CallsIn.inRound lp (callsIn_wide.2 HC.out)).mono ?_; rintro e w' ⟨rfl, hb⟩; have HX1 := Lib.hid (HH.out.on' hb); have HB1 := Lib.hid hb; clear hb)
        have k4 := HX1.out.r4.cell
        have k5 := HX1.out.r5.cell
        have k6 := HX1.out.r6.cell
        have u4 := HX1.out.r4.frozen
        have u5 := (HX1.out.r5.other (show b + 3 ≠ b + 2 by omega) (.slice none 0 0)).frozen
        have u6 := ((HX1.out.r6.other (show b + 4 ≠ b + 2 by omega) (.slice none 0 0)).other (show b + 4 ≠ b + 3 by omega) (.slice none 0 0)).frozen
        gi_wp2
        obtain ⟨q1, q2, q3, q4, q5⟩ := mj_fail HH.out (fun g hg => HLOW.out g (.inl hg)) HSX.out HB1.out
        exact ⟨q1, HNO.out, q2, q3, q4, q5⟩
  case done =>
    rintro X ⟨vp, o, al, h⟩ hsX hdef
    obtain ⟨ap, cp, rfl⟩ := own_slice h.op
    have hl0 : leftS l (segs l).length = [] := List.drop_eq_nil_of_le (Nat.le_refl _)
    have heq := h.eq
    have hlen := h.len
    rw [hl0] at heq hlen
    have hol : o.length = n := by rw [HN.out]; simpa [flat] using hlen
    have HX : Hid (movF fr tt (segs l) ([], []) = some (o, al)) := Lib.hid (by rw [heq]; rfl)
    have hall := h.all
    rw [← HN.out, hol, Nat.sub_self, show zer 0 = [] from rfl, List.append_nil] at hall
    have hba := h.ba
    rw [← HN.out] at hba
    have HDEF := Lib.hid hdef
    have HH := Lib.hid h
    have HALL := Lib.hid hall
    have HOL := Lib.hid hol
    clear h heq hlen hl0 hall hdef
    obtain ⟨XD, hXD⟩ : ∃ z, z = X.drew := ⟨_, rfl⟩
    have hbD : Below X.heap.size X XD := by rw [hXD]; exact (Below.refl _ X).drew
    have HXD := Lib.hid hXD
    have hS : Boxed X.drew b6 57 (.slice (some ⟨b + 5, 0, none⟩) n n) ∧ Boxed X.drew (b6 + 1) 27 (.slice ap al.length cp) := ⟨hba, HH.out.bp⟩
    have k1 := Go.Joins.run_convert_bytes_const_at (P := Tryd.prog) XD 57 5 #[.int .u8 0] 1 1 XD.heap.size rfl Tryd.underlying57 Tryd.underlying5
    have k1 : (Go.convert 57 57 (.slice (some ⟨XD.heap.size, 0, none⟩) 1 1)).run Tryd.prog (XD.alloc (.cells #[.int .u8 0] 5)) = .ok (.slice (some ⟨XD.heap.size, 0, none⟩) 1 1) (XD.alloc (.cells #[.int .u8 0] 5 (1, 2))) := k1
    obtain ⟨W1, hW1⟩ : ∃ z, z = XD.alloc (.cells #[.int .u8 0] 5 (1, 2)) := ⟨_, rfl⟩
    have hb1 : Below XD.heap.size XD W1 := by rw [hW1]; exact below_new _ _
    have h1 := (HH.out.on' hbD).on' hb1
    have HM1 := Lib.hid h1
    have HBX := Lib.hid (bch hbD hb1)
    have hcz : W1.cell? ⟨XD.heap.size, 0, none⟩ = some (.int .u8 0) := by rw [hW1]; exact (cell_of_row _ _ 0 _ _ _ (heap_alloc_new XD (.cells #[.int .u8 0] 5 (1, 2)))).trans rfl
    have hrd : Rd W1 (.slice (some ⟨b + 5, 0, none⟩) n n) (bytesV o) := rd_box (t := 5) (by
      have := h1.all
      rw [← HN.out, HOL.out, Nat.sub_self, show zer 0 = [] from rfl, List.append_nil] at this
      exact this) (by rw [bytesV_len, HOL.out]) (by omega)
    have HC := Lib.hid (contains_any ⟨b + 5, 0, none⟩ n n o XD.heap.size 1 W1 hrd hcz)
    have hsm : Boxed W1 b6 57 (.slice (some ⟨b + 5, 0, none⟩) n n) ∧ Boxed W1 (b6 + 1) 27 (.slice ap al.length cp) := by
      have := h1.ba
      rw [← HN.out] at this
      exact ⟨this, h1.bp⟩
    have HSM := Lib.hid hsm
    clear hcz hrd h1 hba hb1 hsm hbD
    have HW1 := Lib.hid hW1
    gi_wp2
    refine region_wide (S := fun W => Boxed W b6 57 (.slice (some ⟨b + 5, 0, none⟩) n n) ∧ Boxed W (b6 + 1) 27 (.slice ap al.length cp)) (by kernel_rfl) (by kernel_rfl) hS (fun hHeld => ?_)
    rw [← HXD.out] at hHeld ⊢
    clear hS hXD
    refine wpAnyH_take (i := 0) (oi := { dst := some 71, op := Op.load 57 (Operand.tmp 7), type := 57, pos := "move.go:63", after := #[], guard := none }) (v := ?_) rfl (by kernel_rfl) (by kernel_rfl) (by kernel_rfl) (fun _ _ _ h => h) (Or.inl ⟨by rfl, ?_⟩) hHeld ?_
    rotate_left
    · (intro w hSw; have p0 := hSw.1.cell; go_simp; try with_reducible rfl)
    (try simp only [Act.put, List.setIfInBounds_toArray, List.set_cons_zero, List.set_cons_succ])
    refine wpAnyH_take (i := 1) (oi := { dst := some 72, op := Op.load 27 (Operand.tmp 8), type := 27, pos := "move.go:63", after := #[], guard := none }) (v := ?_) rfl (by kernel_rfl) (by kernel_rfl) (by kernel_rfl) (fun _ _ _ h => h) (Or.inl ⟨by rfl, ?_⟩) hHeld ?_
    rotate_left
    · (intro w hSw; have p0 := hSw.2.cell; go_simp; try with_reducible rfl)
    (try simp only [Act.put, List.setIfInBounds_toArray, List.set_cons_zero, List.set_cons_succ])
    refine wpAnyH_take (i := 2) (oi := { dst := some 73, op := Op.load 57 (Operand.tmp 7), type := 57, pos := "move.go:63", after := #[], guard := none }) (v := ?_) rfl (by kernel_rfl) (by kernel_rfl) (by kernel_rfl) (fun _ _ _ h => h) (Or.inl ⟨by rfl, ?_⟩) hHeld ?_
    rotate_left
    · (intro w hSw; have p0 := hSw.1.cell; go_simp; try with_reducible rfl)
    (try simp only [Act.put, List.setIfInBounds_toArray, List.set_cons_zero, List.set_cons_succ])
    refine wpAnyH_ready (rs := [3]) (by kernel_rfl) (by simp) (AllReadyH.cons (o := { dst := some 74, op := Op.buildSlice 57 1 #[(0, Operand.const (Value.int IntKind.u8 0))], type := 57, pos := "move.go:63", after := #[], guard := none }) rfl (fun K hK => ?_) AllReadyH.nil)
    go_simp
    refine hK.out _ _ ⟨hHeld.1.alloc _, hHeld.2.alloc _⟩ (fun hHeld => ?_)
    clear hK K
    (try simp only [Act.put, List.setIfInBounds_toArray, List.set_cons_zero, List.set_cons_succ])
    refine wpAnyH_ready (rs := [4]) (by kernel_rfl) (by simp) (AllReadyH.cons (o := { dst := some 75, op := Op.convert 57 57 (Operand.tmp 74), type := 57, pos := "move.go:63", after := #[{ on := 3, ground := Ground.data }], guard := none }) rfl (fun K hK => ?_) AllReadyH.nil)
    go_simp
    refine hK.out _ _ (show Boxed (XD.alloc (.cells #[.int .u8 0] 5 (1, 2))) b6 57 (.slice (some ⟨b + 5, 0, none⟩) n n) ∧ Boxed (XD.alloc (.cells #[.int .u8 0] 5 (1, 2))) (b6 + 1) 27 (.slice ap al.length cp) from HW1.out ▸ HSM.out) (fun hHeld => ?_)
    clear hK K
    (try simp only [Act.put, List.setIfInBounds_toArray, List.set_cons_zero, List.set_cons_succ])
    rw [← HW1.out]
    clear hW1 k1
    refine wpAnyH_ready (rs := [5]) (by kernel_rfl) (by simp) (AllReadyH.cons (o := { dst := some 76, op := Op.call { callee := Callee.value (Operand.func 50), args := #[Operand.tmp 73, Operand.tmp 75], argTypes := #[57, 57] }, type := 4, pos := "move.go:63", after := #[{ on := 2, ground := Ground.data }, { on := 4, ground := Ground.data }], guard := none }) rfl (fun K hK => ?_) AllReadyH.nil)
    go_simp
    go_wp2_with (go_at_call 50; refine HC.out.mono ?_; rintro e w' ⟨rfl, rfl⟩)
    refine hK.out _ _ HSM.out (fun hHeld => ?_)
    clear hK K
    (try simp only [Act.put, List.setIfInBounds_toArray, List.set_cons_zero, List.set_cons_succ])
    have q4 := HM1.out.r4.cell
    have q5 := HM1.out.r5.cell
    have q6 := HM1.out.r6.cell
    have u4 := HM1.out.r4.frozen
    have u5 := (HM1.out.r5.other (show b + 3 ≠ b + 2 by omega) (.slice (some ⟨b + 5, 0, none⟩) n n)).frozen
    have u6 := ((HM1.out.r6.other (show b + 4 ≠ b + 2 by omega) (.slice (some ⟨b + 5, 0, none⟩) n n)).other (show b + 4 ≠ b + 3 by omega) (.slice ap al.length cp)).frozen
    refine wpAnyH_ready (rs := [6]) (by kernel_rfl) (by simp) (AllReadyH.cons (o := { dst := none, op := Op.store 57 (Operand.tmp 4) (Operand.tmp 71), type := 0, pos := "move.go:63", after := #[{ on := 0, ground := Ground.data }, { on := 5, ground := Ground.chain }, { on := 0, ground := Ground.phase }, { on := 1, ground := Ground.textOnly Departure.inlinedCapture }, { on := 2, ground := Ground.textOnly Departure.lateStores }, { on := 3, ground := Ground.textOnly Departure.inlinedCapture }, { on := 4, ground := Ground.textOnly Departure.inlinedCapture }, { on := 5, ground := Ground.textOnly Departure.lateStoresUnsure }], guard := none }) rfl (fun K hK => ?_) AllReadyH.nil)
    go_simp
    refine hK.out _ _ ⟨HSM.out.1.other (show b6 ≠ b + 2 by omega) _, HSM.out.2.other (show b6 + 1 ≠ b + 2 by omega) _⟩ (fun hHeld => ?_)
    clear hK K
    (try simp only [Act.put, List.setIfInBounds_toArray, List.set_cons_zero, List.set_cons_succ])
    refine wpAnyH_ready (rs := [7]) (by kernel_rfl) (by simp) (AllReadyH.cons (o := { dst := none, op := Op.store 27 (Operand.tmp 5) (Operand.tmp 72), type := 0, pos := "move.go:63", after := #[{ on := 1, ground := Ground.data }, { on := 6, ground := Ground.chain }, { on := 0, ground := Ground.phase }, { on := 1, ground := Ground.phase }, { on := 2, ground := Ground.textOnly Departure.lateStores }, { on := 3, ground := Ground.textOnly Departure.inlinedCapture }, { on := 4, ground := Ground.textOnly Departure.inlinedCapture }, { on := 5, ground := Ground.textOnly Departure.lateStoresUnsure }, { on := 6, ground := Ground.phase }], guard := none }) rfl (fun K hK => ?_) AllReadyH.nil)
    go_simp
    refine hK.out _ _ ⟨hHeld.1.other (show b6 ≠ b + 3 by omega) _, hHeld.2.other (show b6 + 1 ≠ b + 3 by omega) _⟩ (fun hHeld => ?_)
    clear hK K
    (try simp only [Act.put, List.setIfInBounds_toArray, List.set_cons_zero, List.set_cons_succ])
    refine wpAnyH_ready (rs := [8]) (by kernel_rfl) (by simp) (AllReadyH.cons (o := { dst := none, op := Op.store 4 (Operand.tmp 6) (Operand.tmp 76), type := 0, pos := "move.go:63", after := #[{ on := 5, ground := Ground.data }, { on := 7, ground := Ground.chain }, { on := 0, ground := Ground.phase }, { on := 1, ground := Ground.phase }, { on := 2, ground := Ground.phase }, { on := 3, ground := Ground.phase }, { on := 4, ground := Ground.phase }, { on := 5, ground := Ground.phase }, { on := 6, ground := Ground.phase }, { on := 7, ground := Ground.phase }], guard := none }) rfl (fun K hK => ?_) AllReadyH.nil)
    go_simp
    refine hK.out _ _ ⟨hHeld.1.other (show b6 ≠ b + 4 by omega) _, hHeld.2.other (show b6 + 1 ≠ b + 4 by omega) _⟩ (fun hHeld => ?_)
    clear hK K
    (try simp only [Act.put, List.setIfInBounds_toArray, List.set_cons_zero, List.set_cons_succ])
    refine wpAnyH_done (by kernel_rfl) ?_ _
    simp only [Plainly]
    obtain ⟨l1, l2, l3⟩ := HLAY.out
    have hx := HM1.out
    obtain ⟨W4, hW4⟩ : ∃ z, z = ((W1.setCell ⟨b + 2, 0, none⟩ (.slice (some ⟨b + 5, 0, none⟩) n n)).setCell ⟨b + 3, 0, none⟩ (.slice ap al.length cp)).setCell ⟨b + 4, 0, none⟩ (.bool (binB o)) := ⟨_, rfl⟩
    have h4 : ∀ q, q ≠ b + 2 → q ≠ b + 3 → q ≠ b + 4 → W4.heap[q]? = W1.heap[q]? := fun q g2 g3 g4 => by
      rw [hW4]
      exact (Below.heap_setCell _ _ _ _ g4).trans ((Below.heap_setCell _ _ _ _ g3).trans (Below.heap_setCell _ _ _ _ g2))
    have hdx := HDEF.out
    have hdl := (Array.getElem?_eq_some_iff.1 hdx).1
    have hd4 : W4.heap[W.heap.size]? = some (.deferred (some [])) := (h4 _ (by omega) (by omega) (by omega)).trans ((HBX.out.block _ hdl).trans hdx)
    have b2 : Boxed W4 (b + 2) 57 (.slice (some ⟨b + 5, 0, none⟩) n n) := by rw [hW4]; exact ((hx.r4.set _).other (by omega) _).other (by omega) _
    have b3 : Boxed W4 (b + 3) 27 (.slice ap al.length cp) := by rw [hW4]; exact ((hx.r5.other (by omega) _).set _).other (by omega) _
    have b4 : Boxed W4 (b + 4) 4 (.bool (binB o)) := by rw [hW4]; exact ((hx.r6.other (by omega) _).other (by omega) _).set _
    have hlow : Below w.heap.size w W4 := by rw [hW4]; exact ((hx.low.setCell (p := ⟨b + 2, 0, none⟩) (by show w.heap.size ≤ b + 2; omega) _).setCell (p := ⟨b + 3, 0, none⟩) (by show w.heap.size ≤ b + 3; omega) _).setCell (p := ⟨b + 4, 0, none⟩) (by show w.heap.size ≤ b + 4; omega) _
    have hop : W4.ownsRow w.heap.size 3 1 (.slice ap al.length cp) al.length (natsV al) := by
      have far : ∀ q, q < W.heap.size + 2 → (Value.slice ap al.length cp).ownBlock ≠ some q := fun q hq e => by have := hx.sp q e; omega
      rw [hW4]
      exact owns_grown (owns_grown (owns_grown hx.op (grownBy_setCell' _ _ _) (fun r e e2 => by cases e; exact far _ (by omega) e2)) (grownBy_setCell' _ _ _) (fun r e e2 => by cases e; exact far _ (by omega) e2)) (grownBy_setCell' _ _ _) (fun r e e2 => by cases e; exact far _ (by omega) e2)
    have hbx5 : Box W4 (b + 5) 5 (bytesV o).toArray := by
      have := hx.all
      rw [← HN.out, HOL.out, Nat.sub_self, show zer 0 = [] from rfl, List.append_nil] at this
      exact (h4 _ (by omega) (by omega) (by omega)).trans this
    have c2 : (W4.putObj W.heap.size (.deferred none)).cell? ⟨b + 2, 0, none⟩ = some (.slice (some ⟨b + 5, 0, none⟩) n n) := Boxed.cell ((World.putObj_heap_other (by omega)).trans b2)
    have c3 : (W4.putObj W.heap.size (.deferred none)).cell? ⟨b + 3, 0, none⟩ = some (.slice ap al.length cp) := Boxed.cell ((World.putObj_heap_other (by omega)).trans b3)
    have c4 : (W4.putObj W.heap.size (.deferred none)).cell? ⟨b + 4, 0, none⟩ = some (.bool (binB o)) := Boxed.cell ((World.putObj_heap_other (by omega)).trans b4)
    have hlow5 : Below w.heap.size w (W4.putObj W.heap.size (.deferred none)) := put_below hlow (by omega)
    have hop5 := own_put (o := .deferred none) hop hd4
    have hrd5 : Rd (W4.putObj W.heap.size (.deferred none)) (.slice (some ⟨b + 5, 0, none⟩) n n) (bytesV o) := rd_box (t := 5) ((World.putObj_heap_other (by omega)).trans hbx5) (by rw [bytesV_len, HOL.out]) (by omega)
    have HMB : Hid (movB fr tt l = if 0 ∈ o then some (o, al) else none) := Lib.hid (by unfold movB; rw [HX.out])
    have HALLX := Lib.hid (show MovBR fr tt l w (.returned (.tuple #[.slice (some ⟨b + 5, 0, none⟩) n n, .slice ap al.length cp, .bool (binB o)])) (W4.putObj W.heap.size (.deferred none)) from ⟨by
      by_cases h0 : 0 ∈ o
      · exact .inl ⟨o, al, _, _, by rw [HMB.out, if_pos h0], by rw [show binB o = true from decide_eq_true h0], hrd5, hop5⟩
      · exact .inr ⟨by rw [HMB.out, if_neg h0], _, _, by rw [show binB o = false from decide_eq_false h0]⟩, hlow5⟩)
    have HD4 := Lib.hid hd4
    rw [← hW4]
    clear hx h4 hdx hdl b2 b3 b4 hlow hop hbx5 hlow5 hop5 hrd5 hW4 hd4 q4 q5 q6 u4 u5 u6 hHeld l1 l2 l3
    gi_wp2
    refine ⟨by simp, .inl ⟨_, _, rfl, run_takeDeferred HD4.out, ?_⟩⟩
    refine ⟨.tuple #[.slice (some ⟨b + 5, 0, none⟩) n n, .slice ap al.length cp, .bool (binB o)], ?_, HALLX.out⟩
    simp [results, Tryd.f35, go_sem, c2, c3, c4]
  case stop =>
    rintro pre X ⟨hmv, h1, h2, h3, hb⟩ hsX hdef
    obtain ⟨l1, l2, l3⟩ := HLAY.out
    have c2 : (X.putObj W.heap.size (.deferred none)).cell? ⟨b + 2, 0, none⟩ = some (.slice none 0 0) := Boxed.cell ((World.putObj_heap_other (by omega)).trans h1)
    have c3 : (X.putObj W.heap.size (.deferred none)).cell? ⟨b + 3, 0, none⟩ = some (.slice none 0 0) := Boxed.cell ((World.putObj_heap_other (by omega)).trans h2)
    have c4 : (X.putObj W.heap.size (.deferred none)).cell? ⟨b + 4, 0, none⟩ = some (.bool false) := Boxed.cell ((World.putObj_heap_other (by omega)).trans h3)
    have hlow5 : Below w.heap.size w (X.putObj W.heap.size (.deferred none)) := put_below hb (by omega)
    have HALLX := Lib.hid (show MovBR fr tt l w (.returned (.tuple #[.slice none 0 0, .slice none 0 0, .bool false])) (X.putObj W.heap.size (.deferred none)) from ⟨.inr ⟨hmv, _, _, rfl⟩, hlow5⟩)
    have HDEF := Lib.hid hdef
    clear hmv hb hdef h1 h2 h3 hlow5 l1 l2 l3
    gi_wp2
    refine ⟨by simp, .inl ⟨_, _, rfl, run_takeDeferred HDEF.out, ?_⟩⟩
    refine ⟨.tuple #[.slice none 0 0, .slice none 0 0, .bool false], ?_, HALLX.out⟩
    simp [results, Tryd.f35, go_sem, c2, c3, c4]
end Go.Proofs.YtophihnjlodmjaaDoor
