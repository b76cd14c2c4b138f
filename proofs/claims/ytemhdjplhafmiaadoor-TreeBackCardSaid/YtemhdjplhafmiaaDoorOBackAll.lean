import Derived.Test.YtemhdjplhafmiaaDoorOMath4
import Derived.Test.YtemhdjplhafmiaaDoorOOnce
import Derived.Test.YtemhdjplhafmiaaDoorOCommon
/- Plain words on trees: what was made, and is gone again, was never there; what was moved back is as it was. -/
namespace Go.Proofs.YtemhdjplhafmiaaDoor

theorem chk_plain {k : Int} {p : Str} (hk : k = 6 ∨ k = 7) (hv : validB p = true) : checkM ⟨k, p, [], []⟩ = 0 := by
  rcases hk with rfl | rfl <;> simp [checkM, mostM, leastM, hv]
theorem chk_move {p q : Str} (hp : validB p = true) (hq : validB q = true) : checkM ⟨5, p, q, []⟩ = 0 := by
  simp [checkM, mostM, leastM, hp, hq]
theorem new_back {p q : Str} {w : It} {s : List Str} (h : NewOk p q w s) (hv : validB w.path = true) : newI q p (newI p q w) = w := by
  have e : newN q p (newI p q w).path = namesL w.path := by
    unfold newN
    rw [h.names, List.drop_left, h.old]
  have e2 : joinL (newN q p (newI p q w).path) = w.path := by rw [e]; exact (valid_join _ hv).1
  exact congrArg (fun z : Str => (⟨z, w.kind, w.data⟩ : It)) e2
/-- What stands in a tree made of one and an item more is gone again. -/
theorem back_less {l l' : List It} (h : TreeOk l) (h' : TreeOk l') {x : It} (hn : getI l x.path = none) (hm : ∀ y, y ∈ l' ↔ y ∈ l ∨ y = x) :
    getI l' x.path = some x ∧ belowL l' x.path = [] ∧ takeL l' x.path 1 = l ∧ l' ≠ l := by
  have hg : getI l' x.path = some x := (get_some h'.sorted).2 (.inr ⟨(get_none.1 hn).1, (hm x).2 (.inr rfl), rfl⟩)
  have hxl : x ∉ l := fun k => (get_none.1 hn).2 x k rfl
  have hb : belowL l' x.path = [] := by
    refine List.eq_nil_iff_forall_not_mem.2 fun y hy => ?_
    obtain ⟨h1, h2, h3⟩ := (below_mem h'.sorted _ y).1 hy
    rcases (hm y).1 h1 with k | k
    · obtain ⟨z, hz, _⟩ := anc_here h k h2 h3
      rw [hn] at hz; cases hz
    · rw [k] at h3; exact h3 rfl
  have hk := ok_less h' hg (get_none.1 hn).1 (fun y hy => up_of_below h'.sorted hb hy (h'.kid y hy).1)
  refine ⟨hg, hb, srt_ext hk.1.sorted h.sorted fun z => ?_, fun e => hxl (e ▸ (hm x).2 (.inr rfl))⟩
  rw [hk.2.2.2 z, hm z]
  constructor
  · rintro ⟨q | q, r⟩
    · exact q
    · exact absurd q r
  · intro q
    exact ⟨.inl q, fun r => hxl (r ▸ q)⟩
theorem back_unlink {l l' : List It} (h : TreeOk l) (h' : TreeOk l') {x : It} (hv : validB x.path = true) (hk : x.kind ≠ 1) (hn : getI l x.path = none) (hm : ∀ y, y ∈ l' ↔ y ∈ l ∨ y = x) : actM l' ⟨6, x.path, [], []⟩ = .ok l ∧ l' ≠ l := by
  obtain ⟨h1, _, h3, h4⟩ := back_less h h' hn hm
  refine ⟨?_, h4⟩
  unfold actM
  rw [if_neg (by rw [chk_plain (.inl rfl) hv]; decide)]
  show unlinkM l' x.path = _
  unfold unlinkM
  rw [h1]
  simp only
  rw [if_neg hk, h3]
theorem back_rmdir {l l' : List It} (h : TreeOk l) (h' : TreeOk l') {x : It} (hv : validB x.path = true) (hk : x.kind = 1) (hn : getI l x.path = none) (hm : ∀ y, y ∈ l' ↔ y ∈ l ∨ y = x) : actM l' ⟨7, x.path, [], []⟩ = .ok l ∧ l' ≠ l := by
  obtain ⟨h1, h2, h3, h4⟩ := back_less h h' hn hm
  refine ⟨?_, h4⟩
  unfold actM
  rw [if_neg (by rw [chk_plain (.inr rfl) hv]; decide)]
  show rmdirM l' x.path = _
  unfold rmdirM
  rw [h1]
  simp only
  rw [if_neg (by rw [hk]; simp), if_neg, h3]
  rintro (e | e)
  · exact (get_none.1 hn).1 (by rw [e]; rfl)
  · exact e h2
theorem back_move {l l' : List It} (h : TreeOk l) {p q : Str} (hp : validB p = true) (hq : validB q = true) (e : moveM l p q = .ok l') : actM l' ⟨5, q, p, []⟩ = .ok l ∧ l' ≠ l := by
  obtain ⟨x, hg, hu, ho, hn, hf, he, hM⟩ := move_goes h hp hq e
  have hqr := (get_none.1 hn).1
  rcases (get_some h.sorted).1 hg with ⟨k, _⟩ | ⟨_, hx, hxp⟩
  · exact absurd k hM.nr
  have hxu : underB x.path p = true := by rw [hxp]; exact under_self hp
  have hnq : ∀ z ∈ l, underB z.path q = false := by
    intro z hz
    by_cases k : underB z.path q = true
    · by_cases r : z.path = q
      · exact absurd r ((get_none.1 hn).2 z hz)
      · obtain ⟨y, hy, _⟩ := anc_here h hz k r
        rw [hn] at hy; cases hy
    · exact Bool.eq_false_iff.2 k
  have hto : ∀ y ∈ l, underB y.path p = true → underB (newI p q y).path q = true := fun y hy hyu => by
    obtain ⟨s, hs⟩ := hM.fits y hy hyu
    exact under_of hs.valid hq hs.names
  have hpq : underB p q = false := by
    have := hnq x hx
    rwa [hxp] at this
  have hself := new_self (frm := p) hq hxp
  have hg2 : getI l' q = some (newI p q x) := (get_some hM.ok.sorted).2 (.inr ⟨hqr, (hM.mem _).2 (.inr ⟨x, hx, hxu, rfl⟩), by rw [hself.1]⟩)
  have hn2 : getI l' p = none := get_none.2 ⟨hM.nr, fun z hz => by
    rcases (hM.mem z).1 hz with k | ⟨y, hy, hyu, rfl⟩
    · exact under_eq k.2 hp
    · intro r
      have := hto y hy hyu
      rw [r, hpq] at this; cases this⟩
  have ho2 : openM l' p = 0 := by
    have hup := h.up x hx
    rw [hxp] at hup
    unfold openM
    rcases hup with k | ⟨d, hd, k1, k2⟩
    · rw [k, get_root]; rfl
    · have hdu : underB d.path p = false := by
        by_cases r : underB d.path p = true
        · rw [k1] at r
          obtain ⟨_, _, s, h1, _⟩ := under_form r
          have h2 := congrArg List.length h1
          rw [up_names hp, List.length_append, List.length_dropLast] at h2
          have h3 : (namesL p).length ≠ 0 := fun t => hM.nr ((names_root p hp).1 (List.eq_nil_of_length_eq_zero t))
          omega
        · exact Bool.eq_false_iff.2 r
      have : getI l' (upL p) = some d := (get_some hM.ok.sorted).2 (.inr ⟨by rw [← k1]; exact (h.kid d hd).1.2.1, (hM.mem d).2 (.inl ⟨hd, hdu⟩), k1⟩)
      rw [this]
      simp only
      rw [if_pos k2]
  have hun : ∀ y ∈ l', underB y.path q = true → ∃ z ∈ l, underB z.path p = true ∧ y = newI p q z := by
    intro y hy hyu
    rcases (hM.mem y).1 hy with k | k
    · have := hnq y k.1
      rw [hyu] at this; cases this
    · exact k
  have hf2 : fitsM l' q p = true := by
    unfold fitsM
    rw [List.all_eq_true]
    intro y hy
    obtain ⟨h1, h2, h3⟩ := (below_mem hM.ok.sorted q y).1 hy
    obtain ⟨z, hz, hzu, rfl⟩ := hun y h1 h2
    obtain ⟨s, hs⟩ := hM.fits z hz hzu
    have : newN q p (newI p q z).path = namesL z.path := by
      unfold newN
      rw [hs.names, List.drop_left, hs.old]
    rw [this]
    exact (valid_join _ (h.kid z hz).1.1).2
  have hM2 := ok_move hM.ok hq hp hg2 hpq ho2 hn2 hf2
  have hback : putL (takeL l' q ((belowL l' q).length + 1)) (movedM l' q p (newI p q x)) p = l := by
    refine srt_ext hM2.ok.sorted h.sorted fun z => ?_
    rw [hM2.mem z]
    constructor
    · rintro (⟨k1, k2⟩ | ⟨y, hy, hyu, rfl⟩)
      · rcases (hM.mem z).1 k1 with k | ⟨y, hy, hyu, rfl⟩
        · exact k.1
        · have := hto y hy hyu
          rw [k2] at this; cases this
      · obtain ⟨w, hw, hwu, rfl⟩ := hun y hy hyu
        obtain ⟨s, hs⟩ := hM.fits w hw hwu
        rw [new_back hs (h.kid w hw).1.1]; exact hw
    · intro hz
      by_cases hzu : underB z.path p = true
      · obtain ⟨s, hs⟩ := hM.fits z hz hzu
        exact .inr ⟨newI p q z, (hM.mem _).2 (.inr ⟨z, hz, hzu, rfl⟩), hto z hz hzu, (new_back hs (h.kid z hz).1.1).symm⟩
      · exact .inl ⟨(hM.mem z).2 (.inl ⟨hz, Bool.eq_false_iff.2 hzu⟩), hnq z hz⟩
  refine ⟨?_, fun r => ?_⟩
  · unfold actM
    rw [if_neg (by rw [chk_move hq hp]; decide)]
    show moveM l' q p = _
    unfold moveM
    rw [hg2]
    simp only
    rw [if_neg (by rw [hpq]; decide), if_neg (by rw [ho2]; decide), if_neg (by rw [hn2]; decide), if_neg (by rw [hf2]; decide), hback]
  · have := (get_none.1 hn2).2 x (by rw [r]; exact hx)
    exact this hxp

/-- What leads back. -/
def backM (l : List It) (o : Opn) : Option Opn :=
  if o.kind = 1 then some ⟨7, o.path, [], []⟩
  else if o.kind = 5 then some ⟨5, o.to, o.path, []⟩
  else if o.kind = 2 ∨ o.kind = 4 then (if (getI l o.path).isSome then none else some ⟨6, o.path, [], []⟩)
  else none
theorem act_back {l l' : List It} {o b : Opn} (h : TreeOk l) (e : actM l o = .ok l') (hb : backM l o = some b) : actM l' b = .ok l ∧ l' ≠ l := by
  have hok := (act_goes h e).2.ok
  unfold actM at e
  by_cases h0 : checkM o ≠ 0
  · rw [if_pos h0] at e; cases e
  rw [if_neg h0] at e
  have hc := chk_ok (o := o) (by omega)
  unfold doesM at e
  unfold backM at hb
  by_cases h1 : o.kind = 1
  · rw [if_pos h1] at e hb
    cases hb
    have g := add_goes h (x := ⟨o.path, 1, []⟩) hc.path rfl e
    exact back_rmdir h hok (x := ⟨o.path, 1, []⟩) hc.path rfl g.2.1 g.2.2.2.1
  rw [if_neg h1] at e hb
  by_cases h5 : o.kind = 5
  · rw [if_pos h5] at hb
    cases hb
    rw [if_neg (by omega), if_neg (by omega), if_neg (by omega), if_pos h5] at e
    exact back_move h hc.path (hc.to h5) e
  rw [if_neg h5] at hb
  by_cases h24 : o.kind = 2 ∨ o.kind = 4
  · rw [if_pos h24] at hb
    by_cases hs : (getI l o.path).isSome
    · rw [if_pos hs] at hb; cases hb
    rw [if_neg hs] at hb
    cases hb
    have hn : getI l o.path = none := by simpa using hs
    rcases h24 with h2 | h4
    · rw [if_pos h2] at e
      have hd := hc.data
      rw [h2] at hd
      obtain ⟨g1, g2⟩ := write_goes h hc.path hd e
      rcases g2 with ⟨_, _, _, hm⟩ | ⟨x, hx, _⟩
      · exact back_unlink h g1 (x := ⟨o.path, 2, o.data⟩) hc.path (show (2 : Int) ≠ 1 by decide) hn hm
      · rw [hn] at hx; cases hx
    · rw [if_neg (by omega), if_neg (by omega), if_pos h4] at e
      have hd : (⟨o.path, 3, o.data⟩ : It).dataB = true := by
        have k1 := hc.data
        have k2 := hc.least
        rw [h4] at k1 k2
        show decide (1 ≤ o.data.length ∧ o.data.length ≤ 2000) = true
        exact decide_eq_true ⟨k2, k1⟩
      have g := add_goes h (x := ⟨o.path, 3, o.data⟩) hc.path hd e
      exact back_unlink h hok (x := ⟨o.path, 3, o.data⟩) hc.path (show (3 : Int) ≠ 1 by decide) hn g.2.2.2.1
  · rw [if_neg h24] at hb; cases hb
end Go.Proofs.YtemhdjplhafmiaaDoor

/- Proved here: Get of package tree at whatever path, and Do. -/
namespace Go.Proofs.YtemhdjplhafmiaaDoor
open Go.RowKit Go.Shelf

/-- What Get hands back. -/
def getT (l : List It) (p : Str) : Option It := if validT l = true then getI l p else none
set_option maxRecDepth 100000 in
set_option maxHeartbeats 4000000 in
theorem get_gen (l : List It) (v : Value) (p : Str) (w : World) (hv : RdI w v l) (hx : ∀ x ∈ l, x.path.length ≤ 140737488355328) (hp : p.length ≤ 140737488355328) (hT : Tabs w) :
    Calls Tryd.prog 13 #[.agg #[v], .string ⟨p.toArray⟩] w (GetR (getT l p) w) := by
  obtain ⟨w1, hw1⟩ : ∃ z, z = (w.alloc (.cells #[v] 24)).alloc (.cells #[.string ⟨#[]⟩, .int .i64 0, .string ⟨#[]⟩] 35) := ⟨_, rfl⟩
  have X : Box w1 w.heap.size 24 #[v] := by rw [hw1]; exact box_new.alloc _
  have X1 : Hid (Box w1 (w.heap.size + 1) 35 It.nil.arr) := Lib.hid (by rw [hw1, show w.heap.size + 1 = (w.alloc (.cells #[v] 24)).heap.size from by simp]; exact box_new)
  have HB1 : Hid (Below w.heap.size w w1) := Lib.hid (by rw [hw1]; exact bch (below_new _ _) (below_new _ _))
  obtain ⟨bb, hbb⟩ : ∃ z, z = validT l := ⟨_, rfl⟩
  have HVA := Lib.hid (tvalid_is l bb hbb v w1 (hv.on HB1.out) hx (hT.on HB1.out))
  have HV := Lib.hid (hv.on HB1.out)
  have HT := Lib.hid (hT.on HB1.out)
  have HX := Lib.hid hx
  have HBB := Lib.hid hbb
  obtain ⟨b4, hb4⟩ : ∃ z, z = w.heap.size + 1 := ⟨_, rfl⟩
  rw [← hb4] at X1
  have H4 : Hid (w.heap.size ≤ b4) := Lib.hid (by rw [hb4]; exact Nat.le_succ _)
  have HLT : Hid (w.heap.size < w1.heap.size) := Lib.hid X.lt
  have c0 := X.cell (k := 0) rfl
  obtain ⟨a, c, rfl, _⟩ := hv.open
  have k0 := zeroI
  clear hv hT hx hbb X
  cases bb with
  | false =>
    have HN : Hid (getT l p = none) := Lib.hid (by unfold getT; rw [← HBB.out]; rfl)
    go_enter Tryd.func13, Tryd.ntmps13
    go_upto_region 1 with fail
    rw [← hw1, ← hb4]
    clear hw1 hb4
    go_wp2_with fail
    refine HVA.out.mono ?_
    rintro e w2 ⟨rfl, hb2⟩
    have HB2 := Lib.hid (bch HB1.out hb2)
    have X2 := Lib.hid (X1.out.on hb2)
    clear hb2 c0 X1 HVA
    go_wp2_with (refine wpList_store_row rfl 35 (.tmp 4) (.tmp 10) rfl b4 It.nil.arr rfl rfl 35 _ X2.out (info35 _) rfl (iarr_one _) ?_)
    exact bodyPost_ret (end_item rfl _ (X2.out.row _) rfl rfl) rfl ⟨by rw [HN.out]; rfl, below_row HB2.out H4.out _⟩
  | true =>
    have HOK : Hid (TreeOk l) := Lib.hid (tree_ok HBB.out.symm)
    obtain ⟨o, ho⟩ : ∃ z, z = getT l p := ⟨_, rfl⟩
    have HG0 : Hid (o = getI l p) := Lib.hid (by rw [ho]; unfold getT; rw [if_pos HBB.out.symm])
    rw [← ho]
    obtain ⟨y, hy⟩ : ∃ y, y = o.getD .nil := ⟨_, rfl⟩
    obtain ⟨is, his⟩ : ∃ z, z = o.isSome := ⟨_, rfl⟩
    have HE : Hid (∀ W', Below w.heap.size w W' → GetR o w (.returned (.tuple #[.agg y.arr, .bool is])) W') := Lib.hid (fun W' h => ⟨by rw [hy, his], h⟩)
    have HY := Lib.hid hy
    have HI := Lib.hid his
    clear ho hy his
    go_enter Tryd.func13, Tryd.ntmps13
    go_upto_region 1 with fail
    rw [← hw1, ← hb4]
    clear hw1 hb4
    go_wp2_with fail
    refine HVA.out.mono ?_
    rintro e w2 ⟨rfl, hb2⟩
    have HB2 := Lib.hid (bch HB1.out hb2)
    have c2 := (hb2.cell (p := ⟨w.heap.size, 0, none⟩) HLT.out).trans c0
    have X2 := Lib.hid (X1.out.on hb2)
    have HG : Hid (Calls Tryd.prog 32 #[.slice a l.length c, .string ⟨p.toArray⟩] w2 fun e w' => e = .returned (.tuple #[.agg y.arr, .bool is]) ∧ Below w2.heap.size w2 w') := Lib.hid (by
      have := tget_gen l (.slice a l.length c) p w2 (srt_of HOK.out) HOK.out.many (HV.out.on hb2) HX.out hp (HT.out.on hb2)
      rw [← HG0.out] at this
      rw [HY.out, HI.out]
      exact this)
    clear hb2 c0 X1 HVA
    go_wp2_with fail
    refine HG.out.mono ?_
    rintro e w3 ⟨rfl, hb3⟩
    have X3 := Lib.hid (X2.out.on hb3)
    have HB3 := Lib.hid (bch HB2.out hb3)
    clear hb3 c2 HG
    go_wp2_with (refine wpList_store_row rfl 35 (.tmp 4) (.tmp 15) rfl b4 y.arr rfl rfl 35 _ X3.out (info35 _) rfl (iarr_one _) ?_)
    refine bodyPost_ret ?_ rfl (HE.out _ (below_row HB3.out H4.out _))
    exact end_item rfl _ (X3.out.row _) rfl rfl

/-- What Do comes to. -/
def doM (l : List It) (o : Opn) : Except Int (List It) := if validT l = true then actM l o else .error 160
theorem end_tree2 {fn : Func} {p q : Tmp} (h : fn.results = #[.cell p 24, .tmp q]) (tmps : Array Value) {w : World} {g : Nat} {v : Value} (X : Box w g 24 #[v]) (hp : tmps.getD p undef = .pointer (some ⟨g, 0, none⟩)) {x : Value} (hq : tmps.getD q undef = x) :
    (results fn tmps).run Tryd.prog w = .ok (.tuple #[.agg #[v], x]) w := by
  rw [← hq]
  exact results_two h tmps w g hp #[v] (run_loadVar_row _ g 24 24 #[v] (0, 0) _ X Tryd.underlying24 rfl (info24 v))
theorem one_rd {w : World} {g : Nat} {o : Opn} (X : Box w g 26 o.arr) : RdO w (.slice (some ⟨g, 0, none⟩) 1 1) [o] :=
  ⟨_, 1, rfl, Nat.le_refl _, by decide, fun _ => ⟨g, 0, rfl, X.lt, fun j u hu => by
    rw [Nat.zero_add]
    exact X.cell (by rw [← Array.getElem?_toList]; simpa [flatO, Opn.cells, Opn.arr] using hu)⟩⟩
theorem run_one (l : List It) (v : Value) (o : Opn) (vo : Value) (w : World) (hv : RdI w v l) (hx : ∀ x ∈ l, x.path.length ≤ 140737488355328) (ho : RdO w vo [o]) (hso : o.path.length ≤ 140737488355328 ∧ o.to.length ≤ 140737488355328) (hT : TabS w) :
    Calls Tryd.prog 15 #[.agg #[v], vo] w fun e w' => Below w.heap.size w w' ∧ ∃ a n c many er, e = .returned (.tuple #[.agg #[.slice a n c], .int .i64 many, .int .i64 er]) ∧ ((er ≠ 0 ∧ doM l o = .error er) ∨ (er = 0 ∧ ∃ l', doM l o = .ok l' ∧ OwnI w' w.heap.size (.slice a n c) l')) :=
  (run_any l v [o] vo w hv hx ho (fun q hq => by obtain rfl := List.mem_singleton.1 hq; exact hso) hT).mono fun e w' ⟨hb, hc⟩ => by
    refine ⟨hb, ?_⟩
    rcases hc with ⟨h0, rfl⟩ | ⟨h0, v', he, hown⟩
    · exact ⟨_, _, _, _, _, rfl, .inl ⟨by decide, by unfold doM; rw [h0]; rfl⟩⟩
    · obtain ⟨a, n, c, rfl⟩ := own_any hown
      refine ⟨a, n, c, _, _, he, ?_⟩
      cases ha : actM l o with
      | error z =>
        rw [run_no ha]
        exact .inl ⟨act_err ha, by unfold doM; rw [if_pos h0, ha]⟩
      | ok l' =>
        rw [run_yes ha] at hown ⊢
        exact .inr ⟨rfl, l', by unfold doM; rw [if_pos h0, ha], hown⟩
def DoR (l : List It) (o : Opn) (w : World) (e : Ending) (w' : World) : Prop :=
  Below w.heap.size w w' ∧ ((∃ z, doM l o = .error z ∧ z ≠ 0 ∧ e = .returned (.tuple #[.agg #[.slice none 0 0], .int .i64 z])) ∨ (∃ l' v', doM l o = .ok l' ∧ e = .returned (.tuple #[.agg #[v'], .int .i64 0]) ∧ OwnI w' w.heap.size v' l'))

set_option maxRecDepth 100000 in
set_option maxHeartbeats 8000000 in
theorem do_any (l : List It) (v : Value) (o : Opn) (w : World) (hv : RdI w v l) (hx : ∀ x ∈ l, x.path.length ≤ 140737488355328) (hso : o.path.length ≤ 140737488355328 ∧ o.to.length ≤ 140737488355328) (hT : TabS w) :
    Calls Tryd.prog 10 #[.agg #[v], .agg o.arr] w (DoR l o w) := by
  obtain ⟨w1, hw1⟩ : ∃ z, z = ((w.alloc (.cells #[v] 24)).alloc (.cells o.arr 26)).alloc (.cells #[.slice none 0 0] 24) := ⟨_, rfl⟩
  obtain ⟨b2, hb2⟩ : ∃ z, z = w.heap.size := ⟨_, rfl⟩
  have X2 : Hid (Box w1 b2 24 #[v]) := Lib.hid (by rw [hw1, hb2]; exact (box_new.alloc _).alloc _)
  have X3 : Hid (Box w1 (b2 + 1) 26 o.arr) := Lib.hid (by rw [hw1, hb2, show w.heap.size + 1 = (w.alloc (.cells #[v] 24)).heap.size from by simp]; exact box_new.alloc _)
  have X4 : Hid (Box w1 (b2 + 1 + 1) 24 #[.slice none 0 0]) := Lib.hid (by rw [hw1, hb2, show w.heap.size + 1 + 1 = ((w.alloc (.cells #[v] 24)).alloc (.cells o.arr 26)).heap.size from by simp]; exact box_new)
  have HB1 : Hid (Below w.heap.size w w1) := Lib.hid (by rw [hw1]; exact bch (bch (below_new _ _) (below_new _ _)) (below_new _ _))
  obtain ⟨w2, hw2⟩ : ∃ z, z = w1.alloc (.cells o.arr 26) := ⟨_, rfl⟩
  obtain ⟨g2, hg2⟩ : ∃ z, z = w1.heap.size := ⟨_, rfl⟩
  have hb12 : Below w1.heap.size w1 w2 := by rw [hw2]; exact below_new _ _
  have XO : Box w2 g2 26 o.arr := by rw [hw2, hg2]; exact box_new
  have HB2 : Hid (Below w.heap.size w w2) := Lib.hid (bch HB1.out hb12)
  have X42 : Hid (Box w2 (b2 + 1 + 1) 24 #[.slice none 0 0]) := Lib.hid (X4.out.on hb12)
  have HRU := Lib.hid (run_one l v o (.slice (some ⟨g2, 0, none⟩) 1 1) w2 (hv.on HB2.out) hx (one_rd XO) hso (hT.on HB2.out))
  have H4 : Hid (w.heap.size ≤ b2 + 1 + 1) := Lib.hid (by omega)
  obtain ⟨a, c, rfl, _⟩ := hv.open
  have hw1' : w1 = ((w.alloc (.cells #[.slice a l.length c] 24)).alloc (.cells #[.int .i64 o.kind, .string ⟨o.path.toArray⟩, .string ⟨o.to.toArray⟩, .string ⟨o.data.toArray⟩] 26)).alloc (.cells #[.slice none 0 0] 24) := hw1
  have hw2' : w2 = w1.alloc (.cells #[.int .i64 o.kind, .string ⟨o.path.toArray⟩, .string ⟨o.to.toArray⟩, .string ⟨o.data.toArray⟩] 26) := hw2
  have c2 : w1.cell? ⟨b2, 0, none⟩ = some (.slice a l.length c) := X2.out.cell (k := 0) rfl
  have m0 : w1.cell? ⟨b2 + 1, 0, none⟩ = some (.int .i64 o.kind) := X3.out.cell (k := 0) rfl
  have m1 : w1.cell? ⟨b2 + 1, 1, none⟩ = some (.string ⟨o.path.toArray⟩) := X3.out.cell (k := 1) rfl
  have m2 : w1.cell? ⟨b2 + 1, 2, none⟩ = some (.string ⟨o.to.toArray⟩) := X3.out.cell (k := 2) rfl
  have m3 : w1.cell? ⟨b2 + 1, 3, none⟩ = some (.string ⟨o.data.toArray⟩) := X3.out.cell (k := 3) rfl
  have HW1 := Lib.hid hw1'
  have HW2 := Lib.hid hw2'
  have HG2 := Lib.hid hg2
  have HBE := Lib.hid hb2
  have e1 : (.agg o.arr : Value) = .agg #[.int .i64 o.kind, .string ⟨o.path.toArray⟩, .string ⟨o.to.toArray⟩, .string ⟨o.data.toArray⟩] := rfl
  rw [e1]
  have k0 := b24
  clear hv hx hT hw1 hw2 hw1' hw2' hg2 hb2 e1 XO hb12
  go_enter Tryd.func10, Tryd.ntmps10
  go_upto_region 1 with fail
  rw [← HBE.out, ← HW1.out]
  go_wp2_with fail
  rw [← HW2.out, ← HG2.out]
  refine HRU.out.mono ?_
  rintro e a3 ⟨hb3, xa, xn, xc, many, er, rfl, hc⟩
  obtain ⟨g6, hg6⟩ : ∃ z, z = a3.heap.size := ⟨_, rfl⟩
  obtain ⟨v6, hv6⟩ : ∃ z, z = (a3.alloc (.cells #[.slice none 0 0] 24)).setRow a3.heap.size #[.slice xa xn xc] := ⟨_, rfl⟩
  have hn6 : Below a3.heap.size a3 v6 := by rw [hv6]; exact below_row (below_new _ _) (Nat.le_refl _) _
  have X6 : Hid (Box v6 g6 24 #[.slice xa xn xc]) := Lib.hid (by rw [hv6, hg6]; exact Box.row (box_new (w := a3) (t := 24) (cs := #[.slice none 0 0])) _)
  have HB6 : Hid (Below w.heap.size w v6) := Lib.hid (bch HB2.out (bch hb3 hn6))
  have X46 : Hid (Box v6 (b2 + 1 + 1) 24 #[.slice none 0 0]) := Lib.hid (X42.out.on (bch hb3 hn6))
  have p6 : v6.cell? ⟨g6, 0, none⟩ = some (.slice xa xn xc) := X6.out.cell (k := 0) rfl
  have HC : Hid ((er ≠ 0 ∧ doM l o = .error er) ∨ (er = 0 ∧ ∃ l', doM l o = .ok l' ∧ OwnI v6 w2.heap.size (.slice xa xn xc) l')) := Lib.hid (hc.imp id fun ⟨h0, l', h1, h2⟩ => ⟨h0, l', h1, h2.on hn6⟩)
  have HV6 := Lib.hid hv6
  have HG6 := Lib.hid hg6
  clear hb3 hc hn6 hv6 hg6 HRU m0 m1 m2 m3 c2
  by_cases he : er = 0
  · subst he
    obtain ⟨l', hd, hown⟩ : ∃ l', doM l o = .ok l' ∧ OwnI v6 w2.heap.size (.slice xa xn xc) l' := by
      rcases HC.out with h | h
      · exact absurd rfl h.1
      · exact h.2
    have HD := Lib.hid hd
    have HO := Lib.hid hown
    clear hd hown
    go_wp2_with (first
      | (refine wpList_store_row rfl 24 (.tmp 6) (.tmp 14) rfl a3.heap.size #[.slice xa xn xc] rfl rfl 24 #[.slice none 0 0] box_new (info24 _) rfl (slice_one _ _ _) ?_; rw [← HV6.out, ← HG6.out])
      | (refine wpList_store_row rfl 24 (.tmp 4) (.tmp 21) rfl (b2 + 1 + 1) #[.slice xa xn xc] rfl rfl 24 _ X46.out (info24 _) rfl (slice_one _ _ _) ?_)
      | fail)
    exact bodyPost_ret (end_tree2 rfl _ (X46.out.row _) rfl rfl) rfl ⟨below_row HB6.out H4.out _, .inr ⟨l', _, HD.out, rfl, own_base (own_row HO.out X46.out) HB2.out.size⟩⟩
  · have t1 : (er == 0) = false := by simpa using he
    have t2 : (er != 0) = true := by simpa using he
    have HD : Hid (doM l o = .error er) := Lib.hid (by
      rcases HC.out with h | h
      · exact h.2
      · exact absurd h.1 he)
    have HE := Lib.hid he
    clear he
    go_wp2_with (first
      | (refine wpList_store_row rfl 24 (.tmp 6) (.tmp 14) rfl a3.heap.size #[.slice xa xn xc] rfl rfl 24 #[.slice none 0 0] box_new (info24 _) rfl (slice_one _ _ _) ?_; rw [← HV6.out, ← HG6.out])
      | (refine wpList_store_row rfl 24 (.tmp 4) (.tmp 19) rfl (b2 + 1 + 1) #[.slice none 0 0] rfl rfl 24 _ X46.out (info24 _) rfl (slice_one _ _ _) ?_)
      | fail)
    exact bodyPost_ret (end_tree2 rfl _ (X46.out.row _) rfl rfl) rfl ⟨below_row HB6.out H4.out _, .inl ⟨er, HD.out, HE.out, rfl⟩⟩
end Go.Proofs.YtemhdjplhafmiaaDoor

/- What an argument that is an operation reads as, for the laws' last steps. -/
namespace Go.Proofs.YtemhdjplhafmiaaDoor
open Go.ChangeShapes Go.WideShapes Go.ChangeAt Go.RowKit Go.Joins

noncomputable abbrev zeroOp : Value := .agg #[.int .i64 0, .string ByteArray.empty, .string ByteArray.empty, .string ByteArray.empty]
abbrev zeroOpD {H : Type} : DataW H := .agg [.lit (.int .i64 0), .lit (.string []), .lit (.string []), .lit (.string [])]
set_option maxRecDepth 100000 in
theorem okWide_op {r : Reach} {W : World} {b0 : Nat} {v : Value} (h : Value.okWide Tryd.prog W r b0 26 v) : ∃ cs : Array Value, v = .agg cs := by
  simp only [Value.okWide, Tryd.underlying26] at h
  obtain ⟨cs, h1, _⟩ := h
  exact ⟨cs, h1⟩
set_option maxRecDepth 100000 in
theorem argP_of {H : Type} {enc : TypeId × Value → H} {W : World} {base fuel : Nat} {hd : Bool} {cs : Array Value} {d : DataW H} {p : List MemPlace} (hf : DataW.trod enc Tryd.prog W base (fun _ => true) hd fuel 26 cs.toList = some (d, p)) :
    ∃ o : Opn, cs = o.arr ∧ (o.path.length ∈ d.weights Tryd.prog 26 ∧ o.to.length ∈ d.weights Tryd.prog 26) := by
  obtain ⟨o, hc, hd⟩ := op_of hf
  refine ⟨o, Array.ext' hc, ?_, ?_⟩
  · rw [hd]
    simp [DataW.weights, Tryd.underlying26, DataW.weightsEach]
  · rw [hd]
    simp [DataW.weights, Tryd.underlying26, DataW.weightsEach]
end Go.Proofs.YtemhdjplhafmiaaDoor

/- Proved here: TreeBack of puncheonlaw06 returns true, wherever the tables stand. -/
namespace Go.Proofs.YtemhdjplhafmiaaDoor
open Go.RowKit Go.Shelf

theorem oarr_one (o : Opn) : o.arr.all (·.oneCell') = true := by simp [Opn.arr, Value.oneCell']
theorem built26g (p : ByteArray) : Tryd.prog.built 26 [(0, .int .i64 6), (1, .string p)] = some #[.int .i64 6, .string p, .string ⟨#[]⟩, .string ⟨#[]⟩] := by kernel_rfl
theorem built26m (p q : ByteArray) : Tryd.prog.built 26 [(0, .int .i64 5), (1, .string p), (2, .string q)] = some #[.int .i64 5, .string p, .string q, .string ⟨#[]⟩] := by kernel_rfl
theorem do_ok {l l' : List It} {o : Opn} (h : doM l o = .ok l') : validT l = true ∧ actM l o = .ok l' := by
  unfold doM at h
  split at h
  · rename_i h0; exact ⟨h0, h⟩
  · cases h
/-- What comes back: Do of the way back is the tree that was, and another than that between. -/
theorem do_back {l l' : List It} {o b : Opn} (h : doM l o = .ok l') (hb : backM l o = some b) : doM l' b = .ok l ∧ l' ≠ l := by
  obtain ⟨h0, h1⟩ := do_ok h
  obtain ⟨h2, h3⟩ := act_back (tree_ok h0) h1 hb
  refine ⟨?_, h3⟩
  unfold doM
  rw [if_pos (ok_tree (act_goes (tree_ok h0) h1).2.ok), h2]

set_option maxRecDepth 100000 in
set_option maxHeartbeats 8000000 in
theorem back_law (l0 : List It) (v : Value) (o : Opn) (w : World) (hv : RdI w v l0) (hsz : ∀ x ∈ l0, x.path.length ≤ 140737488355328) (hso : o.path.length ≤ 140737488355328 ∧ o.to.length ≤ 140737488355328) (hT : TabS w) :
    Calls Tryd.prog 4 #[.agg #[v], .agg o.arr] w fun e w' => e = .returned (.bool true) ∧ Below w.heap.size w w' := by
  obtain ⟨w1, hw1⟩ : ∃ z, z = (w.alloc (.cells #[v] 24)).alloc (.cells o.arr 26) := ⟨_, rfl⟩
  obtain ⟨b2, hb2⟩ : ∃ z, z = w.heap.size := ⟨_, rfl⟩
  have X2 : Hid (Box w1 b2 24 #[v]) := Lib.hid (by rw [hw1, hb2]; exact box_new.alloc _)
  have X3 : Hid (Box w1 (b2 + 1) 26 o.arr) := Lib.hid (by rw [hw1, hb2, show w.heap.size + 1 = (w.alloc (.cells #[v] 24)).heap.size from by simp]; exact box_new)
  have HB1 : Hid (Below w.heap.size w w1) := Lib.hid (by rw [hw1]; exact bch (below_new _ _) (below_new _ _))
  have HT := Lib.hid hT
  have HV := Lib.hid hv
  have HSO := Lib.hid hso
  have HW := Lib.hid (wakes6_any w1 (hT.on HB1.out))
  obtain ⟨va, vc, rfl, _⟩ := hv.open
  obtain ⟨vn, hvn⟩ : ∃ n, n = l0.length := ⟨_, rfl⟩
  rw [← hvn] at HV X2 hw1 ⊢
  obtain ⟨l, hl⟩ : ∃ z, z = fewL l0 := ⟨_, rfl⟩
  have HL := Lib.hid hl
  have HSZ : Hid (∀ x ∈ l, x.path.length ≤ 140737488355328) := Lib.hid (fun x h => hsz x (by
    rw [hl] at h
    unfold fewL at h
    split at h
    · exact List.mem_of_mem_take h
    · exact List.mem_of_mem_take h))
  have hw1' : w1 = (w.alloc (.cells #[.slice va vn vc] 24)).alloc (.cells #[.int .i64 o.kind, .string ⟨o.path.toArray⟩, .string ⟨o.to.toArray⟩, .string ⟨o.data.toArray⟩] 26) := hw1
  have e1 : (.agg o.arr : Value) = .agg #[.int .i64 o.kind, .string ⟨o.path.toArray⟩, .string ⟨o.to.toArray⟩, .string ⟨o.data.toArray⟩] := rfl
  rw [e1]
  clear hv hsz hso hT hl hvn hw1 e1
  go_enter Tryd.func4, Tryd.ntmps4
  go_upto_region 1 with fail
  rw [← hb2, ← hw1']
  clear hw1' hb2
  go_wp2_with fail
  refine HW.out.mono ?_
  rintro e w2 ⟨rfl, hb2⟩
  have X22 := Lib.hid (X2.out.on hb2)
  have X32 := Lib.hid (X3.out.on hb2)
  have HB2 := Lib.hid (bch HB1.out hb2)
  have p2 : w2.cell? ⟨b2, 0, none⟩ = some (.slice va vn vc) := X22.out.cell (k := 0) rfl
  have HOW := Lib.hid (own6_any l0 _ w2 (HV.out.on HB2.out))
  clear hb2 HW X2 X3
  go_wp2_with fail
  refine HOW.out.mono ?_
  rintro e a3 ⟨x3, rfl, ho3, hb3⟩
  rw [← HL.out] at ho3
  obtain ⟨ta, tn, tc, rfl⟩ := own_any ho3
  obtain ⟨g5, hg5⟩ : ∃ z, z = a3.heap.size := ⟨_, rfl⟩
  obtain ⟨v3, hv3⟩ : ∃ z, z = (a3.alloc (.cells #[.slice none 0 0] 24)).setRow a3.heap.size #[.slice ta tn tc] := ⟨_, rfl⟩
  have hn3 : Below a3.heap.size a3 v3 := by rw [hv3]; exact below_row (below_new _ _) (Nat.le_refl _) _
  have X5 : Hid (Box v3 g5 24 #[.slice ta tn tc]) := Lib.hid (by rw [hv3, hg5]; exact Box.row (box_new (w := a3) (t := 24) (cs := #[.slice none 0 0])) _)
  have X33 : Hid (Box v3 (b2 + 1) 26 o.arr) := Lib.hid (X32.out.on (bch hb3 hn3))
  have HB3 : Hid (Below w.heap.size w v3) := Lib.hid (bch HB2.out (bch hb3 hn3))
  have HO3 : Hid (OwnI v3 w2.heap.size (.slice ta tn tc) l) := Lib.hid (ho3.on hn3)
  have HV3 := Lib.hid hv3
  have HG5 := Lib.hid hg5
  have p5 : v3.cell? ⟨g5, 0, none⟩ = some (.slice ta tn tc) := X5.out.cell (k := 0) rfl
  have m1 : v3.cell? ⟨b2 + 1, 1, none⟩ = some (.string ⟨o.path.toArray⟩) := X33.out.cell (k := 1) rfl
  obtain ⟨gt, hgt⟩ : ∃ z, z = getT l o.path := ⟨_, rfl⟩
  obtain ⟨y, hy⟩ : ∃ z, z = gt.getD .nil := ⟨_, rfl⟩
  obtain ⟨is, his⟩ : ∃ z, z = gt.isSome := ⟨_, rfl⟩
  have HGT := Lib.hid hgt
  have HIS := Lib.hid his
  have HGE : Hid (Calls Tryd.prog 13 #[.agg #[.slice ta tn tc], .string ⟨o.path.toArray⟩] v3 fun e w' => e = .returned (.tuple #[.agg y.arr, .bool is]) ∧ Below v3.heap.size v3 w') := Lib.hid (by
    have := get_gen l (.slice ta tn tc) o.path v3 HO3.out.rd HSZ.out HSO.out.1 (HT.out.on HB3.out).tab
    rw [← hgt] at this
    rw [hy, his]
    exact this)
  clear hb3 ho3 hn3 hv3 hg5 hgt hy his HOW p2
  go_wp2_with (first
    | (refine wpList_store_row rfl 24 (.tmp 5) (.tmp 15) rfl a3.heap.size #[.slice ta tn tc] rfl rfl 24 #[.slice none 0 0] box_new (info24 _) rfl (slice_one _ _ _) ?_; rw [← HV3.out, ← HG5.out])
    | fail)
  refine HGE.out.mono ?_
  rintro e a4 ⟨rfl, hb4⟩
  obtain ⟨g6, hg6⟩ : ∃ z, z = a4.heap.size := ⟨_, rfl⟩
  obtain ⟨v4, hv4⟩ : ∃ z, z = (a4.alloc (.cells #[.string ⟨#[]⟩, .int .i64 0, .string ⟨#[]⟩] 35)).setRow a4.heap.size y.arr := ⟨_, rfl⟩
  have hn4 : Below v3.heap.size v3 v4 := by rw [hv4]; exact bch hb4 (below_row (below_new _ _) (Nat.le_refl _) _)
  have X54 : Hid (Box v4 g5 24 #[.slice ta tn tc]) := Lib.hid (X5.out.on hn4)
  have X34 : Hid (Box v4 (b2 + 1) 26 o.arr) := Lib.hid (X33.out.on hn4)
  have HB4 : Hid (Below w.heap.size w v4) := Lib.hid (bch HB3.out hn4)
  have HO4 : Hid (OwnI v4 w2.heap.size (.slice ta tn tc) l) := Lib.hid (HO3.out.on hn4)
  have HV4 := Lib.hid hv4
  have HG6 := Lib.hid hg6
  have p54 : v4.cell? ⟨g5, 0, none⟩ = some (.slice ta tn tc) := X54.out.cell (k := 0) rfl
  have n0 : v4.cell? ⟨b2 + 1, 0, none⟩ = some (.int .i64 o.kind) := X34.out.cell (k := 0) rfl
  have n1 : v4.cell? ⟨b2 + 1, 1, none⟩ = some (.string ⟨o.path.toArray⟩) := X34.out.cell (k := 1) rfl
  have n2 : v4.cell? ⟨b2 + 1, 2, none⟩ = some (.string ⟨o.to.toArray⟩) := X34.out.cell (k := 2) rfl
  have n3 : v4.cell? ⟨b2 + 1, 3, none⟩ = some (.string ⟨o.data.toArray⟩) := X34.out.cell (k := 3) rfl
  have HDO : Hid (Calls Tryd.prog 10 #[.agg #[.slice ta tn tc], .agg #[.int .i64 o.kind, .string ⟨o.path.toArray⟩, .string ⟨o.to.toArray⟩, .string ⟨o.data.toArray⟩]] v4 (DoR l o v4)) := Lib.hid (do_any l (.slice ta tn tc) o v4 HO4.out.rd HSZ.out HSO.out (HT.out.on HB4.out))
  clear hb4 hn4 hv4 hg6 HGE p5 m1
  go_wp2_with (first
    | (refine wpList_store_row rfl 35 (.tmp 6) (.tmp 21) rfl a4.heap.size y.arr rfl rfl 35 It.nil.arr box_new (info35 _) rfl (iarr_one _) ?_; rw [← HV4.out, ← HG6.out])
    | fail)
  refine HDO.out.mono ?_
  rintro e a5 ⟨hb5, hc⟩
  obtain ⟨g8, hg8⟩ : ∃ z, z = a5.heap.size := ⟨_, rfl⟩
  have HG8 := Lib.hid hg8
  rcases hc with ⟨z, hd, hz, rfl⟩ | ⟨l', v8, hd, rfl, ho5⟩
  · have t1 : (z == 0) = false := by simpa using hz
    have t2 : (z != 0) = true := by simpa using hz
    have hn5 : Below a5.heap.size a5 ((a5.alloc (.cells #[.slice none 0 0] 24)).setRow a5.heap.size #[.slice none 0 0]) := below_row (below_new _ _) (Nat.le_refl _) _
    have HB5 : Hid (Below w.heap.size w ((a5.alloc (.cells #[.slice none 0 0] 24)).setRow a5.heap.size #[.slice none 0 0])) := Lib.hid (bch HB4.out (bch hb5 hn5))
    clear hd hz hb5 hg8 hn5 HDO
    go_wp2_with (first
      | (refine wpList_store_row rfl 24 (.tmp 8) (.tmp 27) rfl a5.heap.size #[.slice none 0 0] rfl rfl 24 #[.slice none 0 0] box_new (info24 _) rfl (slice_one _ _ _) ?_)
      | fail)
    go_ret
    exact ⟨rfl, HB5.out⟩
  · obtain ⟨na, nn, nc, rfl⟩ := own_any ho5
    obtain ⟨v5, hv5⟩ : ∃ z, z = (a5.alloc (.cells #[.slice none 0 0] 24)).setRow a5.heap.size #[.slice na nn nc] := ⟨_, rfl⟩
    have hn5 : Below v4.heap.size v4 v5 := by rw [hv5]; exact bch hb5 (below_row (below_new _ _) (Nat.le_refl _) _)
    have X8 : Hid (Box v5 g8 24 #[.slice na nn nc]) := Lib.hid (by rw [hv5, hg8]; exact Box.row (box_new (w := a5) (t := 24) (cs := #[.slice none 0 0])) _)
    have X55 : Hid (Box v5 g5 24 #[.slice ta tn tc]) := Lib.hid (X54.out.on hn5)
    have X35 : Hid (Box v5 (b2 + 1) 26 o.arr) := Lib.hid (X34.out.on hn5)
    have HB5 : Hid (Below w.heap.size w v5) := Lib.hid (bch HB4.out hn5)
    have HO5 : Hid (OwnI v5 w2.heap.size (.slice ta tn tc) l) := Lib.hid (HO4.out.on hn5)
    have HN5 : Hid (OwnI v5 v4.heap.size (.slice na nn nc) l') := Lib.hid (ho5.on (by rw [hv5]; exact below_row (below_new _ _) (Nat.le_refl _) _))
    have HV5 := Lib.hid hv5
    have HD := Lib.hid hd
    obtain ⟨hval, hact⟩ := do_ok hd
    have HOK : Hid (TreeOk l) := Lib.hid (tree_ok hval)
    have HCK := Lib.hid (act_goes HOK.out hact).1
    have HOK' : Hid (TreeOk l') := Lib.hid (act_goes HOK.out hact).2.ok
    obtain ⟨g10, hg10⟩ : ∃ z, z = v5.heap.size := ⟨_, rfl⟩
    have HG10 := Lib.hid hg10
    obtain ⟨v6, hv6⟩ : ∃ z, z = (v5.alloc (.cells #[.int .i64 0, .string ⟨#[]⟩, .string ⟨#[]⟩, .string ⟨#[]⟩] 26)).setRow v5.heap.size (Opn.arr ⟨6, o.path, [], []⟩) := ⟨_, rfl⟩
    have hn6 : Below v5.heap.size v5 v6 := by rw [hv6]; exact below_row (below_new _ _) (Nat.le_refl _) _
    have X10 : Hid (Box v6 g10 26 (Opn.arr ⟨6, o.path, [], []⟩)) := Lib.hid (by rw [hv6, hg10]; exact Box.row (box_new (w := v5) (t := 26) (cs := Opn.arr ⟨0, [], [], []⟩)) _)
    have X86 : Hid (Box v6 g8 24 #[.slice na nn nc]) := Lib.hid (X8.out.on hn6)
    have X56 : Hid (Box v6 g5 24 #[.slice ta tn tc]) := Lib.hid (X55.out.on hn6)
    have X36 : Hid (Box v6 (b2 + 1) 26 o.arr) := Lib.hid (X35.out.on hn6)
    have HB6 : Hid (Below w.heap.size w v6) := Lib.hid (bch HB5.out hn6)
    have HO6 : Hid (OwnI v6 w2.heap.size (.slice ta tn tc) l) := Lib.hid (HO5.out.on hn6)
    have HN6 : Hid (OwnI v6 v4.heap.size (.slice na nn nc) l') := Lib.hid (HN5.out.on hn6)
    have HV6 := Lib.hid hv6
    have HE0 : Hid (w.heap.size ≤ g10) := Lib.hid (by rw [hg10]; exact HB5.out.size)
    have hlt8 : g8 < g10 := by rw [hg10]; exact X8.out.lt
    have hlt5 : g5 < g10 := by rw [hg10]; exact X55.out.lt
    have hlt3 : b2 + 1 < g10 := by rw [hg10]; exact X35.out.lt
    have hO5 : ∀ k, (Value.slice ta tn tc).ownBlock = some k → k ≠ g10 := fun k hk e => by
      obtain ⟨_, cs, hc⟩ := ownR_blk HO6.out hk
      rw [e, show v6.heap[g10]? = _ from X10.out] at hc
      cases hc
    have hN5 : ∀ k, (Value.slice na nn nc).ownBlock = some k → k ≠ g10 := fun k hk e => by
      obtain ⟨_, cs, hc⟩ := ownR_blk HN6.out hk
      rw [e, show v6.heap[g10]? = _ from X10.out] at hc
      cases hc
    have HO5' := Lib.hid hO5
    have HN5' := Lib.hid hN5
    have f10 := frozen_of_row v6 g10 0 _ _ X10.out
    have d10 : v6.cell? ⟨g10, 0, none⟩ = some (.int .i64 6) := X10.out.cell (k := 0) rfl
    have q0 : v6.cell? ⟨b2 + 1, 0, none⟩ = some (.int .i64 o.kind) := X36.out.cell (k := 0) rfl
    have q1 : v6.cell? ⟨b2 + 1, 1, none⟩ = some (.string ⟨o.path.toArray⟩) := X36.out.cell (k := 1) rfl
    have q2 : v6.cell? ⟨b2 + 1, 2, none⟩ = some (.string ⟨o.to.toArray⟩) := X36.out.cell (k := 2) rfl
    have r1 : v5.cell? ⟨b2 + 1, 1, none⟩ = some (.string ⟨o.path.toArray⟩) := X35.out.cell (k := 1) rfl
    have k0 := built26g ⟨o.path.toArray⟩
    have k1 := built26m ⟨o.to.toArray⟩ ⟨o.path.toArray⟩
    have hk7 : o.kind = 1 ∨ o.kind = 2 ∨ o.kind = 3 ∨ o.kind = 4 ∨ o.kind = 5 ∨ o.kind = 6 ∨ o.kind = 7 := by have := HCK.out.kind; omega
    clear hd hb5 hg8 hv5 hn5 ho5 hval hact hv6 hn6 hg10 HDO n0 n1 n2 n3 p54 hO5 hN5
    rcases hk7 with hk | hk | hk | hk | hk | hk | hk
    · obtain ⟨v7, hv7⟩ : ∃ z, z = v6.setCell ⟨g10, 0, none⟩ (.int .i64 7) := ⟨_, rfl⟩
      have HX10 : Hid (Box v7 g10 26 (Opn.arr ⟨7, o.path, [], []⟩)) := Lib.hid (by rw [hv7]; exact X10.out.set (k := 0) _)
      have HF7 : Hid (∀ k, k ≠ g10 → v7.heap[k]? = v6.heap[k]?) := Lib.hid (fun k hk => by rw [hv7]; exact heap_setCell_other _ _ _ _ hk)
      have HB7 : Hid (Below w.heap.size w v7) := Lib.hid (by rw [hv7]; exact HB6.out.setCell (p := ⟨g10, 0, none⟩) HE0.out _)
      have HBK : Hid (backM l o = some ⟨7, o.path, [], []⟩) := Lib.hid (by unfold backM; rw [if_pos hk])
      rw [hk] at q0
      have HX57 : Hid (Box v7 g5 24 #[.slice ta tn tc]) := Lib.hid ((HF7.out g5 (by omega)).trans X56.out)
      have HX87 : Hid (Box v7 g8 24 #[.slice na nn nc]) := Lib.hid ((HF7.out g8 (by omega)).trans X86.out)
      have HO7 : Hid (OwnI v7 w2.heap.size (.slice ta tn tc) l) := Lib.hid (HO6.out.far fun k hk => HF7.out k (HO5'.out k hk))
      have HN7 : Hid (OwnI v7 v4.heap.size (.slice na nn nc) l') := Lib.hid (HN6.out.far fun k hk => HF7.out k (HN5'.out k hk))
      obtain ⟨hdb, hne⟩ := do_back HD.out HBK.out
      have HDB := Lib.hid hdb
      have HNE := Lib.hid hne
      have HD2 : Hid (Calls Tryd.prog 10 #[.agg #[.slice na nn nc], .agg #[.int .i64 7, .string ⟨o.path.toArray⟩, .string ⟨#[]⟩, .string ⟨#[]⟩]] v7 (DoR l' ⟨7, o.path, [], []⟩ v7)) := Lib.hid (do_any l' (.slice na nn nc) ⟨7, o.path, [], []⟩ v7 HN7.out.rd (tree_sz HOK'.out) ⟨HSO.out.1, Nat.zero_le _⟩ (HT.out.on HB7.out))
      have p8 : v7.cell? ⟨g8, 0, none⟩ = some (.slice na nn nc) := HX87.out.cell (k := 0) rfl
      have s0 : v7.cell? ⟨g10, 0, none⟩ = some (.int .i64 7) := HX10.out.cell (k := 0) rfl
      have s1 : v7.cell? ⟨g10, 1, none⟩ = some (.string ⟨o.path.toArray⟩) := HX10.out.cell (k := 1) rfl
      have s2 : v7.cell? ⟨g10, 2, none⟩ = some (.string ⟨#[]⟩) := HX10.out.cell (k := 2) rfl
      have s3 : v7.cell? ⟨g10, 3, none⟩ = some (.string ⟨#[]⟩) := HX10.out.cell (k := 3) rfl
      have HV7 := Lib.hid hv7
      clear hdb hne hv7
      go_upto_region 19 with (first
        | (refine wpList_store_row rfl 24 (.tmp 8) (.tmp 27) rfl a5.heap.size #[.slice na nn nc] rfl rfl 24 #[.slice none 0 0] box_new (info24 _) rfl (slice_one _ _ _) ?_; rw [← HV5.out, ← HG8.out])
        | (refine wpList_store_row rfl 26 (.tmp 10) (.tmp 33) rfl v5.heap.size (Opn.arr ⟨6, o.path, [], []⟩) rfl rfl 26 (Opn.arr ⟨0, [], [], []⟩) box_new (info26 _) rfl (oarr_one _) ?_; rw [← HV6.out, ← HG10.out])
        | fail)
      rw [← HV7.out]
      go_wp2_with fail
      refine HD2.out.mono ?_
      rintro e a8 ⟨hb8, hc8⟩
      obtain ⟨l8, v11, hd8, rfl, ho8⟩ : ∃ l8 v', doM l' ⟨7, o.path, [], []⟩ = .ok l8 ∧ e = .returned (.tuple #[.agg #[v'], .int .i64 0]) ∧ OwnI a8 v7.heap.size v' l8 := by
        rcases hc8 with ⟨z, h1, _⟩ | h
        · rw [HDB.out] at h1; cases h1
        · exact h
      obtain rfl : l = l8 := by rw [HDB.out] at hd8; injection hd8
      obtain ⟨ma, mn, mc, rfl⟩ := own_any ho8
      obtain ⟨g11, hg11⟩ : ∃ z, z = a8.heap.size := ⟨_, rfl⟩
      obtain ⟨v8, hv8⟩ : ∃ z, z = (a8.alloc (.cells #[.slice none 0 0] 24)).setRow a8.heap.size #[.slice ma mn mc] := ⟨_, rfl⟩
      have hn8 : Below a8.heap.size a8 v8 := by rw [hv8]; exact below_row (below_new _ _) (Nat.le_refl _) _
      have X11 : Hid (Box v8 g11 24 #[.slice ma mn mc]) := Lib.hid (by rw [hv8, hg11]; exact Box.row (box_new (w := a8) (t := 24) (cs := #[.slice none 0 0])) _)
      have hb78 : Below v7.heap.size v7 v8 := bch hb8 hn8
      have HM8 : Hid (RdI v8 (.slice ma mn mc) l) := Lib.hid (ho8.on hn8).rd
      have HT8 : Hid (RdI v8 (.slice ta tn tc) l) := Lib.hid (HO7.out.on hb78).rd
      have HN8 : Hid (RdI v8 (.slice na nn nc) l') := Lib.hid (HN7.out.on hb78).rd
      have X58 : Hid (Box v8 g5 24 #[.slice ta tn tc]) := Lib.hid (HX57.out.on hb78)
      have X88 : Hid (Box v8 g8 24 #[.slice na nn nc]) := Lib.hid (HX87.out.on hb78)
      have HB8 : Hid (Below w.heap.size w v8) := Lib.hid (bch HB7.out hb78)
      have HS1 : Hid (Calls Tryd.prog 14 #[.agg #[.slice ma mn mc], .agg #[.slice ta tn tc]] v8 (EqR true v8)) := Lib.hid (by
        have := same_any l l _ _ v8 HM8.out HT8.out
        rw [decide_eq_true (rfl : l = l)] at this
        exact this)
      have HS2 : Hid (∀ W, Below v8.heap.size v8 W → Calls Tryd.prog 14 #[.agg #[.slice na nn nc], .agg #[.slice ta tn tc]] W (EqR false W)) := Lib.hid (fun W hW => by
        have := same_any l' l _ _ W (HN8.out.on hW) (HT8.out.on hW)
        rw [decide_eq_false HNE.out] at this
        exact this)
      have z11 : v8.cell? ⟨g11, 0, none⟩ = some (.slice ma mn mc) := X11.out.cell (k := 0) rfl
      have z5 : v8.cell? ⟨g5, 0, none⟩ = some (.slice ta tn tc) := X58.out.cell (k := 0) rfl
      have HV8 := Lib.hid hv8
      have HG11 := Lib.hid hg11
      clear hb8 hc8 hd8 ho8 hn8 hv8 hg11 hb78 HD2 p8 s0 s1 s2 s3
      go_wp2_with (first
        | (refine wpList_store_row rfl 24 (.tmp 11) (.tmp 54) rfl a8.heap.size #[.slice ma mn mc] rfl rfl 24 #[.slice none 0 0] box_new (info24 _) rfl (slice_one _ _ _) ?_; rw [← HV8.out, ← HG11.out])
        | fail)
      refine HS1.out.mono ?_
      rintro e w9 ⟨rfl, hb9⟩
      have HB9 := Lib.hid (bch HB8.out hb9)
      have y8 : w9.cell? ⟨g8, 0, none⟩ = some (.slice na nn nc) := (X88.out.on hb9).cell (k := 0) rfl
      have y5 : w9.cell? ⟨g5, 0, none⟩ = some (.slice ta tn tc) := (X58.out.on hb9).cell (k := 0) rfl
      have HS3 := Lib.hid (HS2.out w9 hb9)
      clear hb9 z11 z5
      go_wp2_with fail
      refine HS3.out.mono ?_
      rintro e wA ⟨rfl, hbA⟩
      go_wp2_with fail
      go_ret
      exact ⟨rfl, bch HB9.out hbA⟩
    · rw [hk] at q0
      cases is with
      | true =>
        go_wp2_with (first
        | (refine wpList_store_row rfl 24 (.tmp 8) (.tmp 27) rfl a5.heap.size #[.slice na nn nc] rfl rfl 24 #[.slice none 0 0] box_new (info24 _) rfl (slice_one _ _ _) ?_; rw [← HV5.out, ← HG8.out])
        | (refine wpList_store_row rfl 26 (.tmp 10) (.tmp 33) rfl v5.heap.size (Opn.arr ⟨6, o.path, [], []⟩) rfl rfl 26 (Opn.arr ⟨0, [], [], []⟩) box_new (info26 _) rfl (oarr_one _) ?_; rw [← HV6.out, ← HG10.out])
        | fail)
        go_ret
        exact ⟨rfl, HB6.out⟩
      | false =>
        obtain ⟨v7, hv7⟩ : ∃ z, z = v6 := ⟨_, rfl⟩
        have HX10 : Hid (Box v7 g10 26 (Opn.arr ⟨6, o.path, [], []⟩)) := Lib.hid (by rw [hv7]; exact X10.out)
        have HF7 : Hid (∀ k, k ≠ g10 → v7.heap[k]? = v6.heap[k]?) := Lib.hid (fun k _ => by rw [hv7])
        have HB7 : Hid (Below w.heap.size w v7) := Lib.hid (by rw [hv7]; exact HB6.out)
        have HBK : Hid (backM l o = some ⟨6, o.path, [], []⟩) := Lib.hid (by
            unfold backM
            rw [if_neg (by omega), if_neg (by omega), if_pos (by omega)]
            have h1 := HIS.out
            rw [HGT.out] at h1
            unfold getT at h1
            rw [if_pos (ok_tree HOK.out)] at h1
            rw [← h1]
            rfl)
        have HX57 : Hid (Box v7 g5 24 #[.slice ta tn tc]) := Lib.hid ((HF7.out g5 (by omega)).trans X56.out)
        have HX87 : Hid (Box v7 g8 24 #[.slice na nn nc]) := Lib.hid ((HF7.out g8 (by omega)).trans X86.out)
        have HO7 : Hid (OwnI v7 w2.heap.size (.slice ta tn tc) l) := Lib.hid (HO6.out.far fun k hk => HF7.out k (HO5'.out k hk))
        have HN7 : Hid (OwnI v7 v4.heap.size (.slice na nn nc) l') := Lib.hid (HN6.out.far fun k hk => HF7.out k (HN5'.out k hk))
        obtain ⟨hdb, hne⟩ := do_back HD.out HBK.out
        have HDB := Lib.hid hdb
        have HNE := Lib.hid hne
        have HD2 : Hid (Calls Tryd.prog 10 #[.agg #[.slice na nn nc], .agg #[.int .i64 6, .string ⟨o.path.toArray⟩, .string ⟨#[]⟩, .string ⟨#[]⟩]] v7 (DoR l' ⟨6, o.path, [], []⟩ v7)) := Lib.hid (do_any l' (.slice na nn nc) ⟨6, o.path, [], []⟩ v7 HN7.out.rd (tree_sz HOK'.out) ⟨HSO.out.1, Nat.zero_le _⟩ (HT.out.on HB7.out))
        have p8 : v7.cell? ⟨g8, 0, none⟩ = some (.slice na nn nc) := HX87.out.cell (k := 0) rfl
        have s0 : v7.cell? ⟨g10, 0, none⟩ = some (.int .i64 6) := HX10.out.cell (k := 0) rfl
        have s1 : v7.cell? ⟨g10, 1, none⟩ = some (.string ⟨o.path.toArray⟩) := HX10.out.cell (k := 1) rfl
        have s2 : v7.cell? ⟨g10, 2, none⟩ = some (.string ⟨#[]⟩) := HX10.out.cell (k := 2) rfl
        have s3 : v7.cell? ⟨g10, 3, none⟩ = some (.string ⟨#[]⟩) := HX10.out.cell (k := 3) rfl
        have HV7 := Lib.hid hv7
        clear hdb hne hv7
        go_upto_region 19 with (first
          | (refine wpList_store_row rfl 24 (.tmp 8) (.tmp 27) rfl a5.heap.size #[.slice na nn nc] rfl rfl 24 #[.slice none 0 0] box_new (info24 _) rfl (slice_one _ _ _) ?_; rw [← HV5.out, ← HG8.out])
          | (refine wpList_store_row rfl 26 (.tmp 10) (.tmp 33) rfl v5.heap.size (Opn.arr ⟨6, o.path, [], []⟩) rfl rfl 26 (Opn.arr ⟨0, [], [], []⟩) box_new (info26 _) rfl (oarr_one _) ?_; rw [← HV6.out, ← HG10.out])
          | fail)
        rw [← HV7.out]
        go_wp2_with fail
        refine HD2.out.mono ?_
        rintro e a8 ⟨hb8, hc8⟩
        obtain ⟨l8, v11, hd8, rfl, ho8⟩ : ∃ l8 v', doM l' ⟨6, o.path, [], []⟩ = .ok l8 ∧ e = .returned (.tuple #[.agg #[v'], .int .i64 0]) ∧ OwnI a8 v7.heap.size v' l8 := by
          rcases hc8 with ⟨z, h1, _⟩ | h
          · rw [HDB.out] at h1; cases h1
          · exact h
        obtain rfl : l = l8 := by rw [HDB.out] at hd8; injection hd8
        obtain ⟨ma, mn, mc, rfl⟩ := own_any ho8
        obtain ⟨g11, hg11⟩ : ∃ z, z = a8.heap.size := ⟨_, rfl⟩
        obtain ⟨v8, hv8⟩ : ∃ z, z = (a8.alloc (.cells #[.slice none 0 0] 24)).setRow a8.heap.size #[.slice ma mn mc] := ⟨_, rfl⟩
        have hn8 : Below a8.heap.size a8 v8 := by rw [hv8]; exact below_row (below_new _ _) (Nat.le_refl _) _
        have X11 : Hid (Box v8 g11 24 #[.slice ma mn mc]) := Lib.hid (by rw [hv8, hg11]; exact Box.row (box_new (w := a8) (t := 24) (cs := #[.slice none 0 0])) _)
        have hb78 : Below v7.heap.size v7 v8 := bch hb8 hn8
        have HM8 : Hid (RdI v8 (.slice ma mn mc) l) := Lib.hid (ho8.on hn8).rd
        have HT8 : Hid (RdI v8 (.slice ta tn tc) l) := Lib.hid (HO7.out.on hb78).rd
        have HN8 : Hid (RdI v8 (.slice na nn nc) l') := Lib.hid (HN7.out.on hb78).rd
        have X58 : Hid (Box v8 g5 24 #[.slice ta tn tc]) := Lib.hid (HX57.out.on hb78)
        have X88 : Hid (Box v8 g8 24 #[.slice na nn nc]) := Lib.hid (HX87.out.on hb78)
        have HB8 : Hid (Below w.heap.size w v8) := Lib.hid (bch HB7.out hb78)
        have HS1 : Hid (Calls Tryd.prog 14 #[.agg #[.slice ma mn mc], .agg #[.slice ta tn tc]] v8 (EqR true v8)) := Lib.hid (by
          have := same_any l l _ _ v8 HM8.out HT8.out
          rw [decide_eq_true (rfl : l = l)] at this
          exact this)
        have HS2 : Hid (∀ W, Below v8.heap.size v8 W → Calls Tryd.prog 14 #[.agg #[.slice na nn nc], .agg #[.slice ta tn tc]] W (EqR false W)) := Lib.hid (fun W hW => by
          have := same_any l' l _ _ W (HN8.out.on hW) (HT8.out.on hW)
          rw [decide_eq_false HNE.out] at this
          exact this)
        have z11 : v8.cell? ⟨g11, 0, none⟩ = some (.slice ma mn mc) := X11.out.cell (k := 0) rfl
        have z5 : v8.cell? ⟨g5, 0, none⟩ = some (.slice ta tn tc) := X58.out.cell (k := 0) rfl
        have HV8 := Lib.hid hv8
        have HG11 := Lib.hid hg11
        clear hb8 hc8 hd8 ho8 hn8 hv8 hg11 hb78 HD2 p8 s0 s1 s2 s3
        go_wp2_with (first
          | (refine wpList_store_row rfl 24 (.tmp 11) (.tmp 54) rfl a8.heap.size #[.slice ma mn mc] rfl rfl 24 #[.slice none 0 0] box_new (info24 _) rfl (slice_one _ _ _) ?_; rw [← HV8.out, ← HG11.out])
          | fail)
        refine HS1.out.mono ?_
        rintro e w9 ⟨rfl, hb9⟩
        have HB9 := Lib.hid (bch HB8.out hb9)
        have y8 : w9.cell? ⟨g8, 0, none⟩ = some (.slice na nn nc) := (X88.out.on hb9).cell (k := 0) rfl
        have y5 : w9.cell? ⟨g5, 0, none⟩ = some (.slice ta tn tc) := (X58.out.on hb9).cell (k := 0) rfl
        have HS3 := Lib.hid (HS2.out w9 hb9)
        clear hb9 z11 z5
        go_wp2_with fail
        refine HS3.out.mono ?_
        rintro e wA ⟨rfl, hbA⟩
        go_wp2_with fail
        go_ret
        exact ⟨rfl, bch HB9.out hbA⟩
    · rw [hk] at q0
      go_wp2_with (first
        | (refine wpList_store_row rfl 24 (.tmp 8) (.tmp 27) rfl a5.heap.size #[.slice na nn nc] rfl rfl 24 #[.slice none 0 0] box_new (info24 _) rfl (slice_one _ _ _) ?_; rw [← HV5.out, ← HG8.out])
        | (refine wpList_store_row rfl 26 (.tmp 10) (.tmp 33) rfl v5.heap.size (Opn.arr ⟨6, o.path, [], []⟩) rfl rfl 26 (Opn.arr ⟨0, [], [], []⟩) box_new (info26 _) rfl (oarr_one _) ?_; rw [← HV6.out, ← HG10.out])
        | fail)
      go_ret
      exact ⟨rfl, HB6.out⟩
    · rw [hk] at q0
      cases is with
      | true =>
        go_wp2_with (first
        | (refine wpList_store_row rfl 24 (.tmp 8) (.tmp 27) rfl a5.heap.size #[.slice na nn nc] rfl rfl 24 #[.slice none 0 0] box_new (info24 _) rfl (slice_one _ _ _) ?_; rw [← HV5.out, ← HG8.out])
        | (refine wpList_store_row rfl 26 (.tmp 10) (.tmp 33) rfl v5.heap.size (Opn.arr ⟨6, o.path, [], []⟩) rfl rfl 26 (Opn.arr ⟨0, [], [], []⟩) box_new (info26 _) rfl (oarr_one _) ?_; rw [← HV6.out, ← HG10.out])
        | fail)
        go_ret
        exact ⟨rfl, HB6.out⟩
      | false =>
        obtain ⟨v7, hv7⟩ : ∃ z, z = v6 := ⟨_, rfl⟩
        have HX10 : Hid (Box v7 g10 26 (Opn.arr ⟨6, o.path, [], []⟩)) := Lib.hid (by rw [hv7]; exact X10.out)
        have HF7 : Hid (∀ k, k ≠ g10 → v7.heap[k]? = v6.heap[k]?) := Lib.hid (fun k _ => by rw [hv7])
        have HB7 : Hid (Below w.heap.size w v7) := Lib.hid (by rw [hv7]; exact HB6.out)
        have HBK : Hid (backM l o = some ⟨6, o.path, [], []⟩) := Lib.hid (by
            unfold backM
            rw [if_neg (by omega), if_neg (by omega), if_pos (by omega)]
            have h1 := HIS.out
            rw [HGT.out] at h1
            unfold getT at h1
            rw [if_pos (ok_tree HOK.out)] at h1
            rw [← h1]
            rfl)
        have HX57 : Hid (Box v7 g5 24 #[.slice ta tn tc]) := Lib.hid ((HF7.out g5 (by omega)).trans X56.out)
        have HX87 : Hid (Box v7 g8 24 #[.slice na nn nc]) := Lib.hid ((HF7.out g8 (by omega)).trans X86.out)
        have HO7 : Hid (OwnI v7 w2.heap.size (.slice ta tn tc) l) := Lib.hid (HO6.out.far fun k hk => HF7.out k (HO5'.out k hk))
        have HN7 : Hid (OwnI v7 v4.heap.size (.slice na nn nc) l') := Lib.hid (HN6.out.far fun k hk => HF7.out k (HN5'.out k hk))
        obtain ⟨hdb, hne⟩ := do_back HD.out HBK.out
        have HDB := Lib.hid hdb
        have HNE := Lib.hid hne
        have HD2 : Hid (Calls Tryd.prog 10 #[.agg #[.slice na nn nc], .agg #[.int .i64 6, .string ⟨o.path.toArray⟩, .string ⟨#[]⟩, .string ⟨#[]⟩]] v7 (DoR l' ⟨6, o.path, [], []⟩ v7)) := Lib.hid (do_any l' (.slice na nn nc) ⟨6, o.path, [], []⟩ v7 HN7.out.rd (tree_sz HOK'.out) ⟨HSO.out.1, Nat.zero_le _⟩ (HT.out.on HB7.out))
        have p8 : v7.cell? ⟨g8, 0, none⟩ = some (.slice na nn nc) := HX87.out.cell (k := 0) rfl
        have s0 : v7.cell? ⟨g10, 0, none⟩ = some (.int .i64 6) := HX10.out.cell (k := 0) rfl
        have s1 : v7.cell? ⟨g10, 1, none⟩ = some (.string ⟨o.path.toArray⟩) := HX10.out.cell (k := 1) rfl
        have s2 : v7.cell? ⟨g10, 2, none⟩ = some (.string ⟨#[]⟩) := HX10.out.cell (k := 2) rfl
        have s3 : v7.cell? ⟨g10, 3, none⟩ = some (.string ⟨#[]⟩) := HX10.out.cell (k := 3) rfl
        have HV7 := Lib.hid hv7
        clear hdb hne hv7
        go_upto_region 19 with (first
          | (refine wpList_store_row rfl 24 (.tmp 8) (.tmp 27) rfl a5.heap.size #[.slice na nn nc] rfl rfl 24 #[.slice none 0 0] box_new (info24 _) rfl (slice_one _ _ _) ?_; rw [← HV5.out, ← HG8.out])
          | (refine wpList_store_row rfl 26 (.tmp 10) (.tmp 33) rfl v5.heap.size (Opn.arr ⟨6, o.path, [], []⟩) rfl rfl 26 (Opn.arr ⟨0, [], [], []⟩) box_new (info26 _) rfl (oarr_one _) ?_; rw [← HV6.out, ← HG10.out])
          | fail)
        rw [← HV7.out]
        go_wp2_with fail
        refine HD2.out.mono ?_
        rintro e a8 ⟨hb8, hc8⟩
        obtain ⟨l8, v11, hd8, rfl, ho8⟩ : ∃ l8 v', doM l' ⟨6, o.path, [], []⟩ = .ok l8 ∧ e = .returned (.tuple #[.agg #[v'], .int .i64 0]) ∧ OwnI a8 v7.heap.size v' l8 := by
          rcases hc8 with ⟨z, h1, _⟩ | h
          · rw [HDB.out] at h1; cases h1
          · exact h
        obtain rfl : l = l8 := by rw [HDB.out] at hd8; injection hd8
        obtain ⟨ma, mn, mc, rfl⟩ := own_any ho8
        obtain ⟨g11, hg11⟩ : ∃ z, z = a8.heap.size := ⟨_, rfl⟩
        obtain ⟨v8, hv8⟩ : ∃ z, z = (a8.alloc (.cells #[.slice none 0 0] 24)).setRow a8.heap.size #[.slice ma mn mc] := ⟨_, rfl⟩
        have hn8 : Below a8.heap.size a8 v8 := by rw [hv8]; exact below_row (below_new _ _) (Nat.le_refl _) _
        have X11 : Hid (Box v8 g11 24 #[.slice ma mn mc]) := Lib.hid (by rw [hv8, hg11]; exact Box.row (box_new (w := a8) (t := 24) (cs := #[.slice none 0 0])) _)
        have hb78 : Below v7.heap.size v7 v8 := bch hb8 hn8
        have HM8 : Hid (RdI v8 (.slice ma mn mc) l) := Lib.hid (ho8.on hn8).rd
        have HT8 : Hid (RdI v8 (.slice ta tn tc) l) := Lib.hid (HO7.out.on hb78).rd
        have HN8 : Hid (RdI v8 (.slice na nn nc) l') := Lib.hid (HN7.out.on hb78).rd
        have X58 : Hid (Box v8 g5 24 #[.slice ta tn tc]) := Lib.hid (HX57.out.on hb78)
        have X88 : Hid (Box v8 g8 24 #[.slice na nn nc]) := Lib.hid (HX87.out.on hb78)
        have HB8 : Hid (Below w.heap.size w v8) := Lib.hid (bch HB7.out hb78)
        have HS1 : Hid (Calls Tryd.prog 14 #[.agg #[.slice ma mn mc], .agg #[.slice ta tn tc]] v8 (EqR true v8)) := Lib.hid (by
          have := same_any l l _ _ v8 HM8.out HT8.out
          rw [decide_eq_true (rfl : l = l)] at this
          exact this)
        have HS2 : Hid (∀ W, Below v8.heap.size v8 W → Calls Tryd.prog 14 #[.agg #[.slice na nn nc], .agg #[.slice ta tn tc]] W (EqR false W)) := Lib.hid (fun W hW => by
          have := same_any l' l _ _ W (HN8.out.on hW) (HT8.out.on hW)
          rw [decide_eq_false HNE.out] at this
          exact this)
        have z11 : v8.cell? ⟨g11, 0, none⟩ = some (.slice ma mn mc) := X11.out.cell (k := 0) rfl
        have z5 : v8.cell? ⟨g5, 0, none⟩ = some (.slice ta tn tc) := X58.out.cell (k := 0) rfl
        have HV8 := Lib.hid hv8
        have HG11 := Lib.hid hg11
        clear hb8 hc8 hd8 ho8 hn8 hv8 hg11 hb78 HD2 p8 s0 s1 s2 s3
        go_wp2_with (first
          | (refine wpList_store_row rfl 24 (.tmp 11) (.tmp 54) rfl a8.heap.size #[.slice ma mn mc] rfl rfl 24 #[.slice none 0 0] box_new (info24 _) rfl (slice_one _ _ _) ?_; rw [← HV8.out, ← HG11.out])
          | fail)
        refine HS1.out.mono ?_
        rintro e w9 ⟨rfl, hb9⟩
        have HB9 := Lib.hid (bch HB8.out hb9)
        have y8 : w9.cell? ⟨g8, 0, none⟩ = some (.slice na nn nc) := (X88.out.on hb9).cell (k := 0) rfl
        have y5 : w9.cell? ⟨g5, 0, none⟩ = some (.slice ta tn tc) := (X58.out.on hb9).cell (k := 0) rfl
        have HS3 := Lib.hid (HS2.out w9 hb9)
        clear hb9 z11 z5
        go_wp2_with fail
        refine HS3.out.mono ?_
        rintro e wA ⟨rfl, hbA⟩
        go_wp2_with fail
        go_ret
        exact ⟨rfl, bch HB9.out hbA⟩
    · obtain ⟨v7, hv7⟩ : ∃ z, z = v6.setRow g10 (Opn.arr ⟨5, o.to, o.path, []⟩) := ⟨_, rfl⟩
      have HX10 : Hid (Box v7 g10 26 (Opn.arr ⟨5, o.to, o.path, []⟩)) := Lib.hid (by rw [hv7]; exact X10.out.row _)
      have HF7 : Hid (∀ k, k ≠ g10 → v7.heap[k]? = v6.heap[k]?) := Lib.hid (fun k hk => by rw [hv7]; exact setRow_other _ _ _ _ hk)
      have HB7 : Hid (Below w.heap.size w v7) := Lib.hid (by rw [hv7]; exact below_row HB6.out HE0.out _)
      have HBK : Hid (backM l o = some ⟨5, o.to, o.path, []⟩) := Lib.hid (by unfold backM; rw [if_neg (by omega), if_pos hk])
      rw [hk] at q0
      have HX57 : Hid (Box v7 g5 24 #[.slice ta tn tc]) := Lib.hid ((HF7.out g5 (by omega)).trans X56.out)
      have HX87 : Hid (Box v7 g8 24 #[.slice na nn nc]) := Lib.hid ((HF7.out g8 (by omega)).trans X86.out)
      have HO7 : Hid (OwnI v7 w2.heap.size (.slice ta tn tc) l) := Lib.hid (HO6.out.far fun k hk => HF7.out k (HO5'.out k hk))
      have HN7 : Hid (OwnI v7 v4.heap.size (.slice na nn nc) l') := Lib.hid (HN6.out.far fun k hk => HF7.out k (HN5'.out k hk))
      obtain ⟨hdb, hne⟩ := do_back HD.out HBK.out
      have HDB := Lib.hid hdb
      have HNE := Lib.hid hne
      have HD2 : Hid (Calls Tryd.prog 10 #[.agg #[.slice na nn nc], .agg #[.int .i64 5, .string ⟨o.to.toArray⟩, .string ⟨o.path.toArray⟩, .string ⟨#[]⟩]] v7 (DoR l' ⟨5, o.to, o.path, []⟩ v7)) := Lib.hid (do_any l' (.slice na nn nc) ⟨5, o.to, o.path, []⟩ v7 HN7.out.rd (tree_sz HOK'.out) ⟨HSO.out.2, HSO.out.1⟩ (HT.out.on HB7.out))
      have p8 : v7.cell? ⟨g8, 0, none⟩ = some (.slice na nn nc) := HX87.out.cell (k := 0) rfl
      have s0 : v7.cell? ⟨g10, 0, none⟩ = some (.int .i64 5) := HX10.out.cell (k := 0) rfl
      have s1 : v7.cell? ⟨g10, 1, none⟩ = some (.string ⟨o.to.toArray⟩) := HX10.out.cell (k := 1) rfl
      have s2 : v7.cell? ⟨g10, 2, none⟩ = some (.string ⟨o.path.toArray⟩) := HX10.out.cell (k := 2) rfl
      have s3 : v7.cell? ⟨g10, 3, none⟩ = some (.string ⟨#[]⟩) := HX10.out.cell (k := 3) rfl
      have HV7 := Lib.hid hv7
      clear hdb hne hv7
      go_upto_region 19 with (first
        | (refine wpList_store_row rfl 24 (.tmp 8) (.tmp 27) rfl a5.heap.size #[.slice na nn nc] rfl rfl 24 #[.slice none 0 0] box_new (info24 _) rfl (slice_one _ _ _) ?_; rw [← HV5.out, ← HG8.out])
        | (refine wpList_store_row rfl 26 (.tmp 10) (.tmp 33) rfl v5.heap.size (Opn.arr ⟨6, o.path, [], []⟩) rfl rfl 26 (Opn.arr ⟨0, [], [], []⟩) box_new (info26 _) rfl (oarr_one _) ?_; rw [← HV6.out, ← HG10.out])
        | (refine wpList_store_row rfl 26 (.tmp 10) (.tmp 45) rfl g10 (Opn.arr ⟨5, o.to, o.path, []⟩) rfl rfl 26 (Opn.arr ⟨6, o.path, [], []⟩) X10.out (info26 _) rfl (oarr_one _) ?_)
        | fail)
      rw [← HV7.out]
      go_wp2_with fail
      refine HD2.out.mono ?_
      rintro e a8 ⟨hb8, hc8⟩
      obtain ⟨l8, v11, hd8, rfl, ho8⟩ : ∃ l8 v', doM l' ⟨5, o.to, o.path, []⟩ = .ok l8 ∧ e = .returned (.tuple #[.agg #[v'], .int .i64 0]) ∧ OwnI a8 v7.heap.size v' l8 := by
        rcases hc8 with ⟨z, h1, _⟩ | h
        · rw [HDB.out] at h1; cases h1
        · exact h
      obtain rfl : l = l8 := by rw [HDB.out] at hd8; injection hd8
      obtain ⟨ma, mn, mc, rfl⟩ := own_any ho8
      obtain ⟨g11, hg11⟩ : ∃ z, z = a8.heap.size := ⟨_, rfl⟩
      obtain ⟨v8, hv8⟩ : ∃ z, z = (a8.alloc (.cells #[.slice none 0 0] 24)).setRow a8.heap.size #[.slice ma mn mc] := ⟨_, rfl⟩
      have hn8 : Below a8.heap.size a8 v8 := by rw [hv8]; exact below_row (below_new _ _) (Nat.le_refl _) _
      have X11 : Hid (Box v8 g11 24 #[.slice ma mn mc]) := Lib.hid (by rw [hv8, hg11]; exact Box.row (box_new (w := a8) (t := 24) (cs := #[.slice none 0 0])) _)
      have hb78 : Below v7.heap.size v7 v8 := bch hb8 hn8
      have HM8 : Hid (RdI v8 (.slice ma mn mc) l) := Lib.hid (ho8.on hn8).rd
      have HT8 : Hid (RdI v8 (.slice ta tn tc) l) := Lib.hid (HO7.out.on hb78).rd
      have HN8 : Hid (RdI v8 (.slice na nn nc) l') := Lib.hid (HN7.out.on hb78).rd
      have X58 : Hid (Box v8 g5 24 #[.slice ta tn tc]) := Lib.hid (HX57.out.on hb78)
      have X88 : Hid (Box v8 g8 24 #[.slice na nn nc]) := Lib.hid (HX87.out.on hb78)
      have HB8 : Hid (Below w.heap.size w v8) := Lib.hid (bch HB7.out hb78)
      have HS1 : Hid (Calls Tryd.prog 14 #[.agg #[.slice ma mn mc], .agg #[.slice ta tn tc]] v8 (EqR true v8)) := Lib.hid (by
        have := same_any l l _ _ v8 HM8.out HT8.out
        rw [decide_eq_true (rfl : l = l)] at this
        exact this)
      have HS2 : Hid (∀ W, Below v8.heap.size v8 W → Calls Tryd.prog 14 #[.agg #[.slice na nn nc], .agg #[.slice ta tn tc]] W (EqR false W)) := Lib.hid (fun W hW => by
        have := same_any l' l _ _ W (HN8.out.on hW) (HT8.out.on hW)
        rw [decide_eq_false HNE.out] at this
        exact this)
      have z11 : v8.cell? ⟨g11, 0, none⟩ = some (.slice ma mn mc) := X11.out.cell (k := 0) rfl
      have z5 : v8.cell? ⟨g5, 0, none⟩ = some (.slice ta tn tc) := X58.out.cell (k := 0) rfl
      have HV8 := Lib.hid hv8
      have HG11 := Lib.hid hg11
      clear hb8 hc8 hd8 ho8 hn8 hv8 hg11 hb78 HD2 p8 s0 s1 s2 s3
      go_wp2_with (first
        | (refine wpList_store_row rfl 24 (.tmp 11) (.tmp 54) rfl a8.heap.size #[.slice ma mn mc] rfl rfl 24 #[.slice none 0 0] box_new (info24 _) rfl (slice_one _ _ _) ?_; rw [← HV8.out, ← HG11.out])
        | fail)
      refine HS1.out.mono ?_
      rintro e w9 ⟨rfl, hb9⟩
      have HB9 := Lib.hid (bch HB8.out hb9)
      have y8 : w9.cell? ⟨g8, 0, none⟩ = some (.slice na nn nc) := (X88.out.on hb9).cell (k := 0) rfl
      have y5 : w9.cell? ⟨g5, 0, none⟩ = some (.slice ta tn tc) := (X58.out.on hb9).cell (k := 0) rfl
      have HS3 := Lib.hid (HS2.out w9 hb9)
      clear hb9 z11 z5
      go_wp2_with fail
      refine HS3.out.mono ?_
      rintro e wA ⟨rfl, hbA⟩
      go_wp2_with fail
      go_ret
      exact ⟨rfl, bch HB9.out hbA⟩
    · rw [hk] at q0
      go_wp2_with (first
        | (refine wpList_store_row rfl 24 (.tmp 8) (.tmp 27) rfl a5.heap.size #[.slice na nn nc] rfl rfl 24 #[.slice none 0 0] box_new (info24 _) rfl (slice_one _ _ _) ?_; rw [← HV5.out, ← HG8.out])
        | (refine wpList_store_row rfl 26 (.tmp 10) (.tmp 33) rfl v5.heap.size (Opn.arr ⟨6, o.path, [], []⟩) rfl rfl 26 (Opn.arr ⟨0, [], [], []⟩) box_new (info26 _) rfl (oarr_one _) ?_; rw [← HV6.out, ← HG10.out])
        | fail)
      go_ret
      exact ⟨rfl, HB6.out⟩
    · rw [hk] at q0
      go_wp2_with (first
        | (refine wpList_store_row rfl 24 (.tmp 8) (.tmp 27) rfl a5.heap.size #[.slice na nn nc] rfl rfl 24 #[.slice none 0 0] box_new (info24 _) rfl (slice_one _ _ _) ?_; rw [← HV5.out, ← HG8.out])
        | (refine wpList_store_row rfl 26 (.tmp 10) (.tmp 33) rfl v5.heap.size (Opn.arr ⟨6, o.path, [], []⟩) rfl rfl 26 (Opn.arr ⟨0, [], [], []⟩) box_new (info26 _) rfl (oarr_one _) ?_; rw [← HV6.out, ← HG10.out])
        | fail)
      go_ret
      exact ⟨rfl, HB6.out⟩
end Go.Proofs.YtemhdjplhafmiaaDoor

/- Proved: whatever tree and operation TreeBack of puncheonlaw06 is called with, the call returns true, and all read behind it as they read before (the statement Rows.TreeBackCardSaid). No condition of ours: the tables stand as the program's text lays them (the card ties them), and the form's own reach. -/
namespace Go.Proofs.YtemhdjplhafmiaaDoor.TreeBackP
open Go.ChangeShapes Go.WideShapes Go.ChangeAt Go.RowKit Go.Joins Go.Deep
open Go.ChangeMaps (open_string shut_string)

theorem met (os : Os) : laidMet Tryd.prog Rows.treeBackRow.laid ((laidWorld os).forCall (fun _ _ => 0) ⟨#[], #[zeroTree, zeroOp], []⟩).memory :=
  laid_met os _
theorem reads (os : Os) {H : Type} (enc : TypeId × Value → H) : ∃ places, DataW.whole enc Tryd.prog ((laidWorld os).forCall (fun _ _ => 0) ⟨#[], #[zeroTree, zeroOp], []⟩).memory Tryd.f4.params.toList Rows.treeBackSpec.vars false #[zeroTree, zeroOp].toList 8 = some ([zeroTreeD, zeroOpD], [], places) :=
  ⟨[], by kernel_rfl⟩

set_option maxRecDepth 100000 in
theorem lifted (os : Os) (started : os.Started) (H : Type) (enc : TypeId × Value → H) (F : Stop.Interp) :
    ReturnsInHanded {} Tryd.checked os 4 .any ((OpenSpec.ofChange Rows.treeBackSpec).preRow enc Tryd.prog Tryd.f4 Rows.treeBackRow.domain false Rows.treeBackRow.laid) (((OpenSpec.ofChange Rows.treeBackSpec).at F).post enc Tryd.prog Tryd.f4 false true false false) := by
  obtain ⟨places, hx⟩ := reads os enc
  refine returnsInHanded_of_row (C := Tryd.checked) (s := OpenSpec.ofChange Rows.treeBackSpec) own0 started (by kernel_rfl) Tryd.func4
    (witness_row_at (enc := enc) (C := Tryd.checked) false (laidWorld os) #[zeroTree, zeroOp] rfl (by kernel_rfl) (by kernel_rfl) (by kernel_rfl)
      (OpenSpec.preRow_of_cond 8 hx (by kernel_rfl) (fun k hk => by cases hk) (by kernel_rfl) (met os))) ?_
  intro W base args ds gs before hval0 hW _ _ hsz0 hL hsh _
  have hval : ∀ (j : Nat) t v, Tryd.f4.params[j]? = some t → args[j]? = some v → Value.okWide Tryd.prog W .any base t v := hval0
  have hsz : (DataW.weightsEach Tryd.prog (Tryd.f4.params.toList ++ Rows.treeBackSpec.plain.varTypes Tryd.prog) (ds ++ gs)).all (· ≤ reachBytes) = true := hsz0
  clear hsz0
  have hW' := hW
  obtain ⟨p, q, hA0, hV, rfl, hfz, hnd⟩ := hW
  have hA : DataW.TrodAll enc Tryd.prog W 0 (fun _ => true) true Tryd.f4.params.toList args.toList ds p := hA0
  rw [Tryd.params4] at hA hval hsz
  obtain ⟨v0, vs0, d0, ds0, p0, q0, hargs, rfl, rfl, h0, r0⟩ := trodAll_cons hA
  obtain ⟨v1, vs1, d1, ds1, p1, q1, rfl, rfl, rfl, h1, r1⟩ := trodAll_cons r0
  obtain ⟨rfl, rfl, rfl⟩ := trodAll_nil r1
  obtain rfl : args = #[v0, v1] := by cases args; simp_all
  obtain ⟨rfl, rfl⟩ := trodVars_none hV
  obtain ⟨cs0, rfl⟩ := okWide_tree (hval 0 24 v0 rfl rfl)
  obtain ⟨cs1, rfl⟩ := okWide_op (hval 1 26 v1 rfl rfl)
  have h0k := h0
  obtain ⟨fuel0, hf0⟩ := h0
  have h1k := h1
  obtain ⟨fuel1, hf1⟩ := h1
  clear hA0 hval0
  simp only [List.append_nil] at hW'
  have hlt0 : ∀ x ∈ p0, x.block < W.heap.size := fun x hx => by simpa using hW'.lt x (by simp [hx])
  have hlt1 : ∀ x ∈ p1, x.block < W.heap.size := fun x hx => by simpa using hW'.lt x (by simp [hx])
  obtain ⟨x0, l0, rfl, hr0, hw0'⟩ := argT_of (by simpa [Value.cells] using hf0) hlt0
  have hw0 : ∀ y ∈ l0, y.path.length ≤ 140737488355328 := fun y hy => reach_len (by simpa using List.all_eq_true.1 hsz _ (DataW.weights_mem_each (j := 0) (t := 24) rfl rfl _ (hw0' y hy)))
  obtain ⟨o1, rfl, hw1'⟩ := argP_of (by simpa [Value.cells] using hf1)
  have hw1 : o1.path.length ≤ 140737488355328 ∧ o1.to.length ≤ 140737488355328 := ⟨reach_len (by simpa using List.all_eq_true.1 hsz _ (DataW.weights_mem_each (j := 1) (t := 26) rfl rfl _ hw1'.1)), reach_len (by simpa using List.all_eq_true.1 hsz _ (DataW.weights_mem_each (j := 1) (t := 26) rfl rfl _ hw1'.2))⟩
  refine (back_law l0 x0 o1 W hr0 hw0 hw1 (tabs hL hsh)).mono fun e W' ⟨he, hb⟩ => ?_
  subst he
  exact ⟨_, rfl, _, _, _, [], _, [], hW', (trodAll_cons_mk (shut_bool Tryd.underlying4 _) trodAll_mk0), (trodAll_cons_mk (Below.trod laidOut (by kernel_rfl) (of_decide_eq_true (by kernel_rfl)) h0k hb hlt0) (trodAll_cons_mk (Below.trod laidOut (by kernel_rfl) (of_decide_eq_true (by kernel_rfl)) h1k hb hlt1) trodAll_mk0)), rfl, hb.frame _, fun h => by cases h⟩

theorem said : Rows.TreeBackSaid :=
  OpenClaim.holds_of_cond 4 Tryd.f4 rfl rfl rfl rfl rfl rfl rfl ⟨rfl, rfl, rfl, rfl, rfl⟩ rfl rfl rfl rfl rfl (by kernel_rfl) Tryd.func4 (by kernel_rfl)
    (of_decide_eq_true (by kernel_rfl)) (by unfold Func.isWrapper; first | (rw [if_pos (by decide +kernel)]; kernel_rfl) | (rw [if_neg (by decide +kernel)]; exact ⟨rfl, rfl⟩))
    (fun os started H enc _ F => by rw [OpenClaim.pre_eq_preRow]; exact lifted os started H enc F)

/-- No parameter wants a stand-in; the program's own looks are off: what the card asks. -/
theorem plain (f : FuncId) (fn : Func) (hf : Tryd.pinned.checked.prog.funcNamed "puncheon/puncheonlaw06.TreeBack" = some f) (hfn : Tryd.pinned.checked.prog.funcs[f]? = some fn) :
    false = Tryd.pinned.checked.prog.looks [] ∧ ∀ (j : Nat) t, fn.params[j]? = some t → Tryd.pinned.checked.prog.wantsStandIn t = false := by
  obtain rfl : f = 4 := Option.some.inj ((show Tryd.prog.funcNamed "puncheon/puncheonlaw06.TreeBack" = some 4 by kernel_rfl).symm.trans hf) |>.symm
  obtain rfl : fn = Tryd.f4 := (Option.some.inj (Tryd.func4.symm.trans hfn)).symm
  refine ⟨by kernel_rfl, fun j t ht => ?_⟩
  rw [Tryd.params4] at ht
  have hm : t ∈ [24, 26] := by simpa using Array.mem_of_getElem? ht
  have hall : ([24, 26].all fun u => !Tryd.prog.wantsStandIn u) = true := by kernel_rfl
  exact (show Tryd.prog.wantsStandIn t = false by simpa using List.all_eq_true.1 hall t hm)
end Go.Proofs.YtemhdjplhafmiaaDoor.TreeBackP
namespace Go.Proofs.YtemhdjplhafmiaaDoor
theorem treeBack_card : Rows.TreeBackCardSaid :=
  Claim7.holds_tied_plain_at .later [] _ _ _ _ TreeBackP.said (fun _ h => by cases h) (by kernel_rfl) (fun _ h => by cases h) treeBack_row_tie rfl ⟨rfl, rfl⟩ (by kernel_rfl) rfl TreeBackP.plain (by kernel_rfl)
#print axioms treeBack_card
end Go.Proofs.YtemhdjplhafmiaaDoor
