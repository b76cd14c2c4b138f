/- Proved: whatever tree and paths TreeTells of puncheonlaw06 is called with, the call returns true, and all read behind it as they read before (the statement Rows.TreeTellsUptoCardSaid). Condition: what came in holds at most 1048576 values and letters (the statement's own); the tables stand as the program's text lays them (the card ties them). | Proved here: Base of puncheonref01 of a path that has a name, and Kids of puncheonref06 of a tree that may be; Below and Kids of package tree, of any tree. | Proved here: TreeTells of puncheonlaw06 returns true, for every tree and row of paths of at most two million letters each, wherever the tables stand. -/
import Derived.Test.YtjbbnecegomkcaaGreatDoorMRb
import Derived.Test.YtjbbnecegomkcaaGreatDoorMRs
import Derived.SliceStrings
namespace Go.Proofs.YtjbbnecegomkcaaGreatDoor
open Go.RowKit Go.Shelf Go.Maps

set_option maxHeartbeats 2000000 in
theorem rbase_any (p : ByteArray) (hp : p.size ≤ 2000000) (hv : validB p.data.toList = true) (h0 : namesL p.data.toList ≠ []) (w : World) : Calls Tryz.prog 47 #[.string p] w fun e w' => e = .returned (.string ⟨(baseL p.data.toList).toArray⟩) ∧ Below w.heap.size w w' := by
  obtain ⟨n, hn⟩ : ∃ n, (namesL p.data.toList).length = n := ⟨_, rfl⟩
  have hn0 : 0 < n := by have := List.length_pos_iff.2 h0; omega
  obtain ⟨x, hx⟩ : ∃ x, (namesL p.data.toList)[n - 1]? = some x := ⟨_, List.getElem?_eq_getElem (by omega)⟩
  have e : baseL p.data.toList = x := by
    rw [baseL, if_pos hv, List.getLast?_eq_getElem?, hn, hx]; rfl
  rw [e]
  have HV := Lib.hid hv
  have hpb := (valid_join _ hv).2
  have hn40 : n ≤ 40 := by have := ((parts_iff _).1 hpb).1; omega
  have HN := Lib.hid hn
  have HX := Lib.hid hx
  have d0 : ((n : Int) == 0) = false := by rw [beq_eq_false_iff_ne]; omega
  have q1 : IntKind.i64.wrap ((n : Int) - 1) = ((n - 1 : Nat) : Int) := by rw [IntWalk.i64_in _ (by omega)]; omega
  have q2 : (0 : Int) ≤ ((n - 1 : Nat) : Int) := by omega
  have q3 : ((n - 1 : Nat) : Int) < (n : Int) := by omega
  clear hv h0 e hpb hn hx
  go_enter Tryz.func47, Tryz.ntmps47
  go_wp2_with fail
  refine ((rnames_any p hp _).1 HV.out).mono ?_
  rintro e w1 ⟨v, rfl, hr, hb⟩
  obtain ⟨a, cap, rfl, hc1, hc2, hc⟩ := hr
  obtain ⟨g, o, rfl, hg, hc⟩ := hc (by have := HN.out; omega)
  rw [HN.out]
  have p1 := hc (n - 1) x HX.out
  clear hc hc1 hc2 hg
  go_wp2
  go_ret
  exact ⟨rfl, hb⟩

theorem kL_one (l : List It) (q : Str) {k : Nat} {x : It} (h : l[k]? = some x) : kL q (l.take (k + 1)) = kL q (l.take k) ++ (if upL x.path = q then [baseL x.path] else []) := by
  rw [List.take_add_one, h, Option.toList_some]
  by_cases e : upL x.path = q
  · rw [kL_snoc_yes e, if_pos e]
  · rw [kL_snoc_no e, if_neg e, List.append_nil]
def KidsO (l : List It) (q : Str) (w : World) (e : Ending) (w' : World) : Prop := ∃ a n c, e = .returned (.slice a n c) ∧ n = (kL q l).length ∧ w'.ownsRow w.heap.size 9 1 (.slice a n c) n ((kL q l).map encS) ∧ Below w.heap.size w w'
set_option maxRecDepth 100000 in
set_option maxHeartbeats 8000000 in
theorem rkids_any (l : List It) (v : Value) (q : Str) (w : World) (hv : RdI w v l) (h : TreeOk l) : Calls Tryz.prog 22 #[.agg #[v], .string ⟨q.toArray⟩] w (KidsO l q w) := by
  obtain ⟨w1, hw1⟩ : ∃ z, z = w.alloc (.cells #[v] 24) := ⟨_, rfl⟩
  have X : Hid (Box w1 w.heap.size 24 #[v]) := Lib.hid (by rw [hw1]; exact box_new)
  have HB1 : Hid (Below w.heap.size w w1) := Lib.hid (by rw [hw1]; exact below_new _ _)
  have HV := Lib.hid (hv.on HB1.out)
  obtain ⟨a, c, rfl, hlc, hcm, _⟩ := hv.open
  obtain ⟨n, hn⟩ : ∃ n, n = l.length := ⟨_, rfl⟩
  have hl := h.many
  rw [← hn] at HV X hlc hw1 hl ⊢
  have HN := Lib.hid hn
  have HOK := Lib.hid h
  have c0 := X.out.cell (k := 0) rfl
  obtain ⟨i0, hi, hz0, hz1, hz2⟩ := info_parts info9
  have OS0 : Hid (w1.ownsRow w1.heap.size 9 1 (.slice none 0 0) 0 []) := Lib.hid (World.ownsRow_nil _ _ _ _)
  clear hv hn h
  unfold maxLen at hcm
  go_enter Tryz.func22, Tryz.ntmps22
  go_upto_region 1 with fail
  rw [← hw1]
  clear hw1
  go_wp2_with fail
  clear c0
  go_loopw [5, 11] (fun s i W => ∃ (k m : Nat) (a3 : Option Addr) (c3 : Nat), s = .slice a3 m c3 ∧ k ≤ n ∧ i = .int .i64 k ∧ Hid (m = (kL q (l.take k)).length) ∧ Hid (W.ownsRow w1.heap.size 9 1 (.slice a3 m c3) m ((kL q (l.take k)).map encS)) ∧ Hid (Below w1.heap.size w1 W)) (fun s i _ => n - (Lib.intOf i).toNat)
  case atStart => exact ⟨0, 0, none, 0, rfl, Nat.zero_le _, rfl, Lib.hid rfl, OS0, Lib.hid (Below.refl _ _)⟩
  case round =>
    clear OS0
    obtain ⟨k, m, a3, c3, rfl, hk, rfl, HM, HO, HBk⟩ := hrel
    obtain ⟨wq, hwq⟩ : ∃ q, q = wr := ⟨_, rfl⟩
    rw [← hwq] at HBk HO ⊢
    clear hwq
    have hmb : m ≤ 2000 := by
      have := kL_len q (l.take k)
      rw [HM.out]
      rw [List.length_take] at this
      have := HN.out
      omega
    by_cases hlt : k < n
    · obtain ⟨x, hx⟩ : ∃ x, l[k]? = some x := ⟨_, List.getElem?_eq_getElem (by rw [← HN.out]; exact hlt)⟩
      obtain ⟨a', c', e, _, _, hc⟩ := (HV.out.on HBk.out).open
      rw [← HN.out] at e
      cases e
      obtain ⟨g, o, rfl, hg, hc⟩ := hc (by rw [← HN.out]; omega)
      obtain ⟨q0, q1, q2⟩ := hc k x hx
      have k1 : (k : Int) < (n : Int) := by omega
      have k2 : (0 : Int) ≤ (k : Int) := by omega
      have k4 : IntKind.i64.wrap ((k : Int) + 1) = (k : Int) + 1 := IntWalk.i64_in _ (by omega)
      obtain ⟨w5, hw5⟩ : ∃ q, q = wq.alloc (.cells #[.string ⟨x.path.toArray⟩, .int .i64 x.kind, .string ⟨x.data.toArray⟩] 33) := ⟨_, rfl⟩
      have hb5 : Below wq.heap.size wq w5 := by rw [hw5]; exact below_new _ _
      have HX5 : Hid (Box w5 wq.heap.size 33 x.arr) := Lib.hid (by rw [hw5]; exact box_new)
      have HB5 : Hid (Below w1.heap.size w1 w5) := Lib.hid (bch HBk.out hb5)
      replace HO := Lib.hid (ownR_below HO.out hb5)
      obtain ⟨u, hu⟩ : ∃ u, u = upL x.path := ⟨_, rfl⟩
      obtain ⟨y, hy⟩ : ∃ y, y = baseL x.path := ⟨_, rfl⟩
      have hkd := (HOK.out.kid x (List.mem_of_getElem? hx)).1
      have hxs : (⟨x.path.toArray⟩ : ByteArray).size ≤ 2000000 := by
        show x.path.toArray.size ≤ _
        rw [List.size_toArray]
        exact Nat.le_trans (valid_len x.path hkd.1) (by decide)
      have HUP : Hid (∀ W, Calls Tryz.prog 41 #[.string ⟨x.path.toArray⟩] W fun e w' => e = .returned (.string ⟨u.toArray⟩) ∧ Below W.heap.size W w') := Lib.hid (fun W => by rw [hu]; exact rup_any ⟨x.path.toArray⟩ hxs W)
      have HBA : Hid (∀ W, Calls Tryz.prog 47 #[.string ⟨x.path.toArray⟩] W fun e w' => e = .returned (.string ⟨y.toArray⟩) ∧ Below W.heap.size W w') := Lib.hid (fun W => by rw [hy]; exact rbase_any ⟨x.path.toArray⟩ hxs hkd.1 (fun e => hkd.2.1 ((names_root _ hkd.1).1 e)) W)
      have HKL : Hid (kL q (l.take (k + 1)) = kL q (l.take k) ++ (if u = q then [y] else [])) := Lib.hid (by rw [hu, hy]; exact kL_one l q hx)
      clear hc hx hb5 hg hu hy hkd hxs
      go_upto_region 5 with fail
      obtain ⟨b7, hb7⟩ : ∃ q, q = wq.heap.size := ⟨_, rfl⟩
      rw [← hb7] at HX5 ⊢
      rw [← hw5]
      clear hw5 hb7 q0 q1 q2 HBk
      have d0 := HX5.out.it.c0
      go_wp2_with fail
      refine (HUP.out _).mono ?_
      rintro e w6 ⟨rfl, hb⟩
      have HX6 := Lib.hid (HX5.out.on hb)
      have HB6 := Lib.hid (bch HB5.out hb)
      have HO6 := Lib.hid (ownR_below HO.out hb)
      clear hb d0 HO HUP
      by_cases he : u = q
      · have t1 : (u == q) = true := by simp [he]
        have HR : Hid (kL q (l.take (k + 1)) = kL q (l.take k) ++ [y]) := Lib.hid (by rw [HKL.out, if_pos he])
        clear he
        have d0 := HX6.out.it.c0
        go_wp2_with fail
        refine (HBA.out _).mono ?_
        rintro e w7 ⟨rfl, hb⟩
        have HB7 := Lib.hid (bch HB6.out hb)
        have HO7 := Lib.hid (ownR_below HO6.out hb)
        have HBQ : Hid (∀ z, (Value.slice a3 m c3).ownBlock = some z → w1.heap.size ≤ z) := Lib.hid (fun z hz => (ownR_blk HO7.out hz).1)
        have hws : w1.heap.size ≤ w7.heap.size := HB7.out.size
        clear hb d0 HO6
        go_wp2_with (at_builtin; refine wpList_append_own _ rfl _ _ 41 rfl w1.heap.size 9 i0 (.string ⟨#[]⟩) 1 16 Tryz.underlying41 hi hz0 hz1 hz2 rfl (by decide) _ _ _ rfl (HO7.out.alloc _) ⟨w7.heap.size, 0, none⟩ 1 1 [.string ⟨y.toArray⟩] rfl rfl (cell_one_new _ _ _) (by simp [Value.oneCell']) (by unfold maxLen; omega) (by omega) (by simp; omega) ?_)
        intro v9 w9 hown9 hgrow9 _
        have HB9 : Hid (Below w1.heap.size w1 w9) := Lib.hid ((HB7.out.alloc hws _).grown hgrow9 (by simp; omega) HBQ.out)
        obtain ⟨g9, c9, rfl⟩ := ownsRow_succ hown9
        have HO9 := Lib.hid hown9
        clear hown9 hgrow9
        go_wp2_with fail
        go_roundw
        case rel => exact ⟨k + 1, m + 1, _, _, rfl, hlt, by go_num, Lib.hid (by rw [HR.out, List.length_append, ← HM.out]; rfl), Lib.hid (by rw [HR.out, List.map_append]; exact HO9.out), HB9⟩
        case measure => simp [Lib.intOf]; omega
      · have t1 : (u == q) = false := by simp [he]
        have HR : Hid (kL q (l.take (k + 1)) = kL q (l.take k)) := Lib.hid (by rw [HKL.out, if_neg he, List.append_nil])
        clear he
        go_wp2_with fail
        go_roundw
        case rel => exact ⟨k + 1, m, _, _, rfl, hlt, by go_num, Lib.hid (by rw [HR.out]; exact HM.out), Lib.hid (by rw [HR.out]; exact HO6.out), HB6⟩
        case measure => simp [Lib.intOf]; omega
    · have k1 : ¬ ((k : Int) < (n : Int)) := by omega
      have HR : Hid (kL q (l.take k) = kL q l) := Lib.hid (by rw [List.take_of_length_le (by have := HN.out; omega)])
      go_wp2_with fail
      go_ret
      exact ⟨a3, m, c3, rfl, by rw [← HR.out]; exact HM.out, by rw [← HR.out]; exact own_base HO.out HB1.out.size, bch HB1.out HBk.out⟩

end Go.Proofs.YtjbbnecegomkcaaGreatDoor

namespace Go.Proofs.YtjbbnecegomkcaaGreatDoor
open Go.RowKit Go.Shelf Go.Maps
attribute [local go_sem] Oper.semAt_some
def NilR (w : World) (e : Ending) (w' : World) : Prop := e = .returned (.slice none 0 0) ∧ Below w.heap.size w w'
set_option maxRecDepth 100000 in
set_option maxHeartbeats 4000000 in
theorem below_no (l : List It) (v : Value) (p : Str) (w : World) (hv : RdI w v l) (h : validT l = false) (hx : ∀ x ∈ l, x.path.length ≤ 140737488355328) (hT : Tabs w) :
    Calls Tryz.prog 24 #[.agg #[v], .string ⟨p.toArray⟩] w (NilR w) := by
  refine (callsIn_wide (n := 5)).1 ?_
  obtain ⟨w1, hw1⟩ : ∃ z, z = w.alloc (.cells #[v] 24) := ⟨_, rfl⟩
  obtain ⟨b2, hb2⟩ : ∃ z, z = w.heap.size := ⟨_, rfl⟩
  have HB1 : Hid (Below w.heap.size w w1) := Lib.hid (by rw [hw1]; exact below_new _ _)
  have X1 : Hid (Box w1 b2 24 #[v]) := Lib.hid (by rw [hw1, hb2]; exact box_new)
  have HVA := Lib.hid (tvalid_is l false h.symm v w1 (hv.on HB1.out) hx (hT.on HB1.out))
  obtain ⟨a, c, rfl, _⟩ := hv.open
  obtain ⟨n, hn⟩ : ∃ n, n = l.length := ⟨_, rfl⟩
  rw [← hn] at hw1 X1 HVA ⊢
  have HW1 := Lib.hid hw1
  have HB2 := Lib.hid hb2
  have c0 : (w.alloc (.cells #[.slice a n c] 24)).cell? ⟨w.heap.size, 0, none⟩ = some (.slice a n c) := by rw [← hw1, ← hb2]; exact X1.out.cell (k := 0) rfl
  clear hv h hT hw1 hb2 hn hx
  refine callsIn_of_wp_marks Tryz.func24 rfl trivial ?_ rfl
  simp only [Tryz.ntmps24, List.size_toArray, List.length_cons, List.length_nil, Nat.reduceAdd, Nat.reduceSub, Array.replicate_succ, Array.replicate_zero, List.push_toArray, List.append_toArray, List.nil_append, List.cons_append]
  gi_wp2_with (first | (refine ⟨trivial, ?_⟩; gi_at_call 38; rw [← HW1.out, ← HB2.out]; refine (callsIn_wide.2 HVA.out).mono ?_; rintro e w2 ⟨rfl, hb⟩; have HB3 := Lib.hid (bch HB1.out hb); clear hb c0))
  refine ⟨.slice none 0 0, ?_, ?_⟩
  · simp [results, Tryz.f24, go_sem]
  · exact ⟨rfl, HB3.out⟩
set_option maxRecDepth 100000 in
set_option maxHeartbeats 4000000 in
theorem kids_no (l : List It) (v : Value) (p : Str) (w : World) (hv : RdI w v l) (h : validT l = false) (hx : ∀ x ∈ l, x.path.length ≤ 140737488355328) (hT : Tabs w) :
    Calls Tryz.prog 26 #[.agg #[v], .string ⟨p.toArray⟩] w (NilR w) := by
  refine (callsIn_wide (n := 5)).1 ?_
  obtain ⟨w1, hw1⟩ : ∃ z, z = (w.alloc (.cells #[v] 24)).alloc (.cells #[.string ⟨p.toArray⟩] 9) := ⟨_, rfl⟩
  obtain ⟨b2, hb2⟩ : ∃ z, z = w.heap.size := ⟨_, rfl⟩
  have HB1 : Hid (Below w.heap.size w w1) := Lib.hid (by rw [hw1]; exact bch (below_new _ _) (below_new _ _))
  have X1 : Hid (Box w1 b2 24 #[v]) := Lib.hid (by rw [hw1, hb2]; exact box_new.alloc _)
  obtain ⟨b3, hb3⟩ : ∃ z, z = w.heap.size + 1 := ⟨_, rfl⟩
  have HB3e := Lib.hid hb3
  have HVA := Lib.hid (tvalid_is l false h.symm v w1 (hv.on HB1.out) hx (hT.on HB1.out))
  obtain ⟨a, c, rfl, _⟩ := hv.open
  obtain ⟨n, hn⟩ : ∃ n, n = l.length := ⟨_, rfl⟩
  rw [← hn] at hw1 X1 HVA ⊢
  have HW1 := Lib.hid hw1
  have HB2 := Lib.hid hb2
  have c0 : ((w.alloc (.cells #[.slice a n c] 24)).alloc (.cells #[.string ⟨p.toArray⟩] 9)).cell? ⟨w.heap.size, 0, none⟩ = some (.slice a n c) := by rw [← hw1, ← hb2]; exact X1.out.cell (k := 0) rfl
  clear hv h hT hw1 hb2 hn hx
  refine callsIn_of_wp_marks Tryz.func26 rfl trivial ?_ rfl
  simp only [Tryz.ntmps26, List.size_toArray, List.length_cons, List.length_nil, Nat.reduceAdd, Nat.reduceSub, Array.replicate_succ, Array.replicate_zero, List.push_toArray, List.append_toArray, List.nil_append, List.cons_append]
  gi_wp2_with (first | (refine ⟨trivial, ?_⟩; gi_at_call 38; rw [← HW1.out, ← HB2.out]; refine (callsIn_wide.2 HVA.out).mono ?_; rintro e w2 ⟨rfl, hb⟩; have HB3 := Lib.hid (bch HB1.out hb); clear hb c0))
  refine ⟨.slice none 0 0, ?_, ?_⟩
  · simp [results, Tryz.f26, go_sem]
  · exact ⟨rfl, HB3.out⟩

/-- What Below and Kids hand back. -/
def belT (l : List It) (p : Str) : List It := if validT l = true then belowL l p else []
def kidT (l : List It) (p : Str) : List Str := if validT l = true then kL p (belowL l p) else []
def BelU (l : List It) (p : Str) (w : World) (e : Ending) (w' : World) : Prop := ∃ a n c, e = .returned (.slice a n c) ∧ n = (belT l p).length ∧ OwnI w' w.heap.size (.slice a n c) (belT l p) ∧ Below w.heap.size w w'
def KidU (l : List It) (p : Str) (w : World) (e : Ending) (w' : World) : Prop := ∃ a n c, e = .returned (.slice a n c) ∧ n = (kidT l p).length ∧ w'.ownsRow w.heap.size 9 1 (.slice a n c) n ((kidT l p).map encS) ∧ Below w.heap.size w w'
theorem below_u (B : Nat) (l : List It) (v : Value) (p : Str) (w : World) (ho : OwnI w B v l) (hx : ∀ x ∈ l, x.path.length ≤ 140737488355328) (hp : p.length ≤ 140737488355328) (hT : Tabs w) :
    Calls Tryz.prog 24 #[.agg #[v], .string ⟨p.toArray⟩] w (BelU l p w) := by
  by_cases h : validT l = true
  · refine (below_any B l v p w ho (tree_ok h) hp hT).mono ?_
    rintro e w' ⟨x, rfl, hI, hb⟩
    obtain ⟨a, c, rfl, _⟩ := own_slice hI
    unfold BelU belT
    rw [if_pos h]
    exact ⟨a, _, c, rfl, rfl, hI, hb⟩
  · refine (below_no l v p w ho.rd (by simpa using h) hx hT).mono ?_
    rintro e w' ⟨rfl, hb⟩
    unfold BelU belT
    rw [if_neg h]
    exact ⟨none, 0, 0, rfl, rfl, World.ownsRow_nil _ _ _ _, hb⟩
theorem ownsS_slice {w : World} {B : Nat} {v : Value} {l : List Str} (h : w.ownsRow B 9 1 v l.length (l.map encS)) : ∃ a c, v = .slice a l.length c := by
  rcases h.2 with ⟨rfl, h0⟩ | ⟨g, c, cur, rfl, _⟩
  · exact ⟨none, 0, by rw [h0]⟩
  · exact ⟨_, _, rfl⟩
theorem kids_u (B : Nat) (l : List It) (v : Value) (p : Str) (w : World) (ho : OwnI w B v l) (hx : ∀ x ∈ l, x.path.length ≤ 140737488355328) (hp : p.length ≤ 140737488355328) (hT : Tabs w) :
    Calls Tryz.prog 26 #[.agg #[v], .string ⟨p.toArray⟩] w (KidU l p w) := by
  by_cases h : validT l = true
  · refine (kids_any B l v p w ho (tree_ok h) hp hT).mono ?_
    rintro e w' ⟨x, rfl, hI, hb⟩
    obtain ⟨a, c, rfl⟩ := ownsS_slice hI
    unfold KidU kidT
    rw [if_pos h]
    exact ⟨a, _, c, rfl, rfl, hI, hb⟩
  · refine (kids_no l v p w ho.rd (by simpa using h) hx hT).mono ?_
    rintro e w' ⟨rfl, hb⟩
    unfold KidU kidT
    rw [if_neg h]
    exact ⟨none, 0, 0, rfl, rfl, World.ownsRow_nil _ _ _ _, hb⟩
theorem under_no {a p : Str} (h : validB p = false) : underB a p = false := by
  cases e : underB a p with
  | false => rfl
  | true => rw [(under_form e).2.1] at h; cases h
/-- What the reference asks, where the path is one. -/
theorem tells_yes {l : List It} {p : Str} (h : validT l = true) : refG l p = ((getT l p).getD .nil, (getT l p).isSome) ∧ belowR l p = belT l p ∧ kL p l = kidT l p := by
  have ht := tree_ok h
  refine ⟨?_, ?_, ?_⟩
  · unfold refG getT getI
    rw [if_pos h]
    by_cases e : p = [47]
    · rw [if_pos e, if_pos e]; rfl
    · rw [if_neg e, if_neg e]
      cases l.find? (fun x => x.path == p) <;> rfl
  · unfold belT
    rw [if_pos h, below_is (srt_of ht)]
  · unfold kidT
    rw [if_pos h, ← below_is (srt_of ht)]
    unfold kL belowR
    rw [List.filter_filter]
    congr 1
    refine List.filter_congr fun x hx => ?_
    have hk := (ht.kid x hx).1
    by_cases e : upL x.path = p
    · have hu : Kid p x.path := by rw [← e]; exact hk
      have h9 : ¬ x.path = p := fun e2 => hu.ne e2.symm
      simp [e, hu.under, h9]
    · simp [e]
theorem tells_no {l : List It} {p : Str} (h : validT l = false ∨ validB p = false) : getT l p = none ∧ belT l p = [] ∧ kidT l p = [] := by
  by_cases hv : validT l = true
  · have hp : validB p = false := h.resolve_left (by simp [hv])
    have ht := tree_ok hv
    have hb : belowL l p = [] := by
      rw [← below_is (srt_of ht)]
      unfold belowR
      rw [List.filter_eq_nil_iff]
      intro x _
      simp [under_no hp]
    refine ⟨?_, ?_, ?_⟩
    · unfold getT getI
      rw [if_pos hv, if_neg (fun e => by rw [e, validB_root] at hp; cases hp), List.find?_eq_none]
      intro x hx
      have := (ht.kid x hx).1.1
      simp only [beq_iff_eq]
      intro e
      rw [e, hp] at this
      cases this
    · unfold belT; rw [if_pos hv, hb]
    · unfold kidT; rw [if_pos hv, hb]; rfl
  · unfold getT belT kidT
    rw [if_neg hv, if_neg hv, if_neg hv]
    exact ⟨rfl, rfl, rfl⟩
end Go.Proofs.YtjbbnecegomkcaaGreatDoor

namespace Go.Proofs.YtjbbnecegomkcaaGreatDoor
open Go.RowKit Go.Shelf

/-- Another world, but for one block. -/
structure Asd (g : Nat) (W W' : World) : Prop where
  os : W'.os = W.os
  tape : W'.tape = W.tape
  output : W'.output = W.output
  size : W'.heap.size = W.heap.size
  block : ∀ k, k ≠ g → W'.heap[k]? = W.heap[k]?
theorem Asd.refl (g : Nat) (W : World) : Asd g W W := ⟨rfl, rfl, rfl, rfl, fun _ _ => rfl⟩
theorem Asd.set {g : Nat} {W W' : World} (h : Asd g W W') (j : Nat) (u : Value) : Asd g W (W'.setCell ⟨g, j, none⟩ u) :=
  ⟨h.os, h.tape, h.output, by simpa using h.size, fun k hk => (heap_setCell_other W' ⟨g, j, none⟩ k u hk).trans (h.block k hk)⟩
theorem Asd.box {g b : Nat} {t : TypeId} {cs : Array Value} {W W' : World} (h : Asd g W W') (X : Box W b t cs) (hb : b ≠ g) : Box W' b t cs := (h.block b hb).trans X
theorem Asd.own {g B : Nat} {v : Value} {l : List It} {W W' : World} (h : Asd g W W') (ho : OwnI W B v l) (hv : ∀ k, v.ownBlock = some k → k ≠ g) : OwnI W' B v l := ownR_far ho fun k hk => h.block k (hv k hk)
theorem Asd.below {g B : Nat} {w W W' : World} (h : Asd g W W') (hB : Below B w W) (hg : B ≤ g) : Below B w W' :=
  ⟨h.os.trans hB.os, h.tape.trans hB.tape, h.output.trans hB.output, by rw [h.size]; exact hB.size, fun k hk => (h.block k (by omega)).trans (hB.block k hk)⟩
theorem OwnI.lts {w : World} {B : Nat} {v : Value} {l : List It} (h : OwnI w B v l) : ∀ k, v.ownBlock = some k → B ≤ k ∧ k < w.heap.size := fun k hk => by
  obtain ⟨h1, cs, h2⟩ := ownR_blk h hk
  exact ⟨h1, (Array.getElem?_eq_some_iff.1 h2).1⟩
theorem own_pick {W : World} {B C : Nat} {v : Value} {l : List It} (h : OwnI W B v l) (hk : ∀ k, v.ownBlock = some k → k < C) (hB : B ≤ W.heap.size) :
    ∃ g, B ≤ g ∧ (g < C ∨ g = W.heap.size) ∧ (∀ b cs, Box W b 24 cs → b ≠ g) ∧ (0 < l.length → ∃ c, v = .slice (some ⟨g, 0, none⟩) l.length c) := by
  have hh := h
  rcases h.2 with ⟨rfl, h0⟩ | ⟨g, c, cur, rfl, hBg, hg, _⟩
  · exact ⟨W.heap.size, hB, .inr rfl, fun b cs X => Nat.ne_of_lt X.lt, fun h1 => by omega⟩
  · refine ⟨g, hBg, .inl (hk g rfl), fun b cs X e => ?_, fun _ => ⟨c, rfl⟩⟩
    subst e
    rw [show W.heap[b]? = _ from X] at hg
    cases hg
/-- The kinds in the cells of a row of items. -/
def KsI (xs : List Value) (n : Nat) : Prop := ∀ i, i < n → ∃ z, xs[i * 3 + 1]? = some (.int .i64 z)
theorem ksI_flat (l : List It) : KsI (flatI l) l.length := by
  intro i hi
  obtain ⟨x, hx⟩ : ∃ x, l[i]? = some x := ⟨_, List.getElem?_eq_getElem hi⟩
  refine ⟨x.kind, ?_⟩
  have : ∀ (l : List It) (i : Nat), l[i]? = some x → (flatI l)[i * 3 + 1]? = some (.int .i64 x.kind) := by
    intro l
    induction l with
    | nil => intro i h; simp at h
    | cons y l ih =>
      intro i h
      rw [flatI_cons]
      cases i with
      | zero => simp at h; subst h; rfl
      | succ i =>
        have hc : (y.cells).length = 3 := rfl
        rw [List.getElem?_append_right (by rw [hc]; omega), hc, show (i + 1) * 3 + 1 - 3 = i * 3 + 1 by omega]
        exact ih i (by simpa using h)
  exact this l i hx
theorem KsI.set {xs : List Value} {n : Nat} (h : KsI xs n) (j : Nat) (z : Int) : KsI (xs.set (j * 3 + 1) (.int .i64 z)) n := by
  intro i hi
  obtain ⟨y, hy⟩ := h i hi
  rw [List.getElem?_set]
  by_cases e : j * 3 + 1 = i * 3 + 1
  · rw [if_pos e, if_pos (by have := (List.getElem?_eq_some_iff.1 hy).1; omega)]
    exact ⟨z, rfl⟩
  · rw [if_neg e]
    exact ⟨y, hy⟩
theorem few_self {l : List It} (h : l.length ≤ 120) : fewL l = l := by
  unfold fewL
  rw [if_neg (by omega), List.take_of_length_le h]
theorem few_few (l : List It) : fewL (fewL l) = fewL l := by
  by_cases h : 2000 < l.length
  · have e : fewL l = l.take 2001 := by unfold fewL; rw [if_pos h]
    rw [e]
    unfold fewL
    rw [if_pos (by rw [List.length_take]; omega), List.take_take, Nat.min_self]
  · exact few_self (by unfold fewL; rw [if_neg h, List.length_take]; omega)
theorem few_mem {l : List It} {x : It} (h : x ∈ fewL l) : x ∈ l := by
  unfold fewL at h
  split at h
  · exact List.mem_of_mem_take h
  · exact List.mem_of_mem_take h
/-- A row of texts in memory of its own. -/
def OwnT (w : World) (B : Nat) (v : Value) (S : List Str) : Prop := w.ownsRow B 9 1 v S.length (S.map encS)
theorem OwnT.on {w w' : World} {B : Nat} {v : Value} {S : List Str} (h : OwnT w B v S) (hb : Below w.heap.size w w') : OwnT w' B v S := ownR_below h hb
theorem kid_few {l : List It} (h : fewL l = l) (p : Str) : (kidT l p).length ≤ 1000000 := by
  have h1 : l.length ≤ 2001 := by
    rw [← h]
    unfold fewL
    split <;> rw [List.length_take] <;> omega
  unfold kidT
  split
  · have h2 := kL_len p (belowL l p)
    have h3 : (belowL l p).length ≤ l.length := ((tw_sub _ _).trans (List.drop_sublist _ _)).length_le
    omega
  · simp
theorem own_pick2 {W : World} {B : Nat} {v : Value} {l : List It} (h : OwnI W B v l) :
    ∃ g, B ≤ g ∧ (∀ b cs, Box W b 24 cs → b ≠ g) ∧ (0 < l.length → ∃ c, v = .slice (some ⟨g, 0, none⟩) l.length c) := by
  rcases h.2 with ⟨rfl, h0⟩ | ⟨g, c, cur, rfl, hBg, hg, _⟩
  · exact ⟨W.heap.size + B, by omega, fun b cs X => by have := X.lt; omega, fun h1 => by omega⟩
  · refine ⟨g, hBg, fun b cs X e => ?_, fun _ => ⟨c, rfl⟩⟩
    subst e
    rw [show W.heap[b]? = _ from X] at hg
    cases hg
theorem it_cells (y : It) : y.arr = #[.string ⟨y.path.toArray⟩, .int .i64 y.kind, .string ⟨y.data.toArray⟩] := rfl
set_option maxRecDepth 100000 in
set_option maxHeartbeats 16000000 in
theorem tells6_any (l : List It) (v vp : Value) (ps : List Str) (w : World) (hv : RdI w v l) (hx : ∀ x ∈ l, x.path.length ≤ 2000000) (ho : RdS w vp ps) (hso : ∀ p ∈ ps, p.length ≤ 2000000) (hT : TabS w) :
    Calls Tryz.prog 4 #[.agg #[v], vp] w (EqR true w) := by
  obtain ⟨w1, hw1⟩ : ∃ z, z = w.alloc (.cells #[v] 24) := ⟨_, rfl⟩
  obtain ⟨bX, hbX⟩ : ∃ z, z = w.heap.size := ⟨_, rfl⟩
  have XX : Hid (Box w1 bX 24 #[v]) := Lib.hid (by rw [hw1, hbX]; exact box_new)
  have HB : Hid (Below w.heap.size w w1) := Lib.hid (by rw [hw1]; exact below_new _ _)
  have HV : Hid (RdI w v l) := Lib.hid hv
  obtain ⟨a, c, rfl, _⟩ := hv.open
  have HO : Hid (RdS w vp ps) := Lib.hid ho
  obtain ⟨ao, co, rfl, hlc, hcm⟩ := ho.slice
  obtain ⟨n, hn⟩ : ∃ n, n = ps.length := ⟨_, rfl⟩
  have HN := Lib.hid hn
  rw [← hn] at hlc HO ⊢
  unfold maxLen at hcm
  obtain ⟨L, hL⟩ : ∃ z, z = fewL l := ⟨_, rfl⟩
  have HL := Lib.hid hL
  have HXL : Hid (∀ x ∈ L, x.path.length ≤ 2000000) := Lib.hid (fun x h => hx x (few_mem (by rw [← hL]; exact h)))
  have HFF : Hid (fewL L = L) := Lib.hid (by rw [hL]; exact few_few l)
  have HSO := Lib.hid hso
  have HT := Lib.hid hT
  obtain ⟨ok, hok⟩ : ∃ b, b = validT L := ⟨_, rfl⟩
  have HOK := Lib.hid hok
  obtain ⟨q, hq⟩ : ∃ z, z = l.length := ⟨_, rfl⟩
  rw [← hq] at HV XX hw1 ⊢
  clear hv hx ho hso hT hn hL hq hok
  go_enter Tryz.func4, Tryz.ntmps4
  go_upto_region 1 with fail
  rw [← hbX, ← hw1]
  clear hw1 hbX
  go_wp2_with fail
  refine (wakes6_any w1 (HT.out.on HB.out)).mono ?_
  rintro e w2 ⟨rfl, hb⟩
  have hcar : Below w1.heap.size w1 w2 := hb
  have XX := Lib.hid (XX.out.on hcar)
  have HB := Lib.hid (bch HB.out hcar)
  clear hcar
  have p0 := XX.out.cell (k := 0) rfl
  have HS2 : Hid (w.heap.size ≤ w2.heap.size) := Lib.hid HB.out.size
  clear hb
  go_wp2_with fail
  clear p0
  refine (own6_any l _ w2 (HV.out.on HB.out)).mono ?_
  rintro e w3 ⟨xv, rfl, hI, hb⟩
  rw [← HL.out] at hI
  obtain ⟨a1, n1, c1, rfl⟩ := own_any hI
  obtain ⟨VT, hVT⟩ : ∃ z, z = (w3.alloc (.cells #[.slice none 0 0] 24)).setRow w3.heap.size #[.slice a1 n1 c1] := ⟨_, rfl⟩
  obtain ⟨bT, hbT⟩ : ∃ z, z = w3.heap.size := ⟨_, rfl⟩
  have hnT : Below w3.heap.size w3 VT := by rw [hVT]; exact below_row (below_new _ _) (Nat.le_refl _) _
  have XT : Hid (Box VT bT 24 #[.slice a1 n1 c1]) := Lib.hid (by rw [hVT, hbT]; exact box_new.row _)
  have HVT := Lib.hid hVT
  have HWT := Lib.hid hbT
  have hcar : Below w2.heap.size w2 VT := bch hb hnT
  have XX := Lib.hid (XX.out.on hcar)
  have HB := Lib.hid (bch HB.out hcar)
  clear hcar
  have OT : Hid (OwnI VT w.heap.size (.slice a1 n1 c1) L) := Lib.hid (own_base (hI.on hnT) HS2.out)
  have p0 := XT.out.cell (k := 0) rfl
  clear hI hb hnT HS2
  clear hVT hbT
  go_wp2_with (first | (refine wpList_store_row rfl 24 (.tmp 5) (.tmp 20) rfl w3.heap.size #[.slice a1 n1 c1] rfl rfl 24 #[.slice none 0 0] box_new (info24 _) rfl (slice_one _ _ _) ?_; rw [← HVT.out, ← HWT.out]) | fail)
  clear p0
  refine (rtree_any L _ VT OT.out.rd HXL.out).mono ?_
  rintro e w4 ⟨rfl, hb⟩
  rw [← HOK.out]
  have hcar : Below VT.heap.size VT w4 := hb
  have XX := Lib.hid (XX.out.on hcar)
  have XT := Lib.hid (XT.out.on hcar)
  have OT := Lib.hid (OT.out.on hcar)
  have HB := Lib.hid (bch HB.out hcar)
  clear hcar
  clear hb
  go_wp2_with fail
  go_loopw [25] (fun i W => ∃ (k : Nat), k ≤ n ∧ k ≤ 8 ∧ i = .int .i64 k ∧ Hid (Box W bX 24 #[.slice a q c]) ∧ Hid (Box W bT 24 #[.slice a1 n1 c1]) ∧ Hid (OwnI W w.heap.size (.slice a1 n1 c1) L) ∧ Hid (Below w.heap.size w W)) (fun i _ => n - (Lib.intOf i).toNat)
  case atStart => exact ⟨0, Nat.zero_le _, by decide, rfl, XX, XT, OT, HB⟩
  case round =>
    clear XX XT OT HB
    obtain ⟨k, hk, hk8, rfl, XX, XT, OT, HB⟩ := hrel
    obtain ⟨wq, hwq⟩ : ∃ q, q = wr := ⟨_, rfl⟩
    rw [← hwq] at XX XT OT HB ⊢
    clear hwq
    by_cases hlt : k < n
    · obtain ⟨p, hp⟩ : ∃ x, ps[k]? = some x := ⟨_, List.getElem?_eq_getElem (by rw [← HN.out]; exact hlt)⟩
      obtain ⟨a', c', e, _, _, hc⟩ := (show RdS wq (.slice ao n co) ps from HO.out.below HB.out)
      rw [← HN.out] at e
      cases e
      obtain ⟨g, o, rfl, hg, hc⟩ := hc (by rw [← HN.out]; omega)
      have q0 := hc k p hp
      have k1 : (k : Int) < (n : Int) := by omega
      have k2 : (0 : Int) ≤ (k : Int) := by omega
      have k4 : IntKind.i64.wrap ((k : Int) + 1) = (k : Int) + 1 := IntWalk.i64_in _ (by omega)
      have HPL : Hid (p.length ≤ 2000000) := Lib.hid (HSO.out p (List.mem_of_getElem? hp))
      clear hc hg hp
      go_upto_region 8 with fail
      by_cases h8 : k = 8
      · have t24 : ((k : Int) == 8) = true := by subst h8; rfl
        clear h8 q0
        go_wp2_with fail
        go_ret
        exact ⟨rfl, HB.out⟩
      · have t24 : ((k : Int) == 8) = false := by simp; omega
        go_upto_region 9 with fail
        clear q0 t24
        obtain ⟨VY, hVY⟩ : ∃ z, z = wq.alloc (.cells #[.string ⟨#[]⟩, .int .i64 0, .string ⟨#[]⟩] 33) := ⟨_, rfl⟩
        obtain ⟨bY, hbY⟩ : ∃ z, z = wq.heap.size := ⟨_, rfl⟩
        have hnY : Below wq.heap.size wq VY := by rw [hVY]; exact below_new _ _
        have XY : Hid (Box VY bY 33 It.nil.arr) := Lib.hid (by rw [hVY, hbY]; exact box_new)
        have HNT : Hid (bT ≠ bY) := Lib.hid (by have := XT.out.lt; omega)
        have HNX : Hid (bX ≠ bY) := Lib.hid (by have := XX.out.lt; omega)
        have HGY : Hid (w.heap.size ≤ bY) := Lib.hid (by rw [hbY]; exact HB.out.size)
        have HKQ : Hid (∀ k, (Value.slice a1 n1 c1).ownBlock = some k → k < bY) := Lib.hid (fun k hk => by rw [hbY]; exact (OT.out.lts k hk).2)
        have XX := Lib.hid (XX.out.on hnY)
        have XT := Lib.hid (XT.out.on hnY)
        have OT := Lib.hid (OT.out.on hnY)
        have HB := Lib.hid (bch HB.out hnY)
        go_upto_region 10 with fail
        rw [← hbY, ← hVY]
        clear hVY hbY hnY
        obtain ⟨Y, hY⟩ : ∃ z, z = (getT L p).getD .nil := ⟨_, rfl⟩
        obtain ⟨B, hB⟩ : ∃ z, z = (getT L p).isSome := ⟨_, rfl⟩
        obtain ⟨M, hM⟩ : ∃ z, z = belT L p := ⟨_, rfl⟩
        obtain ⟨S, hS⟩ : ∃ z, z = kidT L p := ⟨_, rfl⟩
        have HY := Lib.hid hY
        have HBB := Lib.hid hB
        have HMM := Lib.hid hM
        have HSS := Lib.hid hS
        have HSL : Hid (S.length ≤ 1000000) := Lib.hid (by rw [hS]; exact kid_few HFF.out p)
        have HPS : Hid ((⟨p.toArray⟩ : ByteArray).size ≤ 2000000) := Lib.hid (by show p.toArray.size ≤ _; rw [List.size_toArray]; exact HPL.out)
        clear hY hB hM hS

        cases ok with
        | false =>
          have hno := tells_no (l := L) (p := p) (.inl HOK.out.symm)
          have hYn : Y = .nil := by rw [HY.out, hno.1]; rfl
          have hBn : B = false := by rw [HBB.out, hno.1]; rfl
          have hMn : M = [] := by rw [HMM.out, hno.2.1]
          have hSn : S = [] := by rw [HSS.out, hno.2.2]
          have XY : Hid (Box VY bY 33 Y.arr) := Lib.hid (by rw [hYn]; exact XY.out)
          have OD : Hid (OwnI VY 0 (.slice none 0 0) M) := Lib.hid (by rw [hMn]; exact World.ownsRow_nil _ _ _ _)
          have OS : Hid (OwnT VY 0 (.slice none 0 0) S) := Lib.hid (by rw [hSn]; exact World.ownsRow_nil _ _ _ _)
          subst hBn
          clear hno hYn hMn hSn
          have p0 := XT.out.cell (k := 0) rfl
          go_wp2_with fail
          clear p0
          refine (get_gen L _ p VY OT.out.rd (fun x h => Nat.le_trans (HXL.out x h) (by decide)) (Nat.le_trans HPL.out (by decide)) (HT.out.on HB.out).tab).mono ?_
          rintro e w12 ⟨rfl, hb⟩
          rw [← HY.out, ← HBB.out, it_cells]
          obtain ⟨VG, hVG⟩ : ∃ z, z = (w12.alloc (.cells #[.string ⟨#[]⟩, .int .i64 0, .string ⟨#[]⟩] 33)).setRow w12.heap.size #[.string ⟨Y.path.toArray⟩, .int .i64 Y.kind, .string ⟨Y.data.toArray⟩] := ⟨_, rfl⟩
          obtain ⟨bG, hbG⟩ : ∃ z, z = w12.heap.size := ⟨_, rfl⟩
          have hnG : Below w12.heap.size w12 VG := by rw [hVG]; exact below_row (below_new _ _) (Nat.le_refl _) _
          have XG : Hid (Box VG bG 33 #[.string ⟨Y.path.toArray⟩, .int .i64 Y.kind, .string ⟨Y.data.toArray⟩]) := Lib.hid (by rw [hVG, hbG]; exact box_new.row _)
          have HVG := Lib.hid hVG
          have HWG := Lib.hid hbG
          have hcar : Below VY.heap.size VY VG := bch hb hnG
          have XX := Lib.hid (XX.out.on hcar)
          have XT := Lib.hid (XT.out.on hcar)
          have OT := Lib.hid (OT.out.on hcar)
          have XY := Lib.hid (XY.out.on hcar)
          have OD := Lib.hid (OD.out.on hcar)
          have OS := Lib.hid (OS.out.on hcar)
          have HB := Lib.hid (bch HB.out hcar)
          clear hcar
          have p0 := XT.out.cell (k := 0) rfl
          clear hb hnG
          clear hVG hbG
          go_wp2_with (first | (refine wpList_store_row rfl 33 (.tmp 13) (.tmp 53) rfl w12.heap.size #[.string ⟨Y.path.toArray⟩, .int .i64 Y.kind, .string ⟨Y.data.toArray⟩] rfl rfl 33 #[.string ⟨#[]⟩, .int .i64 0, .string ⟨#[]⟩] box_new info59r rfl (by simp [Value.oneCell']) ?_; rw [← HVG.out, ← HWG.out]) | fail)
          clear p0
          have HKT : Hid (∀ k, (Value.slice a1 n1 c1).ownBlock = some k → k < VG.heap.size) := Lib.hid (fun k hk => (OT.out.lts k hk).2)
          have HGW : Hid (w.heap.size ≤ VG.heap.size) := Lib.hid HB.out.size
          refine (below_u w.heap.size L _ p VG OT.out (fun x h => Nat.le_trans (HXL.out x h) (by decide)) (Nat.le_trans HPL.out (by decide)) (HT.out.on HB.out).tab).mono ?_
          rintro e w13 ⟨la, ln, lc, rfl, hln, hI, hb⟩
          rw [← HMM.out] at hln hI
          obtain ⟨B7, hB7⟩ : ∃ z, z = VG.heap.size := ⟨_, rfl⟩
          rw [← hB7] at HKT HGW
          have HLN := Lib.hid hln
          have HLB : Hid (B7 ≤ w13.heap.size) := Lib.hid (by rw [hB7]; exact hb.size)
          have hcar : Below VG.heap.size VG w13 := hb
          have XX := Lib.hid (XX.out.on hcar)
          have XT := Lib.hid (XT.out.on hcar)
          have OT := Lib.hid (OT.out.on hcar)
          have XY := Lib.hid (XY.out.on hcar)
          have OD := Lib.hid (OD.out.on hcar)
          have OS := Lib.hid (OS.out.on hcar)
          have XG := Lib.hid (XG.out.on hcar)
          have HB := Lib.hid (bch HB.out hcar)
          clear hcar
          have ON : Hid (OwnI w13 B7 (.slice la ln lc) M) := Lib.hid (by rw [hB7]; exact hI)
          clear hI hln hB7 hb
          have hne := neq35 Y Y false (by simp)
          have hgd := guard35
          have tB : (false != false) = false := by simp
          have tB' : (false == false) = true := by simp
          have p0 : w13.cell? ⟨bG, 0, none⟩ = some (.string ⟨Y.path.toArray⟩) := XG.out.cell (k := 0) rfl
          have p1 : w13.cell? ⟨bG, 1, none⟩ = some (.int .i64 Y.kind) := XG.out.cell (k := 1) rfl
          have p2 : w13.cell? ⟨bG, 2, none⟩ = some (.string ⟨Y.data.toArray⟩) := XG.out.cell (k := 2) rfl
          have r0 : w13.cell? ⟨bY, 0, none⟩ = some (.string ⟨Y.path.toArray⟩) := XY.out.cell (k := 0) rfl
          have r1 : w13.cell? ⟨bY, 1, none⟩ = some (.int .i64 Y.kind) := XY.out.cell (k := 1) rfl
          have r2 : w13.cell? ⟨bY, 2, none⟩ = some (.string ⟨Y.data.toArray⟩) := XY.out.cell (k := 2) rfl
          go_wp2_with fail
          clear p0 p1 p2 r0 r1 r2
          refine (equal_any M M _ _ w13 ON.out.rd OD.out.rd).mono ?_
          rintro e w14 ⟨he, hb⟩
          rw [decide_eq_true rfl] at he
          subst he
          have hcar : Below w13.heap.size w13 w14 := hb
          have XX := Lib.hid (XX.out.on hcar)
          have XT := Lib.hid (XT.out.on hcar)
          have OT := Lib.hid (OT.out.on hcar)
          have XY := Lib.hid (XY.out.on hcar)
          have OD := Lib.hid (OD.out.on hcar)
          have OS := Lib.hid (OS.out.on hcar)
          have XG := Lib.hid (XG.out.on hcar)
          have ON := Lib.hid (ON.out.on hcar)
          have HB := Lib.hid (bch HB.out hcar)
          clear hcar
          clear hb hne hgd tB tB'
          have p0 := XT.out.cell (k := 0) rfl
          go_wp2_with fail
          clear p0
          refine (kids_u w.heap.size L _ p w14 OT.out (fun x h => Nat.le_trans (HXL.out x h) (by decide)) (Nat.le_trans HPL.out (by decide)) (HT.out.on HB.out).tab).mono ?_
          rintro e w15 ⟨ka, kn, kc, rfl, hkn, hI, hb⟩
          rw [← HSS.out] at hkn hI
          have HEQ : Hid (Calls Tryz.prog 25 #[.slice ka kn kc, .slice none 0 0] w15 fun e w' => e = .returned (.bool true) ∧ ∃ q, w' = w15.drewN q) := Lib.hid (by have h9 := eq_any S S w14.heap.size 0 (.slice ka kn kc) (.slice none 0 0) w15 (by rw [hkn] at hI ⊢; exact hI) (OS.out.on hb) HSL.out HSL.out; rw [decide_eq_true rfl] at h9; exact h9)
          clear hI hkn
          have hcar : Below w14.heap.size w14 w15 := hb
          have XX := Lib.hid (XX.out.on hcar)
          have XT := Lib.hid (XT.out.on hcar)
          have OT := Lib.hid (OT.out.on hcar)
          have XY := Lib.hid (XY.out.on hcar)
          have OD := Lib.hid (OD.out.on hcar)
          have OS := Lib.hid (OS.out.on hcar)
          have XG := Lib.hid (XG.out.on hcar)
          have ON := Lib.hid (ON.out.on hcar)
          have HB := Lib.hid (bch HB.out hcar)
          clear hcar
          clear hb
          go_wp2_with fail
          refine HEQ.out.mono ?_
          rintro e w16 ⟨rfl, q9, rfl⟩
          clear HEQ
          obtain ⟨w17, hw17⟩ : ∃ z, z = w15.drewN q9 := ⟨_, rfl⟩
          have hb : Below w15.heap.size w15 w17 := by rw [hw17]; exact below_drewN' (Below.refl _ _) _
          rw [← hw17]
          clear hw17
          have hcar : Below w15.heap.size w15 w17 := hb
          have XX := Lib.hid (XX.out.on hcar)
          have XT := Lib.hid (XT.out.on hcar)
          have OT := Lib.hid (OT.out.on hcar)
          have XY := Lib.hid (XY.out.on hcar)
          have OD := Lib.hid (OD.out.on hcar)
          have OS := Lib.hid (OS.out.on hcar)
          have XG := Lib.hid (XG.out.on hcar)
          have ON := Lib.hid (ON.out.on hcar)
          have HB := Lib.hid (bch HB.out hcar)
          clear hcar
          obtain ⟨gN, hgB, hgX, hgF⟩ := own_pick2 ON.out
          have HGB := Lib.hid hgB
          have HGX := Lib.hid hgX
          have HGF : Hid (0 < ln → ∃ c, Value.slice la ln lc = .slice (some ⟨gN, 0, none⟩) ln c) := Lib.hid (fun h => by have h5 := hgF (by rw [← HLN.out]; exact h); rw [← HLN.out] at h5; exact h5)
          have HKS : Hid (KsI (flatI M) ln) := Lib.hid (by rw [HLN.out]; exact ksI_flat M)
          have HOX : Hid (w17.ownsRow B7 33 3 (.slice la ln lc) ln (flatI M)) := Lib.hid (by have := ON.out; unfold OwnI at this; rw [← HLN.out] at this; exact this)
          have hxm : ln ≤ 9223372036854775807 := by obtain ⟨a8, c8, e8, h8, h9⟩ := own_slice ON.out; unfold maxLen at h9; rw [← HLN.out] at h8; omega
          clear hb hgB hgX hgF XY OD OS XG
          go_wp2_with fail
          go_loopw [82] (fun i W => ∃ (j : Nat) (xs : List Value), j ≤ ln ∧ i = .int .i64 j ∧ Hid (KsI xs ln) ∧ Hid (W.ownsRow B7 33 3 (.slice la ln lc) ln xs) ∧ Hid (Asd gN w17 W)) (fun i _ => ln - (Lib.intOf i).toNat)
          case atStart => exact ⟨0, flatI M, Nat.zero_le _, rfl, HKS, HOX, Lib.hid (Asd.refl _ _)⟩
          case round =>
            obtain ⟨j, xs, hj, rfl, HKJ, HOJ, HAJ⟩ := hrel
            obtain ⟨wj, hwj⟩ : ∃ q, q = wr := ⟨_, rfl⟩
            rw [← hwj] at HOJ HAJ ⊢
            clear hwj HOX HKS
            by_cases hjn : j < ln
            · obtain ⟨c9, hc9⟩ := HGF.out (by omega)
              cases hc9
              obtain ⟨z, hz⟩ := HKJ.out j hjn
              have j1 : (j : Int) < (ln : Int) := by omega
              have j2 : (0 : Int) ≤ (j : Int) := by omega
              have j4 : IntKind.i64.wrap ((j : Int) + 1) = (j : Int) + 1 := IntWalk.i64_in _ (by omega)
              have p1 : wj.cell? ⟨gN, j * 3 + 1, none⟩ = some (.int .i64 z) := (HOJ.out.cellAt (j * 3 + 1) (by omega)).trans hz
              have f1 : wj.frozen? ⟨gN, j * 3 + 1, none⟩ = false := HOJ.out.frozenAt _
              clear hz
              go_wp2_with fail
              go_roundw
              case rel => exact ⟨j + 1, _, hjn, by go_num, Lib.hid (HKJ.out.set j _), Lib.hid (HOJ.out.stored (j * 3 + 1) _).1, Lib.hid (HAJ.out.set _ _)⟩
              case measure => simp [Lib.intOf]; omega
            · have j1 : ¬ ((j : Int) < (ln : Int)) := by omega
              have HBJ : Hid (Below w.heap.size w wj) := Lib.hid (HAJ.out.below HB.out (Nat.le_trans HGW.out HGB.out))
              have XT := Lib.hid (HAJ.out.box XT.out (HGX.out _ _ XT.out))
              have XX := Lib.hid (HAJ.out.box XX.out (HGX.out _ _ XX.out))
              have OT := Lib.hid (HAJ.out.own OT.out (fun k hk => by have := HKT.out k hk; have := HGB.out; omega))
              have HB := HBJ
              clear HOJ HKJ HAJ HBJ HGX HGF HGB ON HLB HKT HGW
              obtain ⟨v0, hv0⟩ : ∃ z, z = World.drew wj := ⟨_, rfl⟩
              go_upto_region 25 with fail
              refine wp_region_held_drew (S := fun w' => Below wj.heap.size wj w') (by kernel_rfl) (Below.refl _ _).drew (fun hHeld => ?_)
              rw [← hv0] at hHeld ⊢
              clear hv0
              refine wpAnyH_take (i := 0) (oi := { dst := some 94, op := Op.load 24 (Operand.tmp 5), type := 24, pos := "law.go:82", after := #[], guard := none }) (v := ?_) rfl (by kernel_rfl) (by kernel_rfl) (by kernel_rfl) (fun _ _ _ h => h) (Or.inl ⟨by rfl, ?_⟩) hHeld ?_
              rotate_left
              · (intro w hSw; have p0 := (XT.out.on hSw).cell (k := 0) rfl; go_simp; try with_reducible rfl)
              (try simp only [Act.put, List.setIfInBounds_toArray, List.set_cons_zero, List.set_cons_succ])
              refine wpAnyH_take (i := 1) (oi := { dst := some 95, op := Op.load 24 (Operand.tmp 2), type := 24, pos := "law.go:82", after := #[], guard := none }) (v := ?_) rfl (by kernel_rfl) (by kernel_rfl) (by kernel_rfl) (fun _ _ _ h => h) (Or.inl ⟨by rfl, ?_⟩) hHeld ?_
              rotate_left
              · (intro w hSw; have p0 := (XX.out.on hSw).cell (k := 0) rfl; go_simp; try with_reducible rfl)
              (try simp only [Act.put, List.setIfInBounds_toArray, List.set_cons_zero, List.set_cons_succ])
              refine wpAnyH_ready (rs := [2]) (by kernel_rfl) (by simp) (AllReadyH.cons (o := { dst := some 96, op := Op.call { callee := Callee.value (Operand.func 9), args := #[Operand.tmp 95], argTypes := #[24] }, type := 24, pos := "law.go:82", after := #[{ on := 1, ground := Ground.data }], guard := none }) rfl (fun K hK => ?_) AllReadyH.nil)
              · go_simp
                refine (own6_any l _ _ ((HV.out.on HB.out).on hHeld)).mono ?_
                rintro e v102 ⟨xv, rfl, hI, hba⟩
                rw [← HL.out] at hI
                obtain ⟨a9, n9, c9, rfl⟩ := own_any hI
                have R9 : Hid (RdI v102 (.slice a9 n9 c9) L) := Lib.hid hI.rd
                refine hK.out _ _ (bch hHeld hba) (fun hHeld => ?_)
                clear hI hba
                (try simp only [Act.put, List.setIfInBounds_toArray, List.set_cons_zero, List.set_cons_succ])
                refine wpAnyH_ready (rs := [3]) (by kernel_rfl) (by simp) (AllReadyH.cons (o := { dst := some 97, op := Op.call { callee := Callee.value (Operand.func 16), args := #[Operand.tmp 94, Operand.tmp 96], argTypes := #[24, 24] }, type := 4, pos := "law.go:82", after := #[{ on := 0, ground := Ground.data }, { on := 2, ground := Ground.data }, { on := 2, ground := Ground.chain }], guard := none }) rfl (fun K hK => ?_) AllReadyH.nil)
                · go_simp
                  refine (rsame6_any L L _ _ v102 (OT.out.on hHeld).rd R9.out).mono ?_
                  rintro e v103 ⟨he, hba⟩
                  rw [decide_eq_true rfl] at he
                  subst he
                  refine hK.out _ _ (bch hHeld hba) (fun hHeld => ?_)
                  clear hba
                  (try simp only [Act.put, List.setIfInBounds_toArray, List.set_cons_zero, List.set_cons_succ])
                  refine wpAnyH_take (i := 4) (oi := { dst := some 98, op := Op.unOp UnOp.not 4 (Operand.tmp 97), type := 4, pos := "law.go:82", after := #[{ on := 3, ground := Ground.data }], guard := none }) (v := ?_) rfl (by kernel_rfl) (by kernel_rfl) (by kernel_rfl) (fun _ _ _ h => h) (Or.inl ⟨by rfl, ?_⟩) hHeld ?_
                  rotate_left
                  · (intro w hSw; go_simp; try with_reducible rfl)
                  (try simp only [Act.put, List.setIfInBounds_toArray, List.set_cons_zero, List.set_cons_succ])
                  refine wpAnyH_done (by kernel_rfl) ?_ _
                  have HD := Lib.hid hHeld
                  clear hHeld
                  go_wp2_with fail
                  go_roundw
                  case rel => exact ⟨k + 1, hlt, by omega, by go_num, Lib.hid (XX.out.on HD.out), Lib.hid (XT.out.on HD.out), Lib.hid (OT.out.on HD.out), Lib.hid (bch HB.out HD.out)⟩
                  case measure => simp [Lib.intOf]; omega
        | true =>
          go_wp2_with fail
          refine (rright_any ⟨p.toArray⟩ HPS.out VY).mono ?_
          rintro e w10 ⟨he, hb⟩
          obtain ⟨pv, hpv⟩ : ∃ z, z = validB p := ⟨_, rfl⟩
          obtain rfl : e = .returned (.bool pv) := by rw [he, hpv]
          have HPV := Lib.hid hpv
          clear he hpv
          have hcar : Below VY.heap.size VY w10 := hb
          have XX := Lib.hid (XX.out.on hcar)
          have XT := Lib.hid (XT.out.on hcar)
          have OT := Lib.hid (OT.out.on hcar)
          have XY := Lib.hid (XY.out.on hcar)
          have HB := Lib.hid (bch HB.out hcar)
          clear hcar
          clear hb
          cases pv with
          | false =>
            have hno := tells_no (l := L) (p := p) (.inr HPV.out.symm)
            have hYn : Y = .nil := by rw [HY.out, hno.1]; rfl
            have hBn : B = false := by rw [HBB.out, hno.1]; rfl
            have hMn : M = [] := by rw [HMM.out, hno.2.1]
            have hSn : S = [] := by rw [HSS.out, hno.2.2]
            have XY : Hid (Box w10 bY 33 Y.arr) := Lib.hid (by rw [hYn]; exact XY.out)
            have OD : Hid (OwnI w10 0 (.slice none 0 0) M) := Lib.hid (by rw [hMn]; exact World.ownsRow_nil _ _ _ _)
            have OS : Hid (OwnT w10 0 (.slice none 0 0) S) := Lib.hid (by rw [hSn]; exact World.ownsRow_nil _ _ _ _)
            subst hBn
            clear hno hYn hMn hSn
            have p0 := XT.out.cell (k := 0) rfl
            go_wp2_with fail
            clear p0
            refine (get_gen L _ p w10 OT.out.rd (fun x h => Nat.le_trans (HXL.out x h) (by decide)) (Nat.le_trans HPL.out (by decide)) (HT.out.on HB.out).tab).mono ?_
            rintro e w12 ⟨rfl, hb⟩
            rw [← HY.out, ← HBB.out, it_cells]
            obtain ⟨VG, hVG⟩ : ∃ z, z = (w12.alloc (.cells #[.string ⟨#[]⟩, .int .i64 0, .string ⟨#[]⟩] 33)).setRow w12.heap.size #[.string ⟨Y.path.toArray⟩, .int .i64 Y.kind, .string ⟨Y.data.toArray⟩] := ⟨_, rfl⟩
            obtain ⟨bG, hbG⟩ : ∃ z, z = w12.heap.size := ⟨_, rfl⟩
            have hnG : Below w12.heap.size w12 VG := by rw [hVG]; exact below_row (below_new _ _) (Nat.le_refl _) _
            have XG : Hid (Box VG bG 33 #[.string ⟨Y.path.toArray⟩, .int .i64 Y.kind, .string ⟨Y.data.toArray⟩]) := Lib.hid (by rw [hVG, hbG]; exact box_new.row _)
            have HVG := Lib.hid hVG
            have HWG := Lib.hid hbG
            have hcar : Below w10.heap.size w10 VG := bch hb hnG
            have XX := Lib.hid (XX.out.on hcar)
            have XT := Lib.hid (XT.out.on hcar)
            have OT := Lib.hid (OT.out.on hcar)
            have XY := Lib.hid (XY.out.on hcar)
            have OD := Lib.hid (OD.out.on hcar)
            have OS := Lib.hid (OS.out.on hcar)
            have HB := Lib.hid (bch HB.out hcar)
            clear hcar
            have p0 := XT.out.cell (k := 0) rfl
            clear hb hnG
            clear hVG hbG
            go_wp2_with (first | (refine wpList_store_row rfl 33 (.tmp 13) (.tmp 53) rfl w12.heap.size #[.string ⟨Y.path.toArray⟩, .int .i64 Y.kind, .string ⟨Y.data.toArray⟩] rfl rfl 33 #[.string ⟨#[]⟩, .int .i64 0, .string ⟨#[]⟩] box_new info59r rfl (by simp [Value.oneCell']) ?_; rw [← HVG.out, ← HWG.out]) | fail)
            clear p0
            have HKT : Hid (∀ k, (Value.slice a1 n1 c1).ownBlock = some k → k < VG.heap.size) := Lib.hid (fun k hk => (OT.out.lts k hk).2)
            have HGW : Hid (w.heap.size ≤ VG.heap.size) := Lib.hid HB.out.size
            refine (below_u w.heap.size L _ p VG OT.out (fun x h => Nat.le_trans (HXL.out x h) (by decide)) (Nat.le_trans HPL.out (by decide)) (HT.out.on HB.out).tab).mono ?_
            rintro e w13 ⟨la, ln, lc, rfl, hln, hI, hb⟩
            rw [← HMM.out] at hln hI
            obtain ⟨B7, hB7⟩ : ∃ z, z = VG.heap.size := ⟨_, rfl⟩
            rw [← hB7] at HKT HGW
            have HLN := Lib.hid hln
            have HLB : Hid (B7 ≤ w13.heap.size) := Lib.hid (by rw [hB7]; exact hb.size)
            have hcar : Below VG.heap.size VG w13 := hb
            have XX := Lib.hid (XX.out.on hcar)
            have XT := Lib.hid (XT.out.on hcar)
            have OT := Lib.hid (OT.out.on hcar)
            have XY := Lib.hid (XY.out.on hcar)
            have OD := Lib.hid (OD.out.on hcar)
            have OS := Lib.hid (OS.out.on hcar)
            have XG := Lib.hid (XG.out.on hcar)
            have HB := Lib.hid (bch HB.out hcar)
            clear hcar
            have ON : Hid (OwnI w13 B7 (.slice la ln lc) M) := Lib.hid (by rw [hB7]; exact hI)
            clear hI hln hB7 hb
            have hne := neq35 Y Y false (by simp)
            have hgd := guard35
            have tB : (false != false) = false := by simp
            have tB' : (false == false) = true := by simp
            have p0 : w13.cell? ⟨bG, 0, none⟩ = some (.string ⟨Y.path.toArray⟩) := XG.out.cell (k := 0) rfl
            have p1 : w13.cell? ⟨bG, 1, none⟩ = some (.int .i64 Y.kind) := XG.out.cell (k := 1) rfl
            have p2 : w13.cell? ⟨bG, 2, none⟩ = some (.string ⟨Y.data.toArray⟩) := XG.out.cell (k := 2) rfl
            have r0 : w13.cell? ⟨bY, 0, none⟩ = some (.string ⟨Y.path.toArray⟩) := XY.out.cell (k := 0) rfl
            have r1 : w13.cell? ⟨bY, 1, none⟩ = some (.int .i64 Y.kind) := XY.out.cell (k := 1) rfl
            have r2 : w13.cell? ⟨bY, 2, none⟩ = some (.string ⟨Y.data.toArray⟩) := XY.out.cell (k := 2) rfl
            go_wp2_with fail
            clear p0 p1 p2 r0 r1 r2
            refine (equal_any M M _ _ w13 ON.out.rd OD.out.rd).mono ?_
            rintro e w14 ⟨he, hb⟩
            rw [decide_eq_true rfl] at he
            subst he
            have hcar : Below w13.heap.size w13 w14 := hb
            have XX := Lib.hid (XX.out.on hcar)
            have XT := Lib.hid (XT.out.on hcar)
            have OT := Lib.hid (OT.out.on hcar)
            have XY := Lib.hid (XY.out.on hcar)
            have OD := Lib.hid (OD.out.on hcar)
            have OS := Lib.hid (OS.out.on hcar)
            have XG := Lib.hid (XG.out.on hcar)
            have ON := Lib.hid (ON.out.on hcar)
            have HB := Lib.hid (bch HB.out hcar)
            clear hcar
            clear hb hne hgd tB tB'
            have p0 := XT.out.cell (k := 0) rfl
            go_wp2_with fail
            clear p0
            refine (kids_u w.heap.size L _ p w14 OT.out (fun x h => Nat.le_trans (HXL.out x h) (by decide)) (Nat.le_trans HPL.out (by decide)) (HT.out.on HB.out).tab).mono ?_
            rintro e w15 ⟨ka, kn, kc, rfl, hkn, hI, hb⟩
            rw [← HSS.out] at hkn hI
            have HEQ : Hid (Calls Tryz.prog 25 #[.slice ka kn kc, .slice none 0 0] w15 fun e w' => e = .returned (.bool true) ∧ ∃ q, w' = w15.drewN q) := Lib.hid (by have h9 := eq_any S S w14.heap.size 0 (.slice ka kn kc) (.slice none 0 0) w15 (by rw [hkn] at hI ⊢; exact hI) (OS.out.on hb) HSL.out HSL.out; rw [decide_eq_true rfl] at h9; exact h9)
            clear hI hkn
            have hcar : Below w14.heap.size w14 w15 := hb
            have XX := Lib.hid (XX.out.on hcar)
            have XT := Lib.hid (XT.out.on hcar)
            have OT := Lib.hid (OT.out.on hcar)
            have XY := Lib.hid (XY.out.on hcar)
            have OD := Lib.hid (OD.out.on hcar)
            have OS := Lib.hid (OS.out.on hcar)
            have XG := Lib.hid (XG.out.on hcar)
            have ON := Lib.hid (ON.out.on hcar)
            have HB := Lib.hid (bch HB.out hcar)
            clear hcar
            clear hb
            go_wp2_with fail
            refine HEQ.out.mono ?_
            rintro e w16 ⟨rfl, q9, rfl⟩
            clear HEQ
            obtain ⟨w17, hw17⟩ : ∃ z, z = w15.drewN q9 := ⟨_, rfl⟩
            have hb : Below w15.heap.size w15 w17 := by rw [hw17]; exact below_drewN' (Below.refl _ _) _
            rw [← hw17]
            clear hw17
            have hcar : Below w15.heap.size w15 w17 := hb
            have XX := Lib.hid (XX.out.on hcar)
            have XT := Lib.hid (XT.out.on hcar)
            have OT := Lib.hid (OT.out.on hcar)
            have XY := Lib.hid (XY.out.on hcar)
            have OD := Lib.hid (OD.out.on hcar)
            have OS := Lib.hid (OS.out.on hcar)
            have XG := Lib.hid (XG.out.on hcar)
            have ON := Lib.hid (ON.out.on hcar)
            have HB := Lib.hid (bch HB.out hcar)
            clear hcar
            obtain ⟨gN, hgB, hgX, hgF⟩ := own_pick2 ON.out
            have HGB := Lib.hid hgB
            have HGX := Lib.hid hgX
            have HGF : Hid (0 < ln → ∃ c, Value.slice la ln lc = .slice (some ⟨gN, 0, none⟩) ln c) := Lib.hid (fun h => by have h5 := hgF (by rw [← HLN.out]; exact h); rw [← HLN.out] at h5; exact h5)
            have HKS : Hid (KsI (flatI M) ln) := Lib.hid (by rw [HLN.out]; exact ksI_flat M)
            have HOX : Hid (w17.ownsRow B7 33 3 (.slice la ln lc) ln (flatI M)) := Lib.hid (by have := ON.out; unfold OwnI at this; rw [← HLN.out] at this; exact this)
            have hxm : ln ≤ 9223372036854775807 := by obtain ⟨a8, c8, e8, h8, h9⟩ := own_slice ON.out; unfold maxLen at h9; rw [← HLN.out] at h8; omega
            clear hb hgB hgX hgF XY OD OS XG
            go_wp2_with fail
            go_loopw [82] (fun i W => ∃ (j : Nat) (xs : List Value), j ≤ ln ∧ i = .int .i64 j ∧ Hid (KsI xs ln) ∧ Hid (W.ownsRow B7 33 3 (.slice la ln lc) ln xs) ∧ Hid (Asd gN w17 W)) (fun i _ => ln - (Lib.intOf i).toNat)
            case atStart => exact ⟨0, flatI M, Nat.zero_le _, rfl, HKS, HOX, Lib.hid (Asd.refl _ _)⟩
            case round =>
              obtain ⟨j, xs, hj, rfl, HKJ, HOJ, HAJ⟩ := hrel
              obtain ⟨wj, hwj⟩ : ∃ q, q = wr := ⟨_, rfl⟩
              rw [← hwj] at HOJ HAJ ⊢
              clear hwj HOX HKS
              by_cases hjn : j < ln
              · obtain ⟨c9, hc9⟩ := HGF.out (by omega)
                cases hc9
                obtain ⟨z, hz⟩ := HKJ.out j hjn
                have j1 : (j : Int) < (ln : Int) := by omega
                have j2 : (0 : Int) ≤ (j : Int) := by omega
                have j4 : IntKind.i64.wrap ((j : Int) + 1) = (j : Int) + 1 := IntWalk.i64_in _ (by omega)
                have p1 : wj.cell? ⟨gN, j * 3 + 1, none⟩ = some (.int .i64 z) := (HOJ.out.cellAt (j * 3 + 1) (by omega)).trans hz
                have f1 : wj.frozen? ⟨gN, j * 3 + 1, none⟩ = false := HOJ.out.frozenAt _
                clear hz
                go_wp2_with fail
                go_roundw
                case rel => exact ⟨j + 1, _, hjn, by go_num, Lib.hid (HKJ.out.set j _), Lib.hid (HOJ.out.stored (j * 3 + 1) _).1, Lib.hid (HAJ.out.set _ _)⟩
                case measure => simp [Lib.intOf]; omega
              · have j1 : ¬ ((j : Int) < (ln : Int)) := by omega
                have HBJ : Hid (Below w.heap.size w wj) := Lib.hid (HAJ.out.below HB.out (Nat.le_trans HGW.out HGB.out))
                have XT := Lib.hid (HAJ.out.box XT.out (HGX.out _ _ XT.out))
                have XX := Lib.hid (HAJ.out.box XX.out (HGX.out _ _ XX.out))
                have OT := Lib.hid (HAJ.out.own OT.out (fun k hk => by have := HKT.out k hk; have := HGB.out; omega))
                have HB := HBJ
                clear HOJ HKJ HAJ HBJ HGX HGF HGB ON HLB HKT HGW
                obtain ⟨v0, hv0⟩ : ∃ z, z = World.drew wj := ⟨_, rfl⟩
                go_upto_region 25 with fail
                refine wp_region_held_drew (S := fun w' => Below wj.heap.size wj w') (by kernel_rfl) (Below.refl _ _).drew (fun hHeld => ?_)
                rw [← hv0] at hHeld ⊢
                clear hv0
                refine wpAnyH_take (i := 0) (oi := { dst := some 94, op := Op.load 24 (Operand.tmp 5), type := 24, pos := "law.go:82", after := #[], guard := none }) (v := ?_) rfl (by kernel_rfl) (by kernel_rfl) (by kernel_rfl) (fun _ _ _ h => h) (Or.inl ⟨by rfl, ?_⟩) hHeld ?_
                rotate_left
                · (intro w hSw; have p0 := (XT.out.on hSw).cell (k := 0) rfl; go_simp; try with_reducible rfl)
                (try simp only [Act.put, List.setIfInBounds_toArray, List.set_cons_zero, List.set_cons_succ])
                refine wpAnyH_take (i := 1) (oi := { dst := some 95, op := Op.load 24 (Operand.tmp 2), type := 24, pos := "law.go:82", after := #[], guard := none }) (v := ?_) rfl (by kernel_rfl) (by kernel_rfl) (by kernel_rfl) (fun _ _ _ h => h) (Or.inl ⟨by rfl, ?_⟩) hHeld ?_
                rotate_left
                · (intro w hSw; have p0 := (XX.out.on hSw).cell (k := 0) rfl; go_simp; try with_reducible rfl)
                (try simp only [Act.put, List.setIfInBounds_toArray, List.set_cons_zero, List.set_cons_succ])
                refine wpAnyH_ready (rs := [2]) (by kernel_rfl) (by simp) (AllReadyH.cons (o := { dst := some 96, op := Op.call { callee := Callee.value (Operand.func 9), args := #[Operand.tmp 95], argTypes := #[24] }, type := 24, pos := "law.go:82", after := #[{ on := 1, ground := Ground.data }], guard := none }) rfl (fun K hK => ?_) AllReadyH.nil)
                · go_simp
                  refine (own6_any l _ _ ((HV.out.on HB.out).on hHeld)).mono ?_
                  rintro e v102 ⟨xv, rfl, hI, hba⟩
                  rw [← HL.out] at hI
                  obtain ⟨a9, n9, c9, rfl⟩ := own_any hI
                  have R9 : Hid (RdI v102 (.slice a9 n9 c9) L) := Lib.hid hI.rd
                  refine hK.out _ _ (bch hHeld hba) (fun hHeld => ?_)
                  clear hI hba
                  (try simp only [Act.put, List.setIfInBounds_toArray, List.set_cons_zero, List.set_cons_succ])
                  refine wpAnyH_ready (rs := [3]) (by kernel_rfl) (by simp) (AllReadyH.cons (o := { dst := some 97, op := Op.call { callee := Callee.value (Operand.func 16), args := #[Operand.tmp 94, Operand.tmp 96], argTypes := #[24, 24] }, type := 4, pos := "law.go:82", after := #[{ on := 0, ground := Ground.data }, { on := 2, ground := Ground.data }, { on := 2, ground := Ground.chain }], guard := none }) rfl (fun K hK => ?_) AllReadyH.nil)
                  · go_simp
                    refine (rsame6_any L L _ _ v102 (OT.out.on hHeld).rd R9.out).mono ?_
                    rintro e v103 ⟨he, hba⟩
                    rw [decide_eq_true rfl] at he
                    subst he
                    refine hK.out _ _ (bch hHeld hba) (fun hHeld => ?_)
                    clear hba
                    (try simp only [Act.put, List.setIfInBounds_toArray, List.set_cons_zero, List.set_cons_succ])
                    refine wpAnyH_take (i := 4) (oi := { dst := some 98, op := Op.unOp UnOp.not 4 (Operand.tmp 97), type := 4, pos := "law.go:82", after := #[{ on := 3, ground := Ground.data }], guard := none }) (v := ?_) rfl (by kernel_rfl) (by kernel_rfl) (by kernel_rfl) (fun _ _ _ h => h) (Or.inl ⟨by rfl, ?_⟩) hHeld ?_
                    rotate_left
                    · (intro w hSw; go_simp; try with_reducible rfl)
                    (try simp only [Act.put, List.setIfInBounds_toArray, List.set_cons_zero, List.set_cons_succ])
                    refine wpAnyH_done (by kernel_rfl) ?_ _
                    have HD := Lib.hid hHeld
                    clear hHeld
                    go_wp2_with fail
                    go_roundw
                    case rel => exact ⟨k + 1, hlt, by omega, by go_num, Lib.hid (XX.out.on HD.out), Lib.hid (XT.out.on HD.out), Lib.hid (OT.out.on HD.out), Lib.hid (bch HB.out HD.out)⟩
                    case measure => simp [Lib.intOf]; omega
          | true =>
            have htl := tells_yes (p := p) HOK.out.symm
            rw [← HY.out, ← HBB.out, ← HMM.out, ← HSS.out] at htl
            have HTL := Lib.hid htl
            clear htl
            have HTO : Hid (TreeOk L) := Lib.hid (tree_ok HOK.out.symm)
            have p0 := XT.out.cell (k := 0) rfl
            go_wp2_with fail
            clear p0
            refine (rget_any L _ ⟨p.toArray⟩ w10 OT.out.rd (Nat.le_trans HTO.out.many (by decide))).mono ?_
            rintro e w11 ⟨he, hb⟩
            obtain rfl : e = .returned (.tuple #[.agg #[.string ⟨Y.path.toArray⟩, .int .i64 Y.kind, .string ⟨Y.data.toArray⟩], .bool B]) := by rw [he]; show Ending.returned (.tuple #[.agg (refG L p).1.arr, .bool (refG L p).2]) = _; rw [HTL.out.1, it_cells]
            clear he
            have XY := Lib.hid (XY.out.on hb)
            obtain ⟨VE, hVE⟩ : ∃ z, z = w11.setRow bY #[.string ⟨Y.path.toArray⟩, .int .i64 Y.kind, .string ⟨Y.data.toArray⟩] := ⟨_, rfl⟩
            have HVE := Lib.hid hVE
            have XOE := Lib.hid XY.out
            have XY : Hid (Box VE bY 33 Y.arr) := Lib.hid (by rw [hVE]; exact XOE.out.row _)
            have XT := Lib.hid (show Box VE bT 24 #[.slice a1 n1 c1] by rw [hVE]; exact (XT.out.on hb).far_row HNT.out _)
            have XX := Lib.hid (show Box VE bX 24 #[.slice a q c] by rw [hVE]; exact (XX.out.on hb).far_row HNX.out _)
            have OT : Hid (OwnI VE w.heap.size (.slice a1 n1 c1) L) := Lib.hid (by rw [hVE]; exact ownR_far (OT.out.on hb) (fun k hk => setRow_other w11 bY k _ (by have h1 := (HKQ.out k hk); omega)))
            have HB : Hid (Below w.heap.size w VE) := Lib.hid (by rw [hVE]; exact below_row (bch HB.out hb) HGY.out _)
            clear hb
            clear hVE
            go_upto_region 15 with (first | (refine wpList_store_row rfl 33 (.tmp 9) (.tmp 41) rfl bY #[.string ⟨Y.path.toArray⟩, .int .i64 Y.kind, .string ⟨Y.data.toArray⟩] rfl rfl 33 #[.string ⟨#[]⟩, .int .i64 0, .string ⟨#[]⟩] XOE.out info59r rfl (by simp [Value.oneCell']) ?_; rw [← HVE.out]) | fail)
            obtain ⟨v0, hv0⟩ : ∃ z, z = World.drew VE := ⟨_, rfl⟩
            refine wp_region_held_drew (S := fun w' => Below VE.heap.size VE w') (by kernel_rfl) (Below.refl _ _).drew (fun hHeld => ?_)
            rw [← hv0] at hHeld ⊢
            clear hv0
            refine wpAnyH_take (i := 0) (oi := { dst := some 43, op := Op.load 24 (Operand.tmp 5), type := 24, pos := "law.go:72", after := #[], guard := none }) (v := ?_) rfl (by kernel_rfl) (by kernel_rfl) (by kernel_rfl) (fun _ _ _ h => h) (Or.inl ⟨by rfl, ?_⟩) hHeld ?_
            rotate_left
            · (intro w hSw; have p0 := (XT.out.on hSw).cell (k := 0) rfl; go_simp; try with_reducible rfl)
            (try simp only [Act.put, List.setIfInBounds_toArray, List.set_cons_zero, List.set_cons_succ])
            refine wpAnyH_take (i := 1) (oi := { dst := some 44, op := Op.move (Operand.tmp 8), type := 9, pos := "law.go:72", after := #[], guard := none }) (v := ?_) rfl (by kernel_rfl) (by kernel_rfl) (by kernel_rfl) (fun _ _ _ h => h) (Or.inl ⟨by rfl, ?_⟩) hHeld ?_
            rotate_left
            · (intro w hSw; go_simp; try with_reducible rfl)
            (try simp only [Act.put, List.setIfInBounds_toArray, List.set_cons_zero, List.set_cons_succ])
            refine wpAnyH_take (i := 3) (oi := { dst := some 46, op := Op.load 24 (Operand.tmp 5), type := 24, pos := "law.go:72", after := #[], guard := none }) (v := ?_) rfl (by kernel_rfl) (by kernel_rfl) (by kernel_rfl) (fun _ _ _ h => h) (Or.inl ⟨by rfl, ?_⟩) hHeld ?_
            rotate_left
            · (intro w hSw; have p0 := (XT.out.on hSw).cell (k := 0) rfl; go_simp; try with_reducible rfl)
            (try simp only [Act.put, List.setIfInBounds_toArray, List.set_cons_zero, List.set_cons_succ])
            refine wpAnyH_take (i := 4) (oi := { dst := some 47, op := Op.move (Operand.tmp 8), type := 9, pos := "law.go:72", after := #[], guard := none }) (v := ?_) rfl (by kernel_rfl) (by kernel_rfl) (by kernel_rfl) (fun _ _ _ h => h) (Or.inl ⟨by rfl, ?_⟩) hHeld ?_
            rotate_left
            · (intro w hSw; go_simp; try with_reducible rfl)
            (try simp only [Act.put, List.setIfInBounds_toArray, List.set_cons_zero, List.set_cons_succ])
            refine wpAnyH_ready (rs := [2]) (by kernel_rfl) (by simp) (AllReadyH.cons (o := { dst := some 45, op := Op.call { callee := Callee.value (Operand.func 21), args := #[Operand.tmp 43, Operand.tmp 44], argTypes := #[24, 9] }, type := 22, pos := "law.go:72", after := #[{ on := 0, ground := Ground.data }, { on := 1, ground := Ground.data }], guard := none }) rfl (fun K hK => ?_) AllReadyH.nil)
            · go_simp
              refine (rbelow_any L _ ⟨p.toArray⟩ _ (OT.out.on hHeld).rd (Nat.le_trans HTO.out.many (by decide)) HXL.out HPS.out).mono ?_
              rintro e v101 ⟨x1, rfl, hI, hba⟩
              have hI2 : OwnI v101 0 x1 M := by rw [← HTL.out.2.1]; exact own_base hI (Nat.zero_le _)
              obtain ⟨da, dn, dc, rfl⟩ := own_any hI2
              have O1 := Lib.hid hI2
              clear hI hI2
              refine hK.out _ _ (bch hHeld hba) (fun hHeld => ?_)
              clear hba
              (try simp only [Act.put, List.setIfInBounds_toArray, List.set_cons_zero, List.set_cons_succ])
              refine wpAnyH_ready (rs := [5]) (by kernel_rfl) (by simp) (AllReadyH.cons (o := { dst := some 48, op := Op.call { callee := Callee.value (Operand.func 22), args := #[Operand.tmp 46, Operand.tmp 47], argTypes := #[24, 9] }, type := 41, pos := "law.go:72", after := #[{ on := 3, ground := Ground.data }, { on := 4, ground := Ground.data }, { on := 2, ground := Ground.chain }], guard := none }) rfl (fun K hK => ?_) AllReadyH.nil)
              · go_simp
                refine (rkids_any L _ p _ (OT.out.on hHeld).rd HTO.out).mono ?_
                rintro e v103 ⟨ka9, kn9, kc9, rfl, hkn9, hI, hba⟩
                have hI2 : OwnT v103 0 (.slice ka9 kn9 kc9) S := by unfold OwnT; rw [HTL.out.2.2] at hkn9 hI; rw [hkn9] at hI ⊢; exact own_base hI (Nat.zero_le _)
                have O2 := Lib.hid hI2
                have OD := Lib.hid (O1.out.on hba)
                clear hI hI2 hkn9
                refine hK.out _ _ (bch hHeld hba) (fun hHeld => ?_)
                clear hba
                (try simp only [Act.put, List.setIfInBounds_toArray, List.set_cons_zero, List.set_cons_succ])
                refine wpAnyH_take (i := 6) (oi := { dst := some 10, op := Op.assign (Operand.tmp 45), type := 22, pos := "law.go:72", after := #[{ on := 2, ground := Ground.data }, { on := 5, ground := Ground.chain }, { on := 0, ground := Ground.phase }, { on := 1, ground := Ground.phase }, { on := 2, ground := Ground.phase }, { on := 3, ground := Ground.textOnly Departure.lateStores }, { on := 4, ground := Ground.textOnly Departure.lateStores }, { on := 5, ground := Ground.textOnly Departure.lateStoresUnsure }], guard := none }) (v := ?_) rfl (by kernel_rfl) (by kernel_rfl) (by kernel_rfl) (fun _ _ _ h => h) (Or.inl ⟨by rfl, ?_⟩) hHeld ?_
                rotate_left
                · (intro w hSw; go_simp; try with_reducible rfl)
                (try simp only [Act.put, List.setIfInBounds_toArray, List.set_cons_zero, List.set_cons_succ])
                refine wpAnyH_take (i := 7) (oi := { dst := some 11, op := Op.assign (Operand.tmp 48), type := 41, pos := "law.go:72", after := #[{ on := 5, ground := Ground.data }, { on := 6, ground := Ground.chain }, { on := 0, ground := Ground.phase }, { on := 1, ground := Ground.phase }, { on := 2, ground := Ground.phase }, { on := 3, ground := Ground.phase }, { on := 4, ground := Ground.phase }, { on := 5, ground := Ground.phase }, { on := 6, ground := Ground.phase }], guard := none }) (v := ?_) rfl (by kernel_rfl) (by kernel_rfl) (by kernel_rfl) (fun _ _ _ h => h) (Or.inl ⟨by rfl, ?_⟩) hHeld ?_
                rotate_left
                · (intro w hSw; go_simp; try with_reducible rfl)
                (try simp only [Act.put, List.setIfInBounds_toArray, List.set_cons_zero, List.set_cons_succ])
                refine wpAnyH_done (by kernel_rfl) ?_ _
                have HD := Lib.hid hHeld
                clear hHeld
                have XX := Lib.hid (XX.out.on HD.out)
                have XT := Lib.hid (XT.out.on HD.out)
                have OT := Lib.hid (OT.out.on HD.out)
                have XY := Lib.hid (XY.out.on HD.out)
                have HB := Lib.hid (bch HB.out HD.out)
                have OS := O2
                clear HD O1 O2
                have p0 := XT.out.cell (k := 0) rfl
                go_wp2_with fail
                clear p0
                refine (get_gen L _ p v103 OT.out.rd (fun x h => Nat.le_trans (HXL.out x h) (by decide)) (Nat.le_trans HPL.out (by decide)) (HT.out.on HB.out).tab).mono ?_
                rintro e w12 ⟨rfl, hb⟩
                rw [← HY.out, ← HBB.out, it_cells]
                obtain ⟨VG, hVG⟩ : ∃ z, z = (w12.alloc (.cells #[.string ⟨#[]⟩, .int .i64 0, .string ⟨#[]⟩] 33)).setRow w12.heap.size #[.string ⟨Y.path.toArray⟩, .int .i64 Y.kind, .string ⟨Y.data.toArray⟩] := ⟨_, rfl⟩
                obtain ⟨bG, hbG⟩ : ∃ z, z = w12.heap.size := ⟨_, rfl⟩
                have hnG : Below w12.heap.size w12 VG := by rw [hVG]; exact below_row (below_new _ _) (Nat.le_refl _) _
                have XG : Hid (Box VG bG 33 #[.string ⟨Y.path.toArray⟩, .int .i64 Y.kind, .string ⟨Y.data.toArray⟩]) := Lib.hid (by rw [hVG, hbG]; exact box_new.row _)
                have HVG := Lib.hid hVG
                have HWG := Lib.hid hbG
                have hcar : Below v103.heap.size v103 VG := bch hb hnG
                have XX := Lib.hid (XX.out.on hcar)
                have XT := Lib.hid (XT.out.on hcar)
                have OT := Lib.hid (OT.out.on hcar)
                have XY := Lib.hid (XY.out.on hcar)
                have OD := Lib.hid (OD.out.on hcar)
                have OS := Lib.hid (OS.out.on hcar)
                have HB := Lib.hid (bch HB.out hcar)
                clear hcar
                have p0 := XT.out.cell (k := 0) rfl
                clear hb hnG
                clear hVG hbG
                go_wp2_with (first | (refine wpList_store_row rfl 33 (.tmp 13) (.tmp 53) rfl w12.heap.size #[.string ⟨Y.path.toArray⟩, .int .i64 Y.kind, .string ⟨Y.data.toArray⟩] rfl rfl 33 #[.string ⟨#[]⟩, .int .i64 0, .string ⟨#[]⟩] box_new info59r rfl (by simp [Value.oneCell']) ?_; rw [← HVG.out, ← HWG.out]) | fail)
                clear p0
                have HKT : Hid (∀ k, (Value.slice a1 n1 c1).ownBlock = some k → k < VG.heap.size) := Lib.hid (fun k hk => (OT.out.lts k hk).2)
                have HGW : Hid (w.heap.size ≤ VG.heap.size) := Lib.hid HB.out.size
                refine (below_u w.heap.size L _ p VG OT.out (fun x h => Nat.le_trans (HXL.out x h) (by decide)) (Nat.le_trans HPL.out (by decide)) (HT.out.on HB.out).tab).mono ?_
                rintro e w13 ⟨la, ln, lc, rfl, hln, hI, hb⟩
                rw [← HMM.out] at hln hI
                obtain ⟨B7, hB7⟩ : ∃ z, z = VG.heap.size := ⟨_, rfl⟩
                rw [← hB7] at HKT HGW
                have HLN := Lib.hid hln
                have HLB : Hid (B7 ≤ w13.heap.size) := Lib.hid (by rw [hB7]; exact hb.size)
                have hcar : Below VG.heap.size VG w13 := hb
                have XX := Lib.hid (XX.out.on hcar)
                have XT := Lib.hid (XT.out.on hcar)
                have OT := Lib.hid (OT.out.on hcar)
                have XY := Lib.hid (XY.out.on hcar)
                have OD := Lib.hid (OD.out.on hcar)
                have OS := Lib.hid (OS.out.on hcar)
                have XG := Lib.hid (XG.out.on hcar)
                have HB := Lib.hid (bch HB.out hcar)
                clear hcar
                have ON : Hid (OwnI w13 B7 (.slice la ln lc) M) := Lib.hid (by rw [hB7]; exact hI)
                clear hI hln hB7 hb
                have hne := neq35 Y Y false (by simp)
                have hgd := guard35
                have tB : (B != B) = false := by simp
                have tB' : (B == B) = true := by simp
                have p0 : w13.cell? ⟨bG, 0, none⟩ = some (.string ⟨Y.path.toArray⟩) := XG.out.cell (k := 0) rfl
                have p1 : w13.cell? ⟨bG, 1, none⟩ = some (.int .i64 Y.kind) := XG.out.cell (k := 1) rfl
                have p2 : w13.cell? ⟨bG, 2, none⟩ = some (.string ⟨Y.data.toArray⟩) := XG.out.cell (k := 2) rfl
                have r0 : w13.cell? ⟨bY, 0, none⟩ = some (.string ⟨Y.path.toArray⟩) := XY.out.cell (k := 0) rfl
                have r1 : w13.cell? ⟨bY, 1, none⟩ = some (.int .i64 Y.kind) := XY.out.cell (k := 1) rfl
                have r2 : w13.cell? ⟨bY, 2, none⟩ = some (.string ⟨Y.data.toArray⟩) := XY.out.cell (k := 2) rfl
                go_wp2_with fail
                clear p0 p1 p2 r0 r1 r2
                refine (equal_any M M _ _ w13 ON.out.rd OD.out.rd).mono ?_
                rintro e w14 ⟨he, hb⟩
                rw [decide_eq_true rfl] at he
                subst he
                have hcar : Below w13.heap.size w13 w14 := hb
                have XX := Lib.hid (XX.out.on hcar)
                have XT := Lib.hid (XT.out.on hcar)
                have OT := Lib.hid (OT.out.on hcar)
                have XY := Lib.hid (XY.out.on hcar)
                have OD := Lib.hid (OD.out.on hcar)
                have OS := Lib.hid (OS.out.on hcar)
                have XG := Lib.hid (XG.out.on hcar)
                have ON := Lib.hid (ON.out.on hcar)
                have HB := Lib.hid (bch HB.out hcar)
                clear hcar
                clear hb hne hgd tB tB'
                have p0 := XT.out.cell (k := 0) rfl
                go_wp2_with fail
                clear p0
                refine (kids_u w.heap.size L _ p w14 OT.out (fun x h => Nat.le_trans (HXL.out x h) (by decide)) (Nat.le_trans HPL.out (by decide)) (HT.out.on HB.out).tab).mono ?_
                rintro e w15 ⟨ka, kn, kc, rfl, hkn, hI, hb⟩
                rw [← HSS.out] at hkn hI
                have HEQ : Hid (Calls Tryz.prog 25 #[.slice ka kn kc, .slice ka9 kn9 kc9] w15 fun e w' => e = .returned (.bool true) ∧ ∃ q, w' = w15.drewN q) := Lib.hid (by have h9 := eq_any S S w14.heap.size 0 (.slice ka kn kc) (.slice ka9 kn9 kc9) w15 (by rw [hkn] at hI ⊢; exact hI) (OS.out.on hb) HSL.out HSL.out; rw [decide_eq_true rfl] at h9; exact h9)
                clear hI hkn
                have hcar : Below w14.heap.size w14 w15 := hb
                have XX := Lib.hid (XX.out.on hcar)
                have XT := Lib.hid (XT.out.on hcar)
                have OT := Lib.hid (OT.out.on hcar)
                have XY := Lib.hid (XY.out.on hcar)
                have OD := Lib.hid (OD.out.on hcar)
                have OS := Lib.hid (OS.out.on hcar)
                have XG := Lib.hid (XG.out.on hcar)
                have ON := Lib.hid (ON.out.on hcar)
                have HB := Lib.hid (bch HB.out hcar)
                clear hcar
                clear hb
                go_wp2_with fail
                refine HEQ.out.mono ?_
                rintro e w16 ⟨rfl, q9, rfl⟩
                clear HEQ
                obtain ⟨w17, hw17⟩ : ∃ z, z = w15.drewN q9 := ⟨_, rfl⟩
                have hb : Below w15.heap.size w15 w17 := by rw [hw17]; exact below_drewN' (Below.refl _ _) _
                rw [← hw17]
                clear hw17
                have hcar : Below w15.heap.size w15 w17 := hb
                have XX := Lib.hid (XX.out.on hcar)
                have XT := Lib.hid (XT.out.on hcar)
                have OT := Lib.hid (OT.out.on hcar)
                have XY := Lib.hid (XY.out.on hcar)
                have OD := Lib.hid (OD.out.on hcar)
                have OS := Lib.hid (OS.out.on hcar)
                have XG := Lib.hid (XG.out.on hcar)
                have ON := Lib.hid (ON.out.on hcar)
                have HB := Lib.hid (bch HB.out hcar)
                clear hcar
                obtain ⟨gN, hgB, hgX, hgF⟩ := own_pick2 ON.out
                have HGB := Lib.hid hgB
                have HGX := Lib.hid hgX
                have HGF : Hid (0 < ln → ∃ c, Value.slice la ln lc = .slice (some ⟨gN, 0, none⟩) ln c) := Lib.hid (fun h => by have h5 := hgF (by rw [← HLN.out]; exact h); rw [← HLN.out] at h5; exact h5)
                have HKS : Hid (KsI (flatI M) ln) := Lib.hid (by rw [HLN.out]; exact ksI_flat M)
                have HOX : Hid (w17.ownsRow B7 33 3 (.slice la ln lc) ln (flatI M)) := Lib.hid (by have := ON.out; unfold OwnI at this; rw [← HLN.out] at this; exact this)
                have hxm : ln ≤ 9223372036854775807 := by obtain ⟨a8, c8, e8, h8, h9⟩ := own_slice ON.out; unfold maxLen at h9; rw [← HLN.out] at h8; omega
                clear hb hgB hgX hgF XY OD OS XG
                go_wp2_with fail
                go_loopw [82] (fun i W => ∃ (j : Nat) (xs : List Value), j ≤ ln ∧ i = .int .i64 j ∧ Hid (KsI xs ln) ∧ Hid (W.ownsRow B7 33 3 (.slice la ln lc) ln xs) ∧ Hid (Asd gN w17 W)) (fun i _ => ln - (Lib.intOf i).toNat)
                case atStart => exact ⟨0, flatI M, Nat.zero_le _, rfl, HKS, HOX, Lib.hid (Asd.refl _ _)⟩
                case round =>
                  obtain ⟨j, xs, hj, rfl, HKJ, HOJ, HAJ⟩ := hrel
                  obtain ⟨wj, hwj⟩ : ∃ q, q = wr := ⟨_, rfl⟩
                  rw [← hwj] at HOJ HAJ ⊢
                  clear hwj HOX HKS
                  by_cases hjn : j < ln
                  · obtain ⟨c9, hc9⟩ := HGF.out (by omega)
                    cases hc9
                    obtain ⟨z, hz⟩ := HKJ.out j hjn
                    have j1 : (j : Int) < (ln : Int) := by omega
                    have j2 : (0 : Int) ≤ (j : Int) := by omega
                    have j4 : IntKind.i64.wrap ((j : Int) + 1) = (j : Int) + 1 := IntWalk.i64_in _ (by omega)
                    have p1 : wj.cell? ⟨gN, j * 3 + 1, none⟩ = some (.int .i64 z) := (HOJ.out.cellAt (j * 3 + 1) (by omega)).trans hz
                    have f1 : wj.frozen? ⟨gN, j * 3 + 1, none⟩ = false := HOJ.out.frozenAt _
                    clear hz
                    go_wp2_with fail
                    go_roundw
                    case rel => exact ⟨j + 1, _, hjn, by go_num, Lib.hid (HKJ.out.set j _), Lib.hid (HOJ.out.stored (j * 3 + 1) _).1, Lib.hid (HAJ.out.set _ _)⟩
                    case measure => simp [Lib.intOf]; omega
                  · have j1 : ¬ ((j : Int) < (ln : Int)) := by omega
                    have HBJ : Hid (Below w.heap.size w wj) := Lib.hid (HAJ.out.below HB.out (Nat.le_trans HGW.out HGB.out))
                    have XT := Lib.hid (HAJ.out.box XT.out (HGX.out _ _ XT.out))
                    have XX := Lib.hid (HAJ.out.box XX.out (HGX.out _ _ XX.out))
                    have OT := Lib.hid (HAJ.out.own OT.out (fun k hk => by have := HKT.out k hk; have := HGB.out; omega))
                    have HB := HBJ
                    clear HOJ HKJ HAJ HBJ HGX HGF HGB ON HLB HKT HGW
                    obtain ⟨v0, hv0⟩ : ∃ z, z = World.drew wj := ⟨_, rfl⟩
                    go_upto_region 25 with fail
                    refine wp_region_held_drew (S := fun w' => Below wj.heap.size wj w') (by kernel_rfl) (Below.refl _ _).drew (fun hHeld => ?_)
                    rw [← hv0] at hHeld ⊢
                    clear hv0
                    refine wpAnyH_take (i := 0) (oi := { dst := some 94, op := Op.load 24 (Operand.tmp 5), type := 24, pos := "law.go:82", after := #[], guard := none }) (v := ?_) rfl (by kernel_rfl) (by kernel_rfl) (by kernel_rfl) (fun _ _ _ h => h) (Or.inl ⟨by rfl, ?_⟩) hHeld ?_
                    rotate_left
                    · (intro w hSw; have p0 := (XT.out.on hSw).cell (k := 0) rfl; go_simp; try with_reducible rfl)
                    (try simp only [Act.put, List.setIfInBounds_toArray, List.set_cons_zero, List.set_cons_succ])
                    refine wpAnyH_take (i := 1) (oi := { dst := some 95, op := Op.load 24 (Operand.tmp 2), type := 24, pos := "law.go:82", after := #[], guard := none }) (v := ?_) rfl (by kernel_rfl) (by kernel_rfl) (by kernel_rfl) (fun _ _ _ h => h) (Or.inl ⟨by rfl, ?_⟩) hHeld ?_
                    rotate_left
                    · (intro w hSw; have p0 := (XX.out.on hSw).cell (k := 0) rfl; go_simp; try with_reducible rfl)
                    (try simp only [Act.put, List.setIfInBounds_toArray, List.set_cons_zero, List.set_cons_succ])
                    refine wpAnyH_ready (rs := [2]) (by kernel_rfl) (by simp) (AllReadyH.cons (o := { dst := some 96, op := Op.call { callee := Callee.value (Operand.func 9), args := #[Operand.tmp 95], argTypes := #[24] }, type := 24, pos := "law.go:82", after := #[{ on := 1, ground := Ground.data }], guard := none }) rfl (fun K hK => ?_) AllReadyH.nil)
                    · go_simp
                      refine (own6_any l _ _ ((HV.out.on HB.out).on hHeld)).mono ?_
                      rintro e v102 ⟨xv, rfl, hI, hba⟩
                      rw [← HL.out] at hI
                      obtain ⟨a9, n9, c9, rfl⟩ := own_any hI
                      have R9 : Hid (RdI v102 (.slice a9 n9 c9) L) := Lib.hid hI.rd
                      refine hK.out _ _ (bch hHeld hba) (fun hHeld => ?_)
                      clear hI hba
                      (try simp only [Act.put, List.setIfInBounds_toArray, List.set_cons_zero, List.set_cons_succ])
                      refine wpAnyH_ready (rs := [3]) (by kernel_rfl) (by simp) (AllReadyH.cons (o := { dst := some 97, op := Op.call { callee := Callee.value (Operand.func 16), args := #[Operand.tmp 94, Operand.tmp 96], argTypes := #[24, 24] }, type := 4, pos := "law.go:82", after := #[{ on := 0, ground := Ground.data }, { on := 2, ground := Ground.data }, { on := 2, ground := Ground.chain }], guard := none }) rfl (fun K hK => ?_) AllReadyH.nil)
                      · go_simp
                        refine (rsame6_any L L _ _ v102 (OT.out.on hHeld).rd R9.out).mono ?_
                        rintro e v103 ⟨he, hba⟩
                        rw [decide_eq_true rfl] at he
                        subst he
                        refine hK.out _ _ (bch hHeld hba) (fun hHeld => ?_)
                        clear hba
                        (try simp only [Act.put, List.setIfInBounds_toArray, List.set_cons_zero, List.set_cons_succ])
                        refine wpAnyH_take (i := 4) (oi := { dst := some 98, op := Op.unOp UnOp.not 4 (Operand.tmp 97), type := 4, pos := "law.go:82", after := #[{ on := 3, ground := Ground.data }], guard := none }) (v := ?_) rfl (by kernel_rfl) (by kernel_rfl) (by kernel_rfl) (fun _ _ _ h => h) (Or.inl ⟨by rfl, ?_⟩) hHeld ?_
                        rotate_left
                        · (intro w hSw; go_simp; try with_reducible rfl)
                        (try simp only [Act.put, List.setIfInBounds_toArray, List.set_cons_zero, List.set_cons_succ])
                        refine wpAnyH_done (by kernel_rfl) ?_ _
                        have HD := Lib.hid hHeld
                        clear hHeld
                        go_wp2_with fail
                        go_roundw
                        case rel => exact ⟨k + 1, hlt, by omega, by go_num, Lib.hid (XX.out.on HD.out), Lib.hid (XT.out.on HD.out), Lib.hid (OT.out.on HD.out), Lib.hid (bch HB.out HD.out)⟩
                        case measure => simp [Lib.intOf]; omega
    · have k1 : ¬ ((k : Int) < (n : Int)) := by omega
      go_wp2_with fail
      go_ret
      exact ⟨rfl, HB.out⟩

end Go.Proofs.YtjbbnecegomkcaaGreatDoor

namespace Go.Proofs.YtjbbnecegomkcaaGreatDoor.TreeTellsP
open Go.ChangeShapes Go.WideShapes Go.ChangeAt Go.RowKit Go.Joins Go.Deep
open Go.ChangeMaps (open_string shut_string)

theorem argR_of {H : Type} {enc : TypeId × Value → H} {W : World} {base fuel : Nat} {hd : Bool} {a0 : Option Addr} {len cap : Nat} {d : DataW H} {p : List MemPlace}
    (hf : DataW.trod enc Tryz.prog W base (fun _ => true) hd fuel 41 [.slice a0 len cap] = some (d, p)) (hlt : ∀ x ∈ p, x.block < W.heap.size) : ∃ l, RdS W (.slice a0 len cap) l ∧ ∀ x ∈ l, x.length ≤ Rows.uptoBulk d := by
  rcases open_strings Tryz.underlying41 Tryz.underlying9 cells9 hf with ⟨hcs, _⟩ | ⟨a, len', cap', ss, hcs, _, hl, hm, hz, hx, hcell, _⟩
  · simp at hcs
    obtain ⟨rfl, rfl, rfl⟩ := hcs
    exact ⟨[], RdS.nil W, fun x hx => by cases hx⟩
  · simp at hcs
    obtain ⟨rfl, rfl, rfl⟩ := hcs
    simp only [Prod.mk.injEq] at hx
    obtain ⟨hd0, rfl⟩ := hx
    simp only [if_true] at hz
    have hlen : ((ss.take len).map fun s => s.data.toList).length = len := by simp; omega
    refine ⟨(ss.take len).map fun s => s.data.toList, ⟨some a, cap, by rw [hlen], by rw [hlen]; exact hl, hm, fun h0 => ?_⟩, fun x hx => ?_⟩
    · rw [hlen] at h0
      obtain ⟨g, o, spot⟩ := a
      have hspot : spot = none := by
        have := World.cell?_spot (hcell 0 (by omega))
        simpa [Addr.add] using this
      subst hspot
      refine ⟨g, o, rfl, hlt (.cell g o) (MemPlace.mem_row.2 ⟨0, by omega, by simp⟩), fun j x hs => ?_⟩
      rw [List.getElem?_map] at hs
      obtain ⟨s, hs2, hsx⟩ := Option.map_eq_some_iff.1 hs
      subst hsx
      rw [List.getElem?_take] at hs2
      split at hs2
      · have hjl := (List.getElem?_eq_some_iff.1 hs2).1
        have := hcell j hjl
        rw [addr_add] at this
        rw [this]
        unfold encS
        rw [ba_toArray]
        simp [List.getD, hs2]
      · cases hs2
    · obtain ⟨s, hs, rfl⟩ := List.mem_map.1 hx
      rw [hd0]
      have h1 := bulk_part (H := H) (d := .lit (.string s.data.toList)) (l := strs (ss.take len)) (List.mem_map.2 ⟨s, hs, rfl⟩)
      simp only [Rows.uptoBulk] at h1 ⊢
      omega
theorem met (os : Os) : laidMet Tryz.prog Rows.treeTellsUptoRow.laid ((laidWorld os).forCall (fun _ _ => 0) ⟨#[], #[zeroTree, .slice none 0 0], []⟩).memory :=
  laid_met os _
theorem reads (os : Os) {H : Type} (enc : TypeId × Value → H) : ∃ places, DataW.whole enc Tryz.prog ((laidWorld os).forCall (fun _ _ => 0) ⟨#[], #[zeroTree, .slice none 0 0], []⟩).memory Tryz.f4.params.toList Rows.treeTellsSpec.vars false #[zeroTree, Value.slice none 0 0].toList 8 = some ([zeroTreeD, .nil], [], places) :=
  ⟨[], by kernel_rfl⟩

set_option maxRecDepth 100000 in
theorem lifted (os : Os) (started : os.Started) (H : Type) (enc : TypeId × Value → H) (F : Stop.Interp) :
    ReturnsInHanded {} Tryz.checked os 4 .any ((Rows.OpenSpec.upto Rows.treeTellsSpec).preRow enc Tryz.prog Tryz.f4 Rows.treeTellsUptoRow.domain false Rows.treeTellsUptoRow.laid) (((Rows.OpenSpec.upto Rows.treeTellsSpec).at F).post enc Tryz.prog Tryz.f4 false true false false) := by
  obtain ⟨places, hx⟩ := reads os enc
  refine returnsInHanded_of_row (C := Tryz.checked) (s := Rows.OpenSpec.upto Rows.treeTellsSpec) own0 started (by kernel_rfl) Tryz.func4
    (witness_row_at (enc := enc) (C := Tryz.checked) false (laidWorld os) #[zeroTree, .slice none 0 0] rfl (by kernel_rfl) (by kernel_rfl) (by kernel_rfl)
      (OpenSpec.preRow_of_cond 8 hx (by kernel_rfl) (fun k hk => by cases hk; kernel_rfl) (by kernel_rfl) (met os))) ?_
  intro W base args ds gs before hval0 hW _ hcond hsz0 hL hsh _
  have hval : ∀ (j : Nat) t v, Tryz.f4.params[j]? = some t → args[j]? = some v → Value.okWide Tryz.prog W .any base t v := hval0
  have hsm : Rows.uptoBulkAll (ds ++ gs) ≤ 1048576 := of_decide_eq_true (hcond _ rfl)
  clear hsz0 hcond
  have hW' := hW
  obtain ⟨p, q, hA0, hV, rfl, hfz, hnd⟩ := hW
  have hA : DataW.TrodAll enc Tryz.prog W 0 (fun _ => true) true Tryz.f4.params.toList args.toList ds p := hA0
  rw [Tryz.params4] at hA hval
  obtain ⟨v0, vs0, d0, ds0, p0, q0, hargs, rfl, rfl, h0, r0⟩ := trodAll_cons hA
  obtain ⟨v1, vs1, d1, ds1, p1, q1, rfl, rfl, rfl, h1, r1⟩ := trodAll_cons r0
  obtain ⟨rfl, rfl, rfl⟩ := trodAll_nil r1
  obtain rfl : args = #[v0, v1] := by cases args; simp_all
  obtain ⟨rfl, rfl⟩ := trodVars_none hV
  obtain ⟨cs0, rfl⟩ := okWide_tree (hval 0 24 v0 rfl rfl)
  obtain ⟨a1, n1, c1, rfl⟩ := okWide_slice Tryz.underlying41 (hval 1 41 v1 rfl rfl)
  have h0k := h0
  obtain ⟨fuel0, hf0⟩ := h0
  have h1k := h1
  obtain ⟨fuel1, hf1⟩ := h1
  clear hA0 hval0
  simp only [List.append_nil] at hW'
  have hlt0 : ∀ x ∈ p0, x.block < W.heap.size := fun x hx => by simpa using hW'.lt x (by simp [hx])
  have hlt1 : ∀ x ∈ p1, x.block < W.heap.size := fun x hx => by simpa using hW'.lt x (by simp [hx])
  have hb0 : Rows.uptoBulk d0 ≤ 1048576 := Nat.le_trans (bulk_part (by simp)) hsm
  have hb1 : Rows.uptoBulk d1 ≤ 1048576 := Nat.le_trans (bulk_part (by simp)) hsm
  obtain ⟨x0, l0, rfl, hr0, hw0'⟩ := argT_of (by simpa [Value.cells] using hf0) hlt0
  have hw0 : ∀ y ∈ l0, y.path.length ≤ 2000000 := fun y hy => Nat.le_trans (hw0' y hy).2 (Nat.le_trans hb0 (by decide))
  obtain ⟨l1, hr1, hw1'⟩ := argR_of (by simpa [Value.cells] using hf1) hlt1
  have hw1 : ∀ y ∈ l1, y.length ≤ 2000000 := fun y hy => Nat.le_trans (hw1' y hy) (Nat.le_trans hb1 (by decide))
  refine (tells6_any l0 x0 _ l1 W hr0 hw0 hr1 hw1 (tabs hL hsh)).mono fun e W' ⟨he, hb⟩ => ?_
  subst he
  exact ⟨_, rfl, _, _, _, [], _, [], hW', (trodAll_cons_mk (shut_bool Tryz.underlying4 _) trodAll_mk0), (trodAll_cons_mk (Below.trod laidOut (by kernel_rfl) (of_decide_eq_true (by kernel_rfl)) h0k hb hlt0) (trodAll_cons_mk (Below.trod laidOut (by kernel_rfl) (of_decide_eq_true (by kernel_rfl)) h1k hb hlt1) trodAll_mk0)), rfl, hb.frame _, fun h => by cases h⟩

theorem said : Rows.TreeTellsUptoSaid :=
  OpenClaim.holds_of_cond 4 Tryz.f4 rfl rfl rfl rfl rfl rfl rfl ⟨rfl, rfl, rfl, rfl, rfl⟩ rfl rfl rfl rfl rfl (by kernel_rfl) Tryz.func4 (by kernel_rfl)
    (of_decide_eq_true (by kernel_rfl)) (by unfold Func.isWrapper; first | (rw [if_pos (by decide +kernel)]; kernel_rfl) | (rw [if_neg (by decide +kernel)]; exact ⟨rfl, rfl⟩))
    (fun os started H enc _ F => by rw [OpenClaim.pre_eq_preRow]; exact lifted os started H enc F)

/-- No parameter wants a stand-in; the program's own looks are off: what the card asks. -/
theorem plain (f : FuncId) (fn : Func) (hf : Tryz.pinned.checked.prog.funcNamed "puncheon/puncheonlaw06.TreeTells" = some f) (hfn : Tryz.pinned.checked.prog.funcs[f]? = some fn) :
    false = Tryz.pinned.checked.prog.looks [] ∧ ∀ (j : Nat) t, fn.params[j]? = some t → Tryz.pinned.checked.prog.wantsStandIn t = false := by
  obtain rfl : f = 4 := Option.some.inj ((show Tryz.prog.funcNamed "puncheon/puncheonlaw06.TreeTells" = some 4 by kernel_rfl).symm.trans hf) |>.symm
  obtain rfl : fn = Tryz.f4 := (Option.some.inj (Tryz.func4.symm.trans hfn)).symm
  refine ⟨by kernel_rfl, fun j t ht => ?_⟩
  rw [Tryz.params4] at ht
  have hm : t ∈ [24, 41] := by simpa using Array.mem_of_getElem? ht
  have hall : ([24, 41].all fun u => !Tryz.prog.wantsStandIn u) = true := by kernel_rfl
  exact (show Tryz.prog.wantsStandIn t = false by simpa using List.all_eq_true.1 hall t hm)
end Go.Proofs.YtjbbnecegomkcaaGreatDoor.TreeTellsP
namespace Go.Proofs.YtjbbnecegomkcaaGreatDoor
theorem treeTells_upto_card : Rows.TreeTellsUptoCardSaid :=
  Claim7.holds_tied_plain_at .later [] _ _ _ _ TreeTellsP.said (fun _ h => by cases h) (by kernel_rfl) (fun _ h => by cases h) treeTellsUpto_row_tie rfl ⟨rfl, rfl⟩ (by kernel_rfl) rfl TreeTellsP.plain (by kernel_rfl)
#print axioms treeTells_upto_card
end Go.Proofs.YtjbbnecegomkcaaGreatDoor
