/- Proved here: WalkPlain of puncheonlaw07 returns true, wherever the tables stand. -/
import Derived.Test.YtiakedoebecgpaaDoorWWakes
import Derived.Test.YtiakedoebecgpaaDoorClean
namespace Go.Proofs.YtiakedoebecgpaaDoor
open Go.RowKit Go.Shelf

def noL (l : List It) : List It := l.filter fun x => x.kind != 3
theorem noL_snoc {l : List It} {k : Nat} {x : It} (hx : l[k]? = some x) (h3 : x.kind ≠ 3) : noL (l.take (k + 1)) = noL (l.take k) ++ [x] := by
  unfold noL
  rw [List.take_add_one, hx, List.filter_append]
  simp [h3]
theorem noL_past {l : List It} {k : Nat} {x : It} (hx : l[k]? = some x) (h3 : x.kind = 3) : noL (l.take (k + 1)) = noL (l.take k) := by
  unfold noL
  rw [List.take_add_one, hx, List.filter_append]
  simp [h3]
theorem noL_len (l : List It) : (noL l).length ≤ l.length := List.length_filter_le _ _
theorem noL_mem {l : List It} {x : It} (h : x ∈ noL l) : x ∈ l ∧ x.kind ≠ 3 := by
  unfold noL at h
  rw [List.mem_filter] at h
  exact ⟨h.1, by simpa using h.2⟩
theorem plain_clean {l : List It} {p s : Str} {x : It} {n : Nat} (h : walkM (noL l) p s true = .ok (x, n)) : n = 0 ∧ cleanRes p s = (x.path, 0) := by
  obtain ⟨h1, h2, h3, h4⟩ := walk_plain (fun x hx => (noL_mem hx).2) h
  refine ⟨h1, ?_⟩
  unfold cleanRes
  have hs : ¬ 2000 < s.length := by
    unfold walkM at h
    split at h
    · cases h
    · split at h
      · cases h
      · assumption
  rw [if_neg (by simp [h2]), if_neg hs, h4]
  simp only
  rw [(valid_join _ h3).1]
theorem run_field24 (a : Option Addr) (n c : Nat) (w : World) : (Instr.field 24 (.agg #[.slice a n c]) 0).run Tryd.prog w = .ok (.slice a n c) w := by
  have u := Tryd.underlying24
  have i := Tryd.isAgg22
  have s := Tryd.sizeOf22
  unfold Instr.field
  go_simp
  simp [asAgg]
theorem grownBy_cell (w : World) (g : Nat) (v : Value) : w.grownBy (w.setCell ⟨g, 0, none⟩ v) (some g) := grown_set (World.grownBy.refl _ _) 0 v
theorem own_ge {w : World} {B s n : Nat} {e : TypeId} {v : Value} {xs : List Value} (h : w.ownsRow B e s v n xs) (j : Nat) (hj : v.ownBlock = some j) : B ≤ j := by
  rcases h.2 with ⟨rfl, _⟩ | ⟨g, cap, cur, rfl, hB, _⟩
  · cases hj
  · cases hj; exact hB

set_option maxRecDepth 100000 in
set_option maxHeartbeats 8000000 in
theorem plain_law (l0 : List It) (v : Value) (a s : ByteArray) (w : World) (hv : RdI w v l0) (hsz : ∀ x ∈ l0, x.path.length ≤ 140737488355328) (hT : Tabs w) (ha : a.size ≤ 140737488355328) :
    Calls Tryd.prog 9 #[.agg #[v], .string a, .string s] w fun e w' => e = .returned (.bool true) ∧ Below w.heap.size w w' := by
  obtain ⟨w1, hw1⟩ : ∃ z, z = w.alloc (.cells #[v] 24) := ⟨_, rfl⟩
  have X : Hid (Box w1 w.heap.size 24 #[v]) := Lib.hid (by rw [hw1]; exact box_new)
  have HB1 : Hid (Below w.heap.size w w1) := Lib.hid (by rw [hw1]; exact below_new _ _)
  have HT := Lib.hid hT
  have HV := Lib.hid hv
  obtain ⟨l, hl⟩ : ∃ l, l = l0.take 60 := ⟨_, rfl⟩
  have HL : Hid (l.length ≤ 60) := Lib.hid (by rw [hl, List.length_take]; omega)
  have HSZ : Hid (∀ x ∈ l, x.path.length ≤ 140737488355328) := Lib.hid (fun x hx => hsz x (List.mem_of_mem_take (by rwa [hl] at hx)))
  have HW := Lib.hid (wwakes_any w1 (hT.on HB1.out))
  have HLE := Lib.hid hl
  clear hT hsz hv
  go_enter Tryd.func9, Tryd.ntmps9
  go_upto_region 1 with fail
  rw [← hw1]
  clear hw1
  go_wp2_with fail
  refine HW.out.mono ?_
  rintro e w2 ⟨rfl, hb2⟩
  have X2 := Lib.hid (X.out.on hb2)
  have HB2 := Lib.hid (bch HB1.out hb2)
  obtain ⟨b7, hb7⟩ : ∃ z, z = w2.heap.size := ⟨_, rfl⟩
  obtain ⟨w3, hw3⟩ : ∃ z, z = w2.alloc (.cells #[.slice none 0 0] 24) := ⟨_, rfl⟩
  have X7 : Hid (Box w3 b7 24 #[.slice none 0 0]) := Lib.hid (by rw [hw3, hb7]; exact box_new)
  have HB3 : Hid (Below w.heap.size w w3) := Lib.hid (by rw [hw3]; exact bch HB2.out (below_new _ _))
  have X3 : Box w3 w.heap.size 24 #[v] := by rw [hw3]; exact X2.out.alloc _
  have c0 := X3.cell (k := 0) rfl
  have H7 : Hid (w.heap.size ≤ b7 ∧ b7 < w3.heap.size) := Lib.hid ⟨by rw [hb7]; exact HB2.out.size, X7.out.lt⟩
  have HF := Lib.hid (wfew_own l0 v w3 (HV.out.on HB3.out))
  rw [← hl] at HF
  have HW3 := Lib.hid hw3
  have HB7 := Lib.hid hb7
  obtain ⟨va, vn, vc, rfl⟩ : ∃ a n c, v = .slice a n c := by obtain ⟨a, c, e, _⟩ := HV.out; exact ⟨_, _, _, e⟩
  clear hb2 X HW X2 X3 hb7 hw3 hl
  go_upto_region 4 with fail
  rw [← HW3.out, ← HB7.out]
  go_wp2_with fail
  refine HF.out.mono ?_
  rintro e w4 ⟨x4, rfl, ho4, hb4⟩
  obtain ⟨n, hn⟩ : ∃ n, n = l.length := ⟨_, rfl⟩
  rw [← hn] at ho4
  obtain ⟨a4, c4, rfl⟩ : ∃ a c, x4 = .slice a n c := by
    rcases ho4.2 with ⟨rfl, rfl⟩ | ⟨g, cap, cur, rfl, _⟩
    · exact ⟨_, _, rfl⟩
    · exact ⟨_, _, rfl⟩
  have HO4 := Lib.hid ho4
  have HN := Lib.hid hn
  have HB4 := Lib.hid (bch HB3.out hb4)
  have X8 := Lib.hid (X7.out.on hb4)
  have HS34 : Hid (w3.heap.size ≤ w4.heap.size) := Lib.hid hb4.size
  clear ho4 hn hb4 c0 HF
  have hfl := run_field24 a4 n c4
  have hnI : (n : Int) ≤ 60 := by have := HL.out; rw [← HN.out] at this; omega
  go_wp2_with fail
  have X8' : Hid (Box w4 b7 24 #[.slice none 0 0]) := X8
  obtain ⟨i0, hi, hz0, hz1, hz2⟩ := info_parts info35z
  clear X8
  go_loopw [9, 22, 23, 24, 25, 26, 27, 28, 29, 30, 31, 32, 33, 34, 35] (fun _ i _ _ _ _ _ _ _ _ _ _ _ _ _ W => ∃ (k m : Nat) (sa : Option Addr) (sc : Nat), k ≤ n ∧ i = .int .i64 k ∧ Hid (m = (noL (l.take k)).length) ∧ Hid (w4.grownBy W (some b7)) ∧ Hid (Box W b7 24 #[.slice sa m sc]) ∧ Hid (W.ownsRow w4.heap.size 35 3 (.slice sa m sc) m (flatI (noL (l.take k))))) (fun _ i _ _ _ _ _ _ _ _ _ _ _ _ _ _ => n - (Lib.intOf i).toNat)
  case atStart => exact ⟨0, 0, none, 0, Nat.zero_le _, rfl, Lib.hid rfl, Lib.hid (World.grownBy.refl _ _), X8', Lib.hid (World.ownsRow_nil _ _ _ _)⟩
  case round =>
    obtain ⟨k, m, sa, sc, hk, rfl, HM, HG, XB, HS⟩ := hrel
    obtain ⟨wq, hwq⟩ : ∃ q, q = wr := ⟨_, rfl⟩
    rw [← hwq] at HG XB HS ⊢
    clear hwq
    by_cases hlt : k < n
    · obtain ⟨x, hx⟩ : ∃ x, l[k]? = some x := ⟨_, List.getElem?_eq_getElem (by rw [← HN.out]; exact hlt)⟩
      have hrd : RdI wq (.slice a4 n c4) l := by
        have := RdF.of_own (own_grown HO4.out HG.out H7.out.2)
        show RdF _ _ _ _
        rw [← HN.out]; exact this
      obtain ⟨a', c', e, _, _, hc⟩ := hrd.open
      rw [← HN.out] at e
      cases e
      obtain ⟨gg, o, rfl, hgg, hc⟩ := hc (by rw [← HN.out]; omega)
      obtain ⟨q0, q1, q2⟩ := hc k x hx
      have HX := Lib.hid hx
      have k1 : (k : Int) < (n : Int) := by omega
      have k2 : (0 : Int) ≤ (k : Int) := by omega
      have k4 : IntKind.i64.wrap ((k : Int) + 1) = (k : Int) + 1 := IntWalk.i64_in _ (by omega)
      obtain ⟨w5, hw5⟩ : ∃ q, q = wq.alloc (.cells #[.string ⟨x.path.toArray⟩, .int .i64 x.kind, .string ⟨x.data.toArray⟩] 35) := ⟨_, rfl⟩
      have X5 : Box w5 wq.heap.size 35 x.arr := by rw [hw5]; exact box_new
      have HG5 : Hid (w4.grownBy w5 (some b7)) := Lib.hid (by rw [hw5]; exact HG.out.andThen (below_grown (below_new wq _) (some b7)) (fun j e => .inr e))
      have XB5 : Hid (Box w5 b7 24 #[.slice sa m sc]) := Lib.hid (by rw [hw5]; exact XB.out.alloc _)
      have HS5 : Hid (w5.ownsRow w4.heap.size 35 3 (.slice sa m sc) m (flatI (noL (l.take k)))) := Lib.hid (by rw [hw5]; exact HS.out.alloc _)
      obtain ⟨d0, d1, d2⟩ := X5.it
      clear hx hc X5 hrd
      go_upto_region 7 with fail
      obtain ⟨b9, hb9⟩ : ∃ q, q = wq.heap.size := ⟨_, rfl⟩
      rw [← hb9] at d0 d1 d2 ⊢
      rw [← hw5]
      clear hw5 hb9 q0 q1 q2 XB HS HG
      by_cases h3 : x.kind = 3
      · have t1 : (x.kind == 3) = true := by simp [h3]
        have t2 : (x.kind != 3) = false := by simp [h3]
        have HM6 : Hid (m = (noL (l.take (k + 1))).length) := Lib.hid (by rw [noL_past HX.out h3]; exact HM.out)
        have HS6 : Hid (w5.ownsRow w4.heap.size 35 3 (.slice sa m sc) m (flatI (noL (l.take (k + 1))))) := Lib.hid (by rw [noL_past HX.out h3]; exact HS5.out)
        clear h3
        go_wp2_with fail
        go_roundw
        case rel => exact ⟨k + 1, m, sa, sc, hlt, by go_num, HM6, HG5, XB5, HS6⟩
        case measure => simp [Lib.intOf]; omega
      · have t1 : (x.kind == 3) = false := by simp [h3]
        have t2 : (x.kind != 3) = true := by simp [h3]
        have H3 := Lib.hid h3
        have x7 := XB5.out.cell (k := 0) rfl
        have f7 : w5.frozen? ⟨b7, 0, none⟩ = false := Option.some.inj (XB5.out.free (k := 0))
        obtain ⟨w6, hw6⟩ : ∃ q, q = w5.alloc (.cells #[.string ⟨x.path.toArray⟩, .int .i64 x.kind, .string ⟨x.data.toArray⟩] 35) := ⟨_, rfl⟩
        have X6 : Hid (Box w6 w5.heap.size 35 x.arr) := Lib.hid (by rw [hw6]; exact box_new)
        have HG6 : Hid (w4.grownBy w6 (some b7)) := Lib.hid (by rw [hw6]; exact HG5.out.andThen (below_grown (below_new w5 _) (some b7)) (fun j e => .inr e))
        have XB6 : Hid (Box w6 b7 24 #[.slice sa m sc]) := Lib.hid (by rw [hw6]; exact XB5.out.alloc _)
        have HS6 : Hid (w6.ownsRow w4.heap.size 35 3 (.slice sa m sc) m (flatI (noL (l.take k)))) := Lib.hid (by rw [hw6]; exact HS5.out.alloc _)
        have hm60 : m ≤ 60 := by
          have h1 := HM.out
          have h2 := noL_len (l.take k)
          have h4 := HL.out
          rw [List.length_take] at h2
          omega
        have HCELLS : Hid (∀ (j : Nat) (u : Value), (flatI [x])[j]? = some u → w6.cell? ((⟨w5.heap.size, 0, none⟩ : Addr).add j) = some u) := Lib.hid (fun j u hu => by
          rw [add_to, Nat.zero_add]
          exact X6.out.cell (by show (x.cells.toArray)[j]? = some u; rw [List.getElem?_toArray]; simpa [flatI] using hu))
        clear h3 XB5 HS5 HG5
        go_wp2_with (at_builtin; rw [← hw6]; refine wpList_append_own _ rfl _ _ 22 rfl w4.heap.size 35 i0 (.agg It.nil.arr) 3 40 Tryd.underlying22 hi hz0 hz1 hz2 rfl (by decide) _ _ _ rfl HS6.out ⟨w5.heap.size, 0, none⟩ 1 1 (flatI [x]) rfl rfl HCELLS.out (flatI_one [x]) (by unfold maxLen; omega) (by omega) HG6.out.size ?_)
        intro v' w7 hown hgrow _
        have hgrow' : w6.grownBy w7 (Value.slice sa m sc).ownBlock := by rw [hw6]; exact hgrow
        obtain ⟨a7, c7, rfl⟩ : ∃ a c, v' = .slice a (m + 1) c := by
          rcases hown.2 with ⟨rfl, h0⟩ | ⟨g, cap, cur, rfl, _⟩
          · omega
          · exact ⟨_, _, rfl⟩
        have hge := own_ge HS6.out
        have XB7 : Hid (Box w7 b7 24 #[.slice sa m sc]) := Lib.hid (XB6.out.kept hgrow' (fun e => by have h1 := hge b7 e.symm; have h2 := H7.out.2; have h4 := HS34.out; omega))
        have HG7 : Hid (w4.grownBy w7 (some b7)) := Lib.hid (HG6.out.andThen hgrow' (fun j e => .inl (hge j e)))
        have HM7 : Hid (m + 1 = (noL (l.take (k + 1))).length) := Lib.hid (by rw [noL_snoc HX.out H3.out, List.length_append, HM.out]; rfl)
        have HS7 : Hid (w7.ownsRow w4.heap.size 35 3 (.slice a7 (m + 1) c7) (m + 1) (flatI (noL (l.take (k + 1))))) := Lib.hid (by rw [noL_snoc HX.out H3.out, flatI_append]; exact hown)
        have x8 := XB7.out.cell (k := 0) rfl
        have f8 : w7.frozen? ⟨b7, 0, none⟩ = false := Option.some.inj (XB7.out.free (k := 0))
        clear hown hgrow hgrow' hge x7 f7 hw6 X6 HG6 XB6 HS6 HCELLS
        go_wp2_with fail
        go_roundw
        case rel => exact ⟨k + 1, m + 1, a7, c7, hlt, by go_num, HM7, Lib.hid (grown_set HG7.out 0 _), Lib.hid (XB7.out.set (k := 0) _), Lib.hid (own_grown HS7.out (grownBy_cell w7 b7 _) (Nat.lt_of_lt_of_le H7.out.2 HS34.out))⟩
        case measure => simp [Lib.intOf]; omega
    · have k1 : ¬ ((k : Int) < (n : Int)) := by omega
      have hkn : k = n := by omega
      subst hkn
      have hall : l.take k = l := List.take_of_length_le (by rw [← HN.out]; exact Nat.le_refl _)
      have HM5 : Hid (m = (noL l).length) := Lib.hid (by rw [HM.out, hall])
      have HS5 : Hid (wq.ownsRow w4.heap.size 35 3 (.slice sa m sc) m (flatI (noL l))) := Lib.hid (by rw [← hall]; rw [hall]; have := HS.out; rwa [hall] at this)
      have HR5 : Hid (RdI wq (.slice sa m sc) (noL l)) := Lib.hid (by show RdF _ _ _ _; rw [← HM5.out]; exact RdF.of_own HS5.out)
      clear hall HM HS
      have HBq : Hid (Below w.heap.size w wq) := Lib.hid (HB4.out.grown HG.out HB4.out.size (by intro q hq; cases hq; exact H7.out.1))
      have HTq : Hid (Tabs wq) := Lib.hid ((HT.out.on HB4.out).grown (Nat.le_trans HT.out.one H7.out.1) HG.out)
      have HLN : Hid ((noL l).length ≤ 1000000) := Lib.hid (by have h1 := noL_len l; have h2 := HL.out; omega)
      have HSN : Hid (∀ x ∈ noL l, x.path.length ≤ 140737488355328) := Lib.hid (fun x hx => HSZ.out x (noL_mem hx).1)
      have HRE : Hid (∀ s2 : ByteArray, Calls Tryd.prog 23 #[.agg #[.slice sa m sc], .string a, .string s2, .bool true] wq (ItR (walkM (noL l) a.data.toList s2.data.toList true) wq)) := Lib.hid (fun s2 => resolve_any (noL l) (.slice sa m sc) a s2 true wq HR5.out HLN.out HSN.out HTq.out ha)
      have x7 := XB.out.cell (k := 0) rfl
      clear X8' HO4 HS5 hi hz0 hz1 hz2
      by_cases hlong : 2000 < s.size
      · have d1 : decide ((s.size : Int) > 2000) = true := decide_eq_true (by omega)
        have d2 : (2000 : Int) ≤ (s.size : Int) := by omega
        clear hlong
        go_upto_region 12 with fail
        obtain ⟨s2, hs2⟩ : ∃ q, q = s.extract 0 2000 := ⟨_, rfl⟩
        rw [← hs2]
        clear hs2
        have HC := Lib.hid (HRE.out s2)
        go_wp2_with fail
        refine HC.out.mono ?_
        rintro e u1 ⟨rfl, hz, hb⟩
        obtain ⟨r, hr⟩ : ∃ r, r = walkM (noL l) a.data.toList s2.data.toList true := ⟨_, rfl⟩
        rw [← hr] at hz ⊢
        obtain ⟨g1, hg1⟩ : ∃ z, z = u1.heap.size := ⟨_, rfl⟩
        cases r with
        | error z =>
          have hzz := hz z rfl
          have t1 : (z == 0) = false := by simp [hzz]
          have t2 : (z != 0) = true := by simp [hzz]
          obtain ⟨v1, hv1⟩ : ∃ z, z = (u1.alloc (.cells #[.string ⟨#[]⟩, .int .i64 0, .string ⟨#[]⟩] 35)).setRow u1.heap.size It.nil.arr := ⟨_, rfl⟩
          have x1 : Box v1 g1 35 It.nil.arr := by rw [hv1, hg1]; exact Box.row (box_new (w := u1) (t := 35) (cs := It.nil.arr)) _
          have c0 : v1.cell? ⟨g1, 0, none⟩ = some (.string ⟨#[]⟩) := x1.cell (k := 0) rfl
          have c1 : v1.cell? ⟨g1, 1, none⟩ = some (.int .i64 0) := x1.cell (k := 1) rfl
          have c2 : v1.cell? ⟨g1, 2, none⟩ = some (.string ⟨#[]⟩) := x1.cell (k := 2) rfl
          have HBv : Hid (Below w.heap.size w v1) := Lib.hid (by rw [hv1]; exact bch HBq.out (bch hb (below_row (below_new _ _) (Nat.le_refl _) _)))
          have e35 : ∀ W, (Op.equalIn 10000 35 (.agg #[.string ⟨#[]⟩, .int .i64 0, .string ⟨#[]⟩]) (.agg #[.string ⟨#[]⟩, .int .i64 0, .string ⟨#[]⟩])).run Tryd.prog W = .ok true W := fun W => (eq35 .nil .nil W).trans (by rw [decide_eq_true rfl])
          have HV1 := Lib.hid hv1
          have HG1 := Lib.hid hg1
          clear hz hr hg1 hv1 hzz hb HC x1
          rw [show errW (.error z) = z from rfl, show itW (.error z) = It.nil from rfl]
          go_wp2_with (first
            | (refine wpList_store_row rfl 35 (.tmp 10) (.tmp 46) rfl u1.heap.size It.nil.arr rfl rfl 35 It.nil.arr box_new (info35 _) rfl (iarr_one _) ?_; rw [← HV1.out, ← HG1.out])
            | fail)
          go_ret
          exact ⟨rfl, HBv.out⟩
        | ok q =>
          obtain ⟨y, hop⟩ := q
          have hpc := plain_clean hr.symm
          obtain ⟨v1, hv1⟩ : ∃ z, z = (u1.alloc (.cells #[.string ⟨#[]⟩, .int .i64 0, .string ⟨#[]⟩] 35)).setRow u1.heap.size y.arr := ⟨_, rfl⟩
          have x1 : Box v1 g1 35 y.arr := by rw [hv1, hg1]; exact Box.row (box_new (w := u1) (t := 35) (cs := It.nil.arr)) _
          have hn1 : Below wq.heap.size wq v1 := by rw [hv1]; exact bch hb (below_row (below_new _ _) (Nat.le_refl _) _)
          have HBv : Hid (Below w.heap.size w v1) := Lib.hid (bch HBq.out hn1)
          have HN1 := Lib.hid hn1
          have X1 := Lib.hid x1
          have HCL := Lib.hid (clean_any a s2 ha v1)
          have HPC := Lib.hid hpc
          have HR := Lib.hid hr
          have HV1 := Lib.hid hv1
          have HG1 := Lib.hid hg1
          clear hz hr hg1 hv1 hb HC x1 hn1 hpc
          rw [show errW (.ok (y, hop)) = 0 from rfl, show itW (.ok (y, hop)) = y from rfl]
          go_wp2_with (first
            | (refine wpList_store_row rfl 35 (.tmp 10) (.tmp 46) rfl u1.heap.size y.arr rfl rfl 35 It.nil.arr box_new (info35 _) rfl (iarr_one _) ?_; rw [← HV1.out, ← HG1.out])
            | fail)
          refine HCL.out.mono ?_
          rintro e u2 ⟨rfl, hb2⟩
          rw [HPC.out.2]
          have HN2 : Hid (Below wq.heap.size wq u2) := Lib.hid (bch HN1.out hb2)
          have HBu : Hid (Below w.heap.size w u2) := Lib.hid (bch HBv.out hb2)
          have X2 := Lib.hid (X1.out.on hb2)
          have z7 := (XB.out.on HN2.out).cell (k := 0) rfl
          have HCH := Lib.hid (hops_any (noL l) (.slice sa m sc) a s2 u2 (HR5.out.on HN2.out) HLN.out HSN.out (HTq.out.on HN2.out) ha)
          clear hb2 X1 HBv HN1 HCL
          go_wp2_with fail
          refine HCH.out.mono ?_
          rintro e u3 ⟨rfl, hb3⟩
          rw [← HR.out]
          have hh : hop = 0 := HPC.out.1
          subst hh
          have X3 := X2.out.on hb3
          have c0 := X3.cell (k := 0) rfl
          have HB3' : Hid (Below w.heap.size w u3) := Lib.hid (bch HBu.out hb3)
          obtain ⟨yp, hyp⟩ : ∃ q : ByteArray, q = ⟨y.path.toArray⟩ := ⟨_, rfl⟩
          have c0' : u3.cell? ⟨g1, 0, none⟩ = some (.string yp) := by rw [hyp]; exact c0
          simp only [← hyp]
          clear c0 X3 hb3 HCH X2
          go_wp2_with fail
          go_ret
          exact ⟨rfl, HB3'.out⟩
      · have d1 : decide ((s.size : Int) > 2000) = false := decide_eq_false (by omega)
        clear hlong
        go_upto_region 12 with fail
        obtain ⟨s2, hs2⟩ : ∃ q, q = s := ⟨_, rfl⟩
        rw [← hs2]
        clear hs2
        have HC := Lib.hid (HRE.out s2)
        go_wp2_with fail
        refine HC.out.mono ?_
        rintro e u1 ⟨rfl, hz, hb⟩
        obtain ⟨r, hr⟩ : ∃ r, r = walkM (noL l) a.data.toList s2.data.toList true := ⟨_, rfl⟩
        rw [← hr] at hz ⊢
        obtain ⟨g1, hg1⟩ : ∃ z, z = u1.heap.size := ⟨_, rfl⟩
        cases r with
        | error z =>
          have hzz := hz z rfl
          have t1 : (z == 0) = false := by simp [hzz]
          have t2 : (z != 0) = true := by simp [hzz]
          obtain ⟨v1, hv1⟩ : ∃ z, z = (u1.alloc (.cells #[.string ⟨#[]⟩, .int .i64 0, .string ⟨#[]⟩] 35)).setRow u1.heap.size It.nil.arr := ⟨_, rfl⟩
          have x1 : Box v1 g1 35 It.nil.arr := by rw [hv1, hg1]; exact Box.row (box_new (w := u1) (t := 35) (cs := It.nil.arr)) _
          have c0 : v1.cell? ⟨g1, 0, none⟩ = some (.string ⟨#[]⟩) := x1.cell (k := 0) rfl
          have c1 : v1.cell? ⟨g1, 1, none⟩ = some (.int .i64 0) := x1.cell (k := 1) rfl
          have c2 : v1.cell? ⟨g1, 2, none⟩ = some (.string ⟨#[]⟩) := x1.cell (k := 2) rfl
          have HBv : Hid (Below w.heap.size w v1) := Lib.hid (by rw [hv1]; exact bch HBq.out (bch hb (below_row (below_new _ _) (Nat.le_refl _) _)))
          have e35 : ∀ W, (Op.equalIn 10000 35 (.agg #[.string ⟨#[]⟩, .int .i64 0, .string ⟨#[]⟩]) (.agg #[.string ⟨#[]⟩, .int .i64 0, .string ⟨#[]⟩])).run Tryd.prog W = .ok true W := fun W => (eq35 .nil .nil W).trans (by rw [decide_eq_true rfl])
          have HV1 := Lib.hid hv1
          have HG1 := Lib.hid hg1
          clear hz hr hg1 hv1 hzz hb HC x1
          rw [show errW (.error z) = z from rfl, show itW (.error z) = It.nil from rfl]
          go_wp2_with (first
            | (refine wpList_store_row rfl 35 (.tmp 10) (.tmp 46) rfl u1.heap.size It.nil.arr rfl rfl 35 It.nil.arr box_new (info35 _) rfl (iarr_one _) ?_; rw [← HV1.out, ← HG1.out])
            | fail)
          go_ret
          exact ⟨rfl, HBv.out⟩
        | ok q =>
          obtain ⟨y, hop⟩ := q
          have hpc := plain_clean hr.symm
          obtain ⟨v1, hv1⟩ : ∃ z, z = (u1.alloc (.cells #[.string ⟨#[]⟩, .int .i64 0, .string ⟨#[]⟩] 35)).setRow u1.heap.size y.arr := ⟨_, rfl⟩
          have x1 : Box v1 g1 35 y.arr := by rw [hv1, hg1]; exact Box.row (box_new (w := u1) (t := 35) (cs := It.nil.arr)) _
          have hn1 : Below wq.heap.size wq v1 := by rw [hv1]; exact bch hb (below_row (below_new _ _) (Nat.le_refl _) _)
          have HBv : Hid (Below w.heap.size w v1) := Lib.hid (bch HBq.out hn1)
          have HN1 := Lib.hid hn1
          have X1 := Lib.hid x1
          have HCL := Lib.hid (clean_any a s2 ha v1)
          have HPC := Lib.hid hpc
          have HR := Lib.hid hr
          have HV1 := Lib.hid hv1
          have HG1 := Lib.hid hg1
          clear hz hr hg1 hv1 hb HC x1 hn1 hpc
          rw [show errW (.ok (y, hop)) = 0 from rfl, show itW (.ok (y, hop)) = y from rfl]
          go_wp2_with (first
            | (refine wpList_store_row rfl 35 (.tmp 10) (.tmp 46) rfl u1.heap.size y.arr rfl rfl 35 It.nil.arr box_new (info35 _) rfl (iarr_one _) ?_; rw [← HV1.out, ← HG1.out])
            | fail)
          refine HCL.out.mono ?_
          rintro e u2 ⟨rfl, hb2⟩
          rw [HPC.out.2]
          have HN2 : Hid (Below wq.heap.size wq u2) := Lib.hid (bch HN1.out hb2)
          have HBu : Hid (Below w.heap.size w u2) := Lib.hid (bch HBv.out hb2)
          have X2 := Lib.hid (X1.out.on hb2)
          have z7 := (XB.out.on HN2.out).cell (k := 0) rfl
          have HCH := Lib.hid (hops_any (noL l) (.slice sa m sc) a s2 u2 (HR5.out.on HN2.out) HLN.out HSN.out (HTq.out.on HN2.out) ha)
          clear hb2 X1 HBv HN1 HCL
          go_wp2_with fail
          refine HCH.out.mono ?_
          rintro e u3 ⟨rfl, hb3⟩
          rw [← HR.out]
          have hh : hop = 0 := HPC.out.1
          subst hh
          have X3 := X2.out.on hb3
          have c0 := X3.cell (k := 0) rfl
          have HB3' : Hid (Below w.heap.size w u3) := Lib.hid (bch HBu.out hb3)
          obtain ⟨yp, hyp⟩ : ∃ q : ByteArray, q = ⟨y.path.toArray⟩ := ⟨_, rfl⟩
          have c0' : u3.cell? ⟨g1, 0, none⟩ = some (.string yp) := by rw [hyp]; exact c0
          simp only [← hyp]
          clear c0 X3 hb3 HCH X2
          go_wp2_with fail
          go_ret
          exact ⟨rfl, HB3'.out⟩
end Go.Proofs.YtiakedoebecgpaaDoor
