/- Proved here: WalkEnds of puncheonlaw07 returns true, wherever the tables stand. -/
import Derived.Test.YtiakedoebecgpaaDoorWGet
import Derived.Test.YtiakedoebecgpaaDoorWWakes
namespace Go.Proofs.YtiakedoebecgpaaDoor
open Go.RowKit Go.Shelf

theorem own_shape2 {w : World} {B s n : Nat} {e : TypeId} {v : Value} {xs : List Value} (h : w.ownsRow B e s v n xs) : ∃ a c, v = .slice a n c := by
  rcases h.2 with ⟨rfl, rfl⟩ | ⟨g, cap, cur, rfl, _⟩
  · exact ⟨_, _, rfl⟩
  · exact ⟨_, _, rfl⟩
theorem eq35e (a b : It) (o : Bool) (h : decide (a = b) = o) : ∀ W, (Op.equalIn 10000 35 (.agg #[.string ⟨a.path.toArray⟩, .int .i64 a.kind, .string ⟨a.data.toArray⟩]) (.agg #[.string ⟨b.path.toArray⟩, .int .i64 b.kind, .string ⟨b.data.toArray⟩])).run Tryd.prog W = .ok o W := fun W => by rw [← h]; exact eq35 a b W

set_option maxRecDepth 100000 in
set_option maxHeartbeats 16000000 in
theorem ends_law (l0 : List It) (v : Value) (a s : ByteArray) (w : World) (hv : RdI w v l0) (hsz : ∀ x ∈ l0, x.path.length ≤ 140737488355328) (hT : Tabs w) (ha : a.size ≤ 140737488355328) :
    Calls Tryd.prog 8 #[.agg #[v], .string a, .string s] w fun e w' => e = .returned (.bool true) ∧ Below w.heap.size w w' := by
  obtain ⟨w1, hw1⟩ : ∃ z, z = w.alloc (.cells #[v] 24) := ⟨_, rfl⟩
  have X : Hid (Box w1 w.heap.size 24 #[v]) := Lib.hid (by rw [hw1]; exact box_new)
  have HB1 : Hid (Below w.heap.size w w1) := Lib.hid (by rw [hw1]; exact below_new _ _)
  have HT := Lib.hid hT
  have HV := Lib.hid hv
  obtain ⟨l, hl⟩ : ∃ l, l = l0.take 60 := ⟨_, rfl⟩
  have HL : Hid (l.length ≤ 1000000) := Lib.hid (by rw [hl, List.length_take]; omega)
  have HSZ : Hid (∀ x ∈ l, x.path.length ≤ 140737488355328) := Lib.hid (fun x hx => hsz x (List.mem_of_mem_take (by rwa [hl] at hx)))
  have HW := Lib.hid (wwakes_any w1 (hT.on HB1.out))
  obtain ⟨va, vn, vc, rfl⟩ : ∃ a n c, v = .slice a n c := by obtain ⟨a, c, e, _⟩ := HV.out; exact ⟨_, _, _, e⟩
  obtain ⟨b3, hb3⟩ : ∃ z, z = w.heap.size := ⟨_, rfl⟩
  have H3 : Hid (w.heap.size ≤ b3) := Lib.hid (by rw [hb3]; exact Nat.le_refl _)
  have HB3 := Lib.hid hb3
  rw [← hb3] at X
  have HLE := Lib.hid hl
  clear hT hsz hv hl
  go_enter Tryd.func8, Tryd.ntmps8
  go_upto_region 1 with fail
  rw [← hw1, ← HB3.out]
  clear hw1 hb3
  go_wp2_with fail
  refine HW.out.mono ?_
  rintro e w2 ⟨rfl, hb2⟩
  have x2 := X.out.on hb2
  have HB2 := Lib.hid (bch HB1.out hb2)
  have c0 := x2.cell (k := 0) rfl
  have X2 := Lib.hid x2
  have HF := Lib.hid (wfew_own l0 (.slice va vn vc) w2 (HV.out.on HB2.out))
  rw [← HLE.out] at HF
  clear hb2 X HW x2
  go_wp2_with fail
  refine HF.out.mono ?_
  rintro e w3 ⟨x3, rfl, ho3, hb3⟩
  obtain ⟨n, hn⟩ : ∃ n, n = l.length := ⟨_, rfl⟩
  have HN := Lib.hid hn
  rw [← hn] at ho3
  obtain ⟨a3, c3, rfl⟩ := own_shape2 ho3
  have X3 := Lib.hid (X2.out.on hb3)
  have HW3 := Lib.hid (bch HB2.out hb3)
  obtain ⟨w5, hw5⟩ : ∃ z, z = w3.setRow b3 #[.slice a3 n c3] := ⟨_, rfl⟩
  have x5 : Box w5 b3 24 #[.slice a3 n c3] := by rw [hw5]; exact X3.out.row _
  have hg5 : w3.grownBy w5 (some b3) := by rw [hw5]; exact grown_row _ _ _
  have HI5 : Hid (RdI w5 (.slice a3 n c3) l) := Lib.hid (by
    show RdF _ _ _ _
    rw [← HN.out]
    exact rdF_grown ho3 hg5 X2.out.lt)
  have HT5 : Hid (Tabs w5) := Lib.hid ((HT.out.on HW3.out).grown (Nat.le_trans HT.out.one H3.out) hg5)
  have HWW5 : Hid (Below w.heap.size w w5) := Lib.hid (by rw [hw5]; exact below_row HW3.out H3.out _)
  have X5 := Lib.hid x5
  have c0 := x5.cell (k := 0) rfl
  have HW5 := Lib.hid hw5
  have HC1 := Lib.hid (resolve_any l (.slice a3 n c3) a s true w5 HI5.out HL.out HSZ.out HT5.out ha)
  obtain ⟨r1, hr1⟩ : ∃ r, r = walkM l a.data.toList s.data.toList true := ⟨_, rfl⟩
  obtain ⟨r2, hr2⟩ : ∃ r, r = walkM l a.data.toList s.data.toList false := ⟨_, rfl⟩
  have hlast := walk_last l a.data.toList s.data.toList
  rw [← hr1, ← hr2] at hlast
  have HLA := Lib.hid hlast
  have HR1 := Lib.hid hr1
  have HR2 := Lib.hid hr2
  rw [← hr1] at HC1
  clear hw5 hg5 x5 ho3 hn hb3 X2 HF hr1 hr2 hlast
  go_wp2_with (first
    | (refine wpList_store_row rfl 24 (.tmp 3) (.tmp 21) rfl b3 #[.slice a3 n c3] rfl rfl 24 _ X3.out (info24 _) rfl (slice_one _ _ _) ?_; rw [← HW5.out])
    | fail)
  refine HC1.out.mono ?_
  rintro e a1 ⟨rfl, hz, hb⟩
  clear HC1 c0
  cases r1 with
  | error z =>
    have hz0 := hz z rfl
    have t1 : (z == 0) = false := by simp [hz0]
    have t2 : (z != 0) = true := by simp [hz0]
    rw [show errW (.error z) = z from rfl, show itW (.error z) = It.nil from rfl]
    obtain ⟨g1, hg1⟩ : ∃ z, z = a1.heap.size := ⟨_, rfl⟩
    obtain ⟨v1, hv1⟩ : ∃ z, z = (a1.alloc (.cells #[.string ⟨#[]⟩, .int .i64 0, .string ⟨#[]⟩] 35)).setRow a1.heap.size (It.nil).arr := ⟨_, rfl⟩
    have x1 : Box v1 g1 35 (It.nil).arr := by rw [hv1, hg1]; exact Box.row (box_new (w := a1) (t := 35) (cs := It.nil.arr)) _
    have hn : Below w5.heap.size w5 v1 := by rw [hv1]; exact bch hb (below_row (below_new _ _) (Nat.le_refl _) _)
    have K1 : Hid (Below w5.heap.size w5 v1) := Lib.hid (hn)
    have Z1 := Lib.hid x1
    have HV1 := Lib.hid hv1
    have HG1 := Lib.hid hg1
    have HH1 := Lib.hid (hops_any l (.slice a3 n c3) a s v1 (HI5.out.on K1.out) HL.out HSZ.out (HT5.out.on K1.out) ha)
    rw [← HR1.out] at HH1
    have c0 := (X5.out.on K1.out).cell (k := 0) rfl
    clear hz
    clear hv1 hg1 hn hb x1
    go_wp2_with (first
      | (refine wpList_store_row rfl 35 (.tmp 7) (.tmp 27) rfl a1.heap.size (It.nil).arr rfl rfl 35 It.nil.arr box_new (info35 _) rfl (iarr_one _) ?_; rw [← HV1.out, ← HG1.out])
      | fail)
    refine HH1.out.mono ?_
    rintro e u1 ⟨rfl, hb⟩
    have KU1 : Hid (Below w5.heap.size w5 u1) := Lib.hid (bch K1.out hb)
    have Z1 := Lib.hid (Z1.out.on hb)
    clear hb HH1 c0
    rw [show errW (.error z) = z from rfl, show hopW (.error z) = 0 from rfl]
    have c70 : u1.cell? ⟨g1, 0, none⟩ = some (.string ⟨#[]⟩) := Z1.out.cell (k := 0) rfl
    have c71 : u1.cell? ⟨g1, 1, none⟩ = some (.int .i64 0) := Z1.out.cell (k := 1) rfl
    have c72 : u1.cell? ⟨g1, 2, none⟩ = some (.string ⟨#[]⟩) := Z1.out.cell (k := 2) rfl
    have e35 : ∀ W, (Op.equalIn 10000 35 (.agg #[.string ⟨#[]⟩, .int .i64 0, .string ⟨#[]⟩]) (.agg #[.string ⟨#[]⟩, .int .i64 0, .string ⟨#[]⟩])).run Tryd.prog W = .ok true W := eq35e .nil .nil true (decide_eq_true rfl)
    have c0 := (X5.out.on KU1.out).cell (k := 0) rfl
    have HC2 := Lib.hid (resolve_any l (.slice a3 n c3) a s false u1 (HI5.out.on KU1.out) HL.out HSZ.out (HT5.out.on KU1.out) ha)
    rw [← HR2.out] at HC2
    go_wp2_with fail
    refine HC2.out.mono ?_
    rintro e a4 ⟨rfl, hz4, hb⟩
    clear HC2 c0 c70 c71 c72
    rcases HLA.out with he | ⟨y, k, he, hk⟩
    · subst he
      have hz5 := hz4 z rfl
      clear hz4 hz5
      rw [show errW (.error z) = z from rfl, show itW (.error z) = It.nil from rfl]
      obtain ⟨a5, ha5⟩ : ∃ q, q = a4 := ⟨_, rfl⟩
      rw [← ha5] at hb ⊢
      clear ha5
      obtain ⟨g5, hg5⟩ : ∃ z, z = a5.heap.size := ⟨_, rfl⟩
      obtain ⟨v5, hv5⟩ : ∃ z, z = (a5.alloc (.cells #[.string ⟨#[]⟩, .int .i64 0, .string ⟨#[]⟩] 35)).setRow a5.heap.size (It.nil).arr := ⟨_, rfl⟩
      have x5 : Box v5 g5 35 (It.nil).arr := by rw [hv5, hg5]; exact Box.row (box_new (w := a5) (t := 35) (cs := It.nil.arr)) _
      have hn : Below u1.heap.size u1 v5 := by rw [hv5]; exact bch hb (below_row (below_new _ _) (Nat.le_refl _) _)
      have K5 : Hid (Below w5.heap.size w5 v5) := Lib.hid (bch KU1.out hn)
      have Z5 := Lib.hid x5
      have Z1 := Lib.hid (Z1.out.on hn)
      have HV5 := Lib.hid hv5
      have HG5 := Lib.hid hg5
      have d0 : v5.cell? ⟨g5, 0, none⟩ = some (.string ⟨#[]⟩) := Z5.out.cell (k := 0) rfl
      have d1 : v5.cell? ⟨g5, 1, none⟩ = some (.int .i64 0) := Z5.out.cell (k := 1) rfl
      have d2 : v5.cell? ⟨g5, 2, none⟩ = some (.string ⟨#[]⟩) := Z5.out.cell (k := 2) rfl
      clear hv5 hg5 hn hb x5
      go_wp2_with (first
        | (refine wpList_store_row rfl 35 (.tmp 17) (.tmp 117) rfl a5.heap.size (It.nil).arr rfl rfl 35 It.nil.arr box_new (info35 _) rfl (iarr_one _) ?_; rw [← HV5.out, ← HG5.out])
        | fail)
      go_ret
      exact ⟨rfl, bch HWW5.out K5.out⟩
    · subst he
      clear hz4
      have s1 : (y.kind == 3) = true := by simp [hk]
      have s2 : (y.kind != 3) = false := by simp [hk]
      rw [show errW (.ok (y, k)) = 0 from rfl, show itW (.ok (y, k)) = y from rfl]
      obtain ⟨a5, ha5⟩ : ∃ q, q = a4 := ⟨_, rfl⟩
      rw [← ha5] at hb ⊢
      clear ha5 hk
      obtain ⟨g5, hg5⟩ : ∃ z, z = a5.heap.size := ⟨_, rfl⟩
      obtain ⟨v5, hv5⟩ : ∃ z, z = (a5.alloc (.cells #[.string ⟨#[]⟩, .int .i64 0, .string ⟨#[]⟩] 35)).setRow a5.heap.size (y).arr := ⟨_, rfl⟩
      have x5 : Box v5 g5 35 (y).arr := by rw [hv5, hg5]; exact Box.row (box_new (w := a5) (t := 35) (cs := It.nil.arr)) _
      have hn : Below u1.heap.size u1 v5 := by rw [hv5]; exact bch hb (below_row (below_new _ _) (Nat.le_refl _) _)
      have K5 : Hid (Below w5.heap.size w5 v5) := Lib.hid (bch KU1.out hn)
      have Z5 := Lib.hid x5
      have Z1 := Lib.hid (Z1.out.on hn)
      have HV5 := Lib.hid hv5
      have HG5 := Lib.hid hg5
      have d0 : v5.cell? ⟨g5, 0, none⟩ = some (.string ⟨y.path.toArray⟩) := Z5.out.cell (k := 0) rfl
      have d1 : v5.cell? ⟨g5, 1, none⟩ = some (.int .i64 y.kind) := Z5.out.cell (k := 1) rfl
      have d2 : v5.cell? ⟨g5, 2, none⟩ = some (.string ⟨y.data.toArray⟩) := Z5.out.cell (k := 2) rfl
      clear hv5 hg5 hn hb x5
      go_wp2_with (first
        | (refine wpList_store_row rfl 35 (.tmp 17) (.tmp 117) rfl a5.heap.size (y).arr rfl rfl 35 It.nil.arr box_new (info35 _) rfl (iarr_one _) ?_; rw [← HV5.out, ← HG5.out])
        | fail)
      go_ret
      exact ⟨rfl, bch HWW5.out K5.out⟩
  | ok q =>
    obtain ⟨x, m⟩ := q
    have hends := walk_ends HR1.out.symm
    have hself := walk_self hends.1 true x hends.2.1 hends.2.2.1
    have HOK : Hid (TreeOk l) := Lib.hid ((valid_tree l).1 hends.1)
    have HHE : Hid (Here l x) := Lib.hid hends.2.1
    have HSE := Lib.hid hself
    have hk3 := hends.2.2.1 rfl
    have hn40 := hends.2.2.2
    have t1 : (x.kind == 3) = false := by simp [hk3]
    have t2 : (x.kind != 3) = true := by simp [hk3]
    have t3 : decide ((m : Int) > 40) = false := decide_eq_false (by omega)
    have t4 : ¬ ((40 : Int) < (m : Int)) := by omega
    have t5 : ¬ (40 < m) := by omega
    have t6 : decide ((m : Int) < 0) = false := decide_eq_false (by omega)
    have t7 : ¬ ((m : Int) < 0) := by omega
    have t8 : (0 : Int) ≤ (m : Int) := by omega
    rw [show errW (.ok (x, m)) = 0 from rfl, show itW (.ok (x, m)) = x from rfl]
    clear hends hself
    obtain ⟨g1, hg1⟩ : ∃ z, z = a1.heap.size := ⟨_, rfl⟩
    obtain ⟨v1, hv1⟩ : ∃ z, z = (a1.alloc (.cells #[.string ⟨#[]⟩, .int .i64 0, .string ⟨#[]⟩] 35)).setRow a1.heap.size (x).arr := ⟨_, rfl⟩
    have x1 : Box v1 g1 35 (x).arr := by rw [hv1, hg1]; exact Box.row (box_new (w := a1) (t := 35) (cs := It.nil.arr)) _
    have hn : Below w5.heap.size w5 v1 := by rw [hv1]; exact bch hb (below_row (below_new _ _) (Nat.le_refl _) _)
    have K1 : Hid (Below w5.heap.size w5 v1) := Lib.hid (hn)
    have Z1 := Lib.hid x1
    have HV1 := Lib.hid hv1
    have HG1 := Lib.hid hg1
    have HH1 := Lib.hid (hops_any l (.slice a3 n c3) a s v1 (HI5.out.on K1.out) HL.out HSZ.out (HT5.out.on K1.out) ha)
    rw [← HR1.out] at HH1
    have c0 := (X5.out.on K1.out).cell (k := 0) rfl
    clear hz
    clear hv1 hg1 hn hb x1
    go_wp2_with (first
      | (refine wpList_store_row rfl 35 (.tmp 7) (.tmp 27) rfl a1.heap.size (x).arr rfl rfl 35 It.nil.arr box_new (info35 _) rfl (iarr_one _) ?_; rw [← HV1.out, ← HG1.out])
      | fail)
    refine HH1.out.mono ?_
    rintro e u1 ⟨rfl, hb⟩
    have KU1 : Hid (Below w5.heap.size w5 u1) := Lib.hid (bch K1.out hb)
    have Z1 := Lib.hid (Z1.out.on hb)
    clear hb HH1 c0
    rw [show errW (.ok (x, m)) = 0 from rfl, show hopW (.ok (x, m)) = m from rfl]
    have c70 : u1.cell? ⟨g1, 0, none⟩ = some (.string ⟨x.path.toArray⟩) := Z1.out.cell (k := 0) rfl
    have c71 : u1.cell? ⟨g1, 1, none⟩ = some (.int .i64 x.kind) := Z1.out.cell (k := 1) rfl
    have c72 : u1.cell? ⟨g1, 2, none⟩ = some (.string ⟨x.data.toArray⟩) := Z1.out.cell (k := 2) rfl
    have c0 := (X5.out.on KU1.out).cell (k := 0) rfl
    have HG2 := Lib.hid (get_any l (.slice a3 n c3) x HOK.out HHE.out u1 (HI5.out.on KU1.out) HSZ.out (HT5.out.on KU1.out))
    go_wp2_with fail
    refine HG2.out.mono ?_
    rintro e a2 ⟨rfl, hb⟩
    clear c70 c71 c72 c0 HG2
    obtain ⟨g2, hg2⟩ : ∃ z, z = a2.heap.size := ⟨_, rfl⟩
    obtain ⟨v2, hv2⟩ : ∃ z, z = (a2.alloc (.cells #[.string ⟨#[]⟩, .int .i64 0, .string ⟨#[]⟩] 35)).setRow a2.heap.size (x).arr := ⟨_, rfl⟩
    have x2 : Box v2 g2 35 (x).arr := by rw [hv2, hg2]; exact Box.row (box_new (w := a2) (t := 35) (cs := It.nil.arr)) _
    have hn : Below u1.heap.size u1 v2 := by rw [hv2]; exact bch hb (below_row (below_new _ _) (Nat.le_refl _) _)
    have K2 : Hid (Below w5.heap.size w5 v2) := Lib.hid (bch KU1.out hn)
    have Z2 := Lib.hid x2
    have Z1 := Lib.hid (Z1.out.on hn)
    have HV2 := Lib.hid hv2
    have HG2 := Lib.hid hg2
    have HC2 : Hid (Calls Tryd.prog 23 #[.agg #[.slice a3 n c3], .string ⟨#[47]⟩, .string ⟨x.path.toArray⟩, .bool true] v2 (ItR (walkM l [47] x.path true) v2)) := Lib.hid (by have := resolve_any l (.slice a3 n c3) ⟨#[47]⟩ ⟨x.path.toArray⟩ true v2 (HI5.out.on K2.out) HL.out HSZ.out (HT5.out.on K2.out) (by decide); simpa using this)
    rw [HSE.out] at HC2
    have c70 : v2.cell? ⟨g1, 0, none⟩ = some (.string ⟨x.path.toArray⟩) := Z1.out.cell (k := 0) rfl
    have c0 := (X5.out.on K2.out).cell (k := 0) rfl
    clear hv2 hg2 hn hb x2
    go_wp2_with (first
      | (refine wpList_store_row rfl 35 (.tmp 11) (.tmp 59) rfl a2.heap.size (x).arr rfl rfl 35 It.nil.arr box_new (info35 _) rfl (iarr_one _) ?_; rw [← HV2.out, ← HG2.out])
      | fail)
    refine HC2.out.mono ?_
    rintro e a3' ⟨rfl, hz3, hb⟩
    rw [show errW (.ok (x, 0)) = 0 from rfl, show itW (.ok (x, 0)) = x from rfl]
    clear hz3 c70 c0 HC2
    obtain ⟨a9, ha9⟩ : ∃ q, q = a3' := ⟨_, rfl⟩
    rw [← ha9] at hb ⊢
    clear ha9
    obtain ⟨g9, hg9⟩ : ∃ z, z = a9.heap.size := ⟨_, rfl⟩
    obtain ⟨v9, hv9⟩ : ∃ z, z = (a9.alloc (.cells #[.string ⟨#[]⟩, .int .i64 0, .string ⟨#[]⟩] 35)).setRow a9.heap.size (x).arr := ⟨_, rfl⟩
    have x9 : Box v9 g9 35 (x).arr := by rw [hv9, hg9]; exact Box.row (box_new (w := a9) (t := 35) (cs := It.nil.arr)) _
    have hn : Below v2.heap.size v2 v9 := by rw [hv9]; exact bch hb (below_row (below_new _ _) (Nat.le_refl _) _)
    have K9 : Hid (Below w5.heap.size w5 v9) := Lib.hid (bch K2.out hn)
    have Z9 := Lib.hid x9
    have Z1 := Lib.hid (Z1.out.on hn)
    have Z2 := Lib.hid (Z2.out.on hn)
    have HV9 := Lib.hid hv9
    have HG9 := Lib.hid hg9
    have HH3 := Lib.hid (hops_any l (.slice a3 n c3) ⟨#[47]⟩ ⟨x.path.toArray⟩ v9 (HI5.out.on K9.out) HL.out HSZ.out (HT5.out.on K9.out) (by decide))
    rw [show (⟨#[47]⟩ : ByteArray).data.toList = [47] from rfl, show (⟨x.path.toArray⟩ : ByteArray).data.toList = x.path from by simp, HSE.out] at HH3
    have c70 : v9.cell? ⟨g1, 0, none⟩ = some (.string ⟨x.path.toArray⟩) := Z1.out.cell (k := 0) rfl
    have c0 := (X5.out.on K9.out).cell (k := 0) rfl
    clear hv9 hg9 hn hb x9
    go_wp2_with (first
      | (refine wpList_store_row rfl 35 (.tmp 13) (.tmp 66) rfl a9.heap.size (x).arr rfl rfl 35 It.nil.arr box_new (info35 _) rfl (iarr_one _) ?_; rw [← HV9.out, ← HG9.out])
      | fail)
    refine HH3.out.mono ?_
    rintro e u9 ⟨rfl, hb⟩
    rw [show errW (.ok (x, 0)) = 0 from rfl, show hopW (.ok (x, 0)) = 0 from rfl]
    have KU9 : Hid (Below w5.heap.size w5 u9) := Lib.hid (bch K9.out hb)
    have Z1 := Lib.hid (Z1.out.on hb)
    have Z2 := Lib.hid (Z2.out.on hb)
    have Z9 := Lib.hid (Z9.out.on hb)
    clear hb HH3 c70 c0
    have c70 : u9.cell? ⟨g1, 0, none⟩ = some (.string ⟨x.path.toArray⟩) := Z1.out.cell (k := 0) rfl
    have c71 : u9.cell? ⟨g1, 1, none⟩ = some (.int .i64 x.kind) := Z1.out.cell (k := 1) rfl
    have c72 : u9.cell? ⟨g1, 2, none⟩ = some (.string ⟨x.data.toArray⟩) := Z1.out.cell (k := 2) rfl
    have c20 : u9.cell? ⟨g2, 0, none⟩ = some (.string ⟨x.path.toArray⟩) := Z2.out.cell (k := 0) rfl
    have c21 : u9.cell? ⟨g2, 1, none⟩ = some (.int .i64 x.kind) := Z2.out.cell (k := 1) rfl
    have c22 : u9.cell? ⟨g2, 2, none⟩ = some (.string ⟨x.data.toArray⟩) := Z2.out.cell (k := 2) rfl
    have c90 : u9.cell? ⟨g9, 0, none⟩ = some (.string ⟨x.path.toArray⟩) := Z9.out.cell (k := 0) rfl
    have c91 : u9.cell? ⟨g9, 1, none⟩ = some (.int .i64 x.kind) := Z9.out.cell (k := 1) rfl
    have c92 : u9.cell? ⟨g9, 2, none⟩ = some (.string ⟨x.data.toArray⟩) := Z9.out.cell (k := 2) rfl
    have c0 := (X5.out.on KU9.out).cell (k := 0) rfl
    have e35 := eq35e x x true (decide_eq_true rfl)
    have HC2 := Lib.hid (resolve_any l (.slice a3 n c3) a s false u9 (HI5.out.on KU9.out) HL.out HSZ.out (HT5.out.on KU9.out) ha)
    rw [← HR2.out] at HC2
    go_wp2_with fail
    refine HC2.out.mono ?_
    rintro e a4 ⟨rfl, hz4, hb⟩
    clear HC2 c0 c70 c71 c72 c20 c21 c22 c90 c91 c92 e35
    rcases HLA.out with he | ⟨y, k, he, hk⟩
    · subst he
      clear hz4
      rw [show errW (.ok (x, m)) = 0 from rfl, show itW (.ok (x, m)) = x from rfl]
      obtain ⟨a5, ha5⟩ : ∃ q, q = a4 := ⟨_, rfl⟩
      rw [← ha5] at hb ⊢
      clear ha5
      obtain ⟨g5, hg5⟩ : ∃ z, z = a5.heap.size := ⟨_, rfl⟩
      obtain ⟨v5, hv5⟩ : ∃ z, z = (a5.alloc (.cells #[.string ⟨#[]⟩, .int .i64 0, .string ⟨#[]⟩] 35)).setRow a5.heap.size (x).arr := ⟨_, rfl⟩
      have x5 : Box v5 g5 35 (x).arr := by rw [hv5, hg5]; exact Box.row (box_new (w := a5) (t := 35) (cs := It.nil.arr)) _
      have hn : Below u9.heap.size u9 v5 := by rw [hv5]; exact bch hb (below_row (below_new _ _) (Nat.le_refl _) _)
      have K5 : Hid (Below w5.heap.size w5 v5) := Lib.hid (bch KU9.out hn)
      have Z5 := Lib.hid x5
      have Z1 := Lib.hid (Z1.out.on hn)
      have HV5 := Lib.hid hv5
      have HG5 := Lib.hid hg5
      have d0 : v5.cell? ⟨g5, 0, none⟩ = some (.string ⟨x.path.toArray⟩) := Z5.out.cell (k := 0) rfl
      have d1 : v5.cell? ⟨g5, 1, none⟩ = some (.int .i64 x.kind) := Z5.out.cell (k := 1) rfl
      have d2 : v5.cell? ⟨g5, 2, none⟩ = some (.string ⟨x.data.toArray⟩) := Z5.out.cell (k := 2) rfl
      have c70 : v5.cell? ⟨g1, 0, none⟩ = some (.string ⟨x.path.toArray⟩) := Z1.out.cell (k := 0) rfl
      have c71 : v5.cell? ⟨g1, 1, none⟩ = some (.int .i64 x.kind) := Z1.out.cell (k := 1) rfl
      have c72 : v5.cell? ⟨g1, 2, none⟩ = some (.string ⟨x.data.toArray⟩) := Z1.out.cell (k := 2) rfl
      have e35 := eq35e x x true (decide_eq_true rfl)
      clear hv5 hg5 hn hb x5
      go_wp2_with (first
        | (refine wpList_store_row rfl 35 (.tmp 17) (.tmp 117) rfl a5.heap.size (x).arr rfl rfl 35 It.nil.arr box_new (info35 _) rfl (iarr_one _) ?_; rw [← HV5.out, ← HG5.out])
        | fail)
      go_ret
      exact ⟨rfl, bch HWW5.out K5.out⟩
    · subst he
      clear hz4
      have s1 : (y.kind == 3) = true := by simp [hk]
      have s2 : (y.kind != 3) = false := by simp [hk]
      rw [show errW (.ok (y, k)) = 0 from rfl, show itW (.ok (y, k)) = y from rfl]
      obtain ⟨a5, ha5⟩ : ∃ q, q = a4 := ⟨_, rfl⟩
      rw [← ha5] at hb ⊢
      clear ha5 hk
      obtain ⟨g5, hg5⟩ : ∃ z, z = a5.heap.size := ⟨_, rfl⟩
      obtain ⟨v5, hv5⟩ : ∃ z, z = (a5.alloc (.cells #[.string ⟨#[]⟩, .int .i64 0, .string ⟨#[]⟩] 35)).setRow a5.heap.size (y).arr := ⟨_, rfl⟩
      have x5 : Box v5 g5 35 (y).arr := by rw [hv5, hg5]; exact Box.row (box_new (w := a5) (t := 35) (cs := It.nil.arr)) _
      have hn : Below u9.heap.size u9 v5 := by rw [hv5]; exact bch hb (below_row (below_new _ _) (Nat.le_refl _) _)
      have K5 : Hid (Below w5.heap.size w5 v5) := Lib.hid (bch KU9.out hn)
      have Z5 := Lib.hid x5
      have Z1 := Lib.hid (Z1.out.on hn)
      have HV5 := Lib.hid hv5
      have HG5 := Lib.hid hg5
      have d0 : v5.cell? ⟨g5, 0, none⟩ = some (.string ⟨y.path.toArray⟩) := Z5.out.cell (k := 0) rfl
      have d1 : v5.cell? ⟨g5, 1, none⟩ = some (.int .i64 y.kind) := Z5.out.cell (k := 1) rfl
      have d2 : v5.cell? ⟨g5, 2, none⟩ = some (.string ⟨y.data.toArray⟩) := Z5.out.cell (k := 2) rfl
      clear hv5 hg5 hn hb x5
      go_wp2_with (first
        | (refine wpList_store_row rfl 35 (.tmp 17) (.tmp 117) rfl a5.heap.size (y).arr rfl rfl 35 It.nil.arr box_new (info35 _) rfl (iarr_one _) ?_; rw [← HV5.out, ← HG5.out])
        | fail)
      go_ret
      exact ⟨rfl, bch HWW5.out K5.out⟩
end Go.Proofs.YtiakedoebecgpaaDoor
