/- Proved here: slices.SortFunc by version's compare, at a row of at most twelve versions of the call's own: behind it the row holds the same versions, in order. -/
import Derived.Test.YtjekibhaabkecaaDoorRow
import Derived.Test.YtjekibhaabkecaaDoorOrder
import Derived.StillTailTactics
import Derived.BigRegion
import Derived.Shelf.Small.Bits
namespace Go.Proofs.YtjekibhaabkecaaDoor
open Go.RowKit Go.Shelf

def Tryd.lays125_ren : Go.Shelf.Ren := ⟨fun | 125 => 49 | 128 => 66 | 129 => 67 | n => n, fun | 46 => 78 | 3 => 3 | 51 => 96 | 53 => 98 | 4 => 4 | 5 => 5 | 9 => 9 | n => n, fun | n => n⟩
theorem Tryd.lays125 : Go.Proofs.Lays.n125 Tryd.prog Tryd.lays125_ren := {
  mixed := by kernel_rfl
  f125 := Tryd.func49.trans (congrArg some (by kernel_rfl))
  f128 := Tryd.func66.trans (congrArg some (by kernel_rfl))
  f129 := Tryd.func67.trans (congrArg some (by kernel_rfl))
  t3 := Tryd.underlying3
  a3 := Tryd.isAgg3
  z3 := Tryd.sizeOf3
  v3 := Tryd.zeroValue3
  t4 := Tryd.underlying4
  a4 := Tryd.isAgg4
  z4 := Tryd.sizeOf4
  v4 := Tryd.zeroValue4
  t5 := Tryd.underlying5
  a5 := Tryd.isAgg5
  z5 := Tryd.sizeOf5
  v5 := Tryd.zeroValue5
  t9 := Tryd.underlying9
  a9 := Tryd.isAgg9
  z9 := Tryd.sizeOf9
  v9 := Tryd.zeroValue9
  t46 := Tryd.underlying78
  a46 := Tryd.isAgg78
  z46 := Tryd.sizeOf78
  v46 := Tryd.zeroValue78
  t51 := Tryd.underlying96
  a51 := Tryd.isAgg96
  z51 := Tryd.sizeOf96
  v51 := Tryd.zeroValue96
  t53 := Tryd.underlying98
  a53 := Tryd.isAgg98
  z53 := Tryd.sizeOf98
  v53 := Tryd.zeroValue98 }
theorem bits_Len (x : Int) (w : World) (h0 : 0 ≤ x) (h1 : x ≤ 18446744073709551615) :
    Calls Tryd.prog 49 #[.int .u64 x] w fun e w' => e = .returned (.int .i64 (Lib.bitLen x.toNat)) ∧ w' = w := Any.bits_Len Tryd.lays125 x w h0 h1
def SortedP (l : List Ver) : Prop := l.Pairwise fun a b => cmpV a b ≤ 0
theorem cmpV_le (a b d : Ver) (h1 : cmpV a b ≤ 0) (h2 : cmpV b d ≤ 0) : cmpV a d ≤ 0 := (good_cmpV.tr a b d h1 h2).1
theorem cmpV_flip (a b : Ver) : cmpV b a = -(cmpV a b) := good_cmpV.anti a b
theorem insert_here (A B : List Ver) (x : Ver) (hs : SortedP (A ++ B)) (hB : ∀ b ∈ B, cmpV x b < 0) (hA : ∀ a, A.getLast? = some a → ¬ cmpV x a < 0) : SortedP (A ++ x :: B) := by
  unfold SortedP at hs ⊢
  rw [List.pairwise_append] at hs ⊢
  obtain ⟨h1, h2, h3⟩ := hs
  have hxA : ∀ a ∈ A, cmpV a x ≤ 0 := fun a ha => by
    obtain ⟨A', z, rfl⟩ : ∃ A' z, A = A' ++ [z] := ⟨_, _, (List.dropLast_concat_getLast (List.ne_nil_of_mem ha)).symm⟩
    have hz := hA z (by simp)
    have e := cmpV_flip x z
    rcases List.mem_append.1 ha with ha | ha
    · exact cmpV_le a z x ((List.pairwise_append.1 h1).2.2 a ha z (by simp)) (by omega)
    · obtain rfl := List.mem_singleton.1 ha
      omega
  refine ⟨h1, List.Pairwise.cons (fun b hb => by have := hB b hb; omega) h2, fun a ha b hb => ?_⟩
  rcases List.mem_cons.1 hb with rfl | hb
  · exact hxA a ha
  · exact h3 a ha b hb
/-- The row of the call's own, in whatever order. -/
def RowV (B g cap : Nat) (l : List Ver) (w : World) : Prop := w.ownsRow B 26 7 (.slice (some ⟨g, 0, none⟩) l.length cap) l.length (flatV l)
theorem owns_below {w w' : World} {base n s : Nat} {v : Value} {t : TypeId} {xs : List Value} (h : w.ownsRow base t s v n xs) (hb : Below w.heap.size w w') : w'.ownsRow base t s v n xs := by
  obtain ⟨h1, h2⟩ := h
  exact ⟨h1, h2.imp id fun ⟨g, cap, cur, hv, hg, hh, r⟩ => ⟨g, cap, cur, hv, hg, (hb.block g (Array.getElem?_eq_some_iff.1 hh).1).trans hh, r⟩⟩
theorem row_below {B g cap : Nat} {l : List Ver} {w w' : World} (h : RowV B g cap l w) (hb : Below w.heap.size w w') : RowV B g cap l w' := owns_below h hb
theorem row_drew {B g cap : Nat} {l : List Ver} {w : World} (h : RowV B g cap l w) : RowV B g cap l w.drew := h
theorem row_cell {B g cap : Nat} {l : List Ver} {w : World} (h : RowV B g cap l w) (j : Nat) (v : Ver) (hj : l[j]? = some v) :
    w.cell? ⟨g, j * 7, none⟩ = some (.int .i64 v.n0) ∧ w.cell? ⟨g, j * 7 + 1, none⟩ = some (.int .i64 v.n1) ∧ w.cell? ⟨g, j * 7 + 2, none⟩ = some (.int .i64 v.n2) ∧ w.cell? ⟨g, j * 7 + 3, none⟩ = some (.int .i64 v.n3) ∧ w.cell? ⟨g, j * 7 + 4, none⟩ = some (.int .i64 v.many) ∧ w.cell? ⟨g, j * 7 + 5, none⟩ = some (.string v.tag) ∧ w.cell? ⟨g, j * 7 + 6, none⟩ = some (.int .i64 v.step) := by
  have key : ∀ r u, r < 7 → v.cells[r]? = some u → w.cell? ⟨g, j * 7 + r, none⟩ = some u := fun r u hr hu => by
    have := flat7 l j r hr
    rw [hj] at this
    have h2 := h.cells (g := g) rfl (j * 7 + r) u (this.trans hu)
    rw [add_to, Nat.zero_add] at h2
    exact h2
  exact ⟨key 0 _ (by omega) rfl, key 1 _ (by omega) rfl, key 2 _ (by omega) rfl, key 3 _ (by omega) rfl, key 4 _ (by omega) rfl, key 5 _ (by omega) rfl, key 6 _ (by omega) rfl⟩
theorem owns_set {w : World} {B g n cap s : Nat} {e : TypeId} {xs : List Value} (h : w.ownsRow B e s (.slice (some ⟨g, 0, none⟩) n cap) n xs) (j : Nat) (u : Value) :
    (w.setCell ⟨g, j, none⟩ u).ownsRow B e s (.slice (some ⟨g, 0, none⟩) n cap) n (xs.set j u) := by
  obtain ⟨h1, h2⟩ := h
  rcases h2 with ⟨h0, _⟩ | ⟨g', cap', cur, hv, hg, hh, hn, hcap, hsz, htake⟩
  · cases h0
  · cases hv
    refine ⟨by rw [List.length_set]; exact h1, .inr ⟨g, cap, cur.setIfInBounds j u, rfl, hg, ?_, hn, hcap, by rw [Array.size_setIfInBounds]; exact hsz, ?_⟩⟩
    · simp [World.setCell, Array.getElem?_modify, hh]
    · rw [Array.toList_setIfInBounds, List.take_set, htake]
/-- A version is put into its place of a row. -/
def set7 (w : World) (g j : Nat) (v : Ver) : World :=
  ((((((w.setCell ⟨g, j * 7, none⟩ (.int .i64 v.n0)).setCell ⟨g, j * 7 + 1, none⟩ (.int .i64 v.n1)).setCell ⟨g, j * 7 + 2, none⟩ (.int .i64 v.n2)).setCell ⟨g, j * 7 + 3, none⟩ (.int .i64 v.n3)).setCell ⟨g, j * 7 + 4, none⟩ (.int .i64 v.many)).setCell ⟨g, j * 7 + 5, none⟩ (.string v.tag)).setCell ⟨g, j * 7 + 6, none⟩ (.int .i64 v.step)
theorem set7_other (w : World) (g j : Nat) (v : Ver) (k : Nat) (hk : k < j * 7 ∨ j * 7 + 6 < k) : (set7 w g j v).cell? ⟨g, k, none⟩ = w.cell? ⟨g, k, none⟩ := by
  have far : ∀ (X : World) (q : Nat) (u : Value), q ≠ k → (X.setCell ⟨g, q, none⟩ u).cell? ⟨g, k, none⟩ = X.cell? ⟨g, k, none⟩ := fun X q u hq => World.cell?_setCell_other _ _ _ _ (fun e => hq (by simp only [Addr.mk.injEq] at e; omega))
  unfold set7
  rw [far _ _ _ (by omega), far _ _ _ (by omega), far _ _ _ (by omega), far _ _ _ (by omega), far _ _ _ (by omega), far _ _ _ (by omega), far _ _ _ (by omega)]
theorem set7_below {B g : Nat} {a w : World} (h : Below B a w) (hg : B ≤ g) (j : Nat) (v : Ver) : Below B a (set7 w g j v) :=
  ((((((h.setCell (p := ⟨g, _, none⟩) hg _).setCell (p := ⟨g, _, none⟩) hg _).setCell (p := ⟨g, _, none⟩) hg _).setCell (p := ⟨g, _, none⟩) hg _).setCell (p := ⟨g, _, none⟩) hg _).setCell (p := ⟨g, _, none⟩) hg _).setCell (p := ⟨g, _, none⟩) hg _
theorem flat_set (l : List Ver) (j : Nat) (v : Ver) (hj : j < l.length) : (((((((flatV l).set (j * 7) (.int .i64 v.n0)).set (j * 7 + 1) (.int .i64 v.n1)).set (j * 7 + 2) (.int .i64 v.n2)).set (j * 7 + 3) (.int .i64 v.n3)).set (j * 7 + 4) (.int .i64 v.many)).set (j * 7 + 5) (.string v.tag)).set (j * 7 + 6) (.int .i64 v.step) = flatV (l.set j v) := by
  induction l generalizing j with
  | nil => simp at hj
  | cons a l ih =>
    cases j with
    | zero => rfl
    | succ j =>
      have sh : ∀ (xs : List Value) (r : Nat) (u : Value), (a.cells ++ xs).set ((j + 1) * 7 + r) u = a.cells ++ xs.set (j * 7 + r) u := fun xs r u => by
        rw [List.set_append_right _ _ (by rw [cells_len]; omega), cells_len, show (j + 1) * 7 + r - 7 = j * 7 + r by omega]
      have sh0 : ∀ (xs : List Value) (u : Value), (a.cells ++ xs).set ((j + 1) * 7) u = a.cells ++ xs.set (j * 7) u := fun xs u => sh xs 0 u
      rw [flatV_cons, List.set_cons_succ, flatV_cons, sh0, sh, sh, sh, sh, sh, sh, ih j (by simpa using hj)]
theorem row_set {B g cap : Nat} {l : List Ver} {w : World} (h : RowV B g cap l w) (j : Nat) (v : Ver) (hj : j < l.length) : RowV B g cap (l.set j v) (set7 w g j v) := by
  unfold RowV set7
  rw [List.length_set, ← flat_set l j v hj]
  exact owns_set (owns_set (owns_set (owns_set (owns_set (owns_set (owns_set h _ _) _ _) _ _) _ _) _ _) _ _) _ _
theorem set2 (A' C R : List Ver) (a x : Ver) : ((A' ++ [a] ++ x :: C ++ R).set (A'.length + 1) a).set A'.length x = A' ++ x :: (a :: C) ++ R := by
  have e1 : A' ++ [a] ++ x :: C ++ R = (A' ++ [a]) ++ (x :: (C ++ R)) := by simp
  rw [e1, List.set_append_right _ _ (by simp)]
  have e2 : A'.length + 1 - (A' ++ [a]).length = 0 := by simp
  rw [e2, List.set_cons_zero]
  have e3 : A' ++ [a] ++ a :: (C ++ R) = A' ++ (a :: (a :: (C ++ R))) := by simp
  rw [e3, List.set_append_right _ _ (by simp), Nat.sub_self, List.set_cons_zero]
  simp
theorem take_ins (A C R : List Ver) (x : Ver) (k : Nat) (h : A.length + C.length = k) : (A ++ x :: C ++ R).take (k + 1) = A ++ x :: C := by
  have e : (A ++ x :: C).length = k + 1 := by simp; omega
  rw [List.take_append_of_le_length (by omega), List.take_of_length_le (by omega)]
theorem cmp_at (x a : Ver) (c : Int) (hc : cmpV x a = c) (w : World) : Calls Tryd.prog 33 #[.agg #[.int .i64 x.n0, .int .i64 x.n1, .int .i64 x.n2, .int .i64 x.n3, .int .i64 x.many, .string x.tag, .int .i64 x.step], .agg #[.int .i64 a.n0, .int .i64 a.n1, .int .i64 a.n2, .int .i64 a.n3, .int .i64 a.many, .string a.tag, .int .i64 a.step]] w fun e w' => e = .returned (.int .i64 c) ∧ Below w.heap.size w w' := by
  rw [← hc]; exact compare_any x a w

set_option maxRecDepth 100000 in
set_option maxHeartbeats 4000000 in
theorem ins_any (B g n cap : Nat) (l0 : List Ver) (w : World) (hn : l0.length = n) (hn12 : n ≤ 12) (hrow : RowV B g cap l0 w) (hB : B ≤ w.heap.size) :
    Calls Tryd.prog 58 #[.slice (some ⟨g, 0, none⟩) n cap, .int .i64 0, .int .i64 (n : Int), .func (.func 33) #[] #[]] w fun e w' => e = .returned (.tuple #[]) ∧ ∃ l, l.Perm l0 ∧ SortedP l ∧ RowV B g cap l w' ∧ Below B w w' := by
  have HN := Lib.hid hn
  have HR0 := Lib.hid hrow
  have hgB : B ≤ g := (hrow.lt g rfl).1
  have hn' : (n : Int) ≤ 12 := by omega
  clear hn hrow
  go_enter Tryd.func58, Tryd.ntmps58
  go_wp2
  go_loopw [8, 9] (fun i _ wr => ∃ (k : Nat) (l : List Ver), 1 ≤ k ∧ i = .int .i64 k ∧ Hid (l.Perm l0) ∧ Hid (SortedP (l.take k)) ∧ Hid (RowV B g cap l wr) ∧ Below B w wr ∧ k ≤ n + 1) (fun i _ _ => n + 1 - (intOf i).toNat)
  case atStart =>
    refine ⟨1, l0, Nat.le_refl _, rfl, List.Perm.refl _, ?_, HR0, Below.refl _ _, by omega⟩
    show SortedP (l0.take 1)
    cases l0 with
    | nil => exact List.Pairwise.nil
    | cons a r => exact List.pairwise_singleton _ _
  case round =>
    obtain ⟨k, l, hk1, rfl, HP, HS, HR, hb, hkn⟩ := hrel
    by_cases hlt : k < n
    · have hk2 : (k : Int) ≤ 12 := by omega
      go_wp2
      obtain ⟨wo, hwo⟩ : ∃ wo : World, wo = wr := ⟨_, rfl⟩
      subst hwo
      go_loopw [9] (fun j w2 => ∃ (jj : Nat) (A C R : List Ver) (x : Ver), j = .int .i64 (jj : Int) ∧ Hid (A.length = jj) ∧ Hid (A.length + C.length = k) ∧ jj ≤ k ∧ Hid ((A ++ x :: C ++ R).Perm l0) ∧ Hid (SortedP (A ++ C)) ∧ Hid (∀ c ∈ C, cmpV x c < 0) ∧ Hid (RowV B g cap (A ++ x :: C ++ R) w2) ∧ Below B w w2) (fun j _ => (intOf j).toNat)
      case atStart =>
        have hkl : k < l.length := by have := HP.out.length_eq; have := HN.out; omega
        have e : l.take k ++ l[k] :: [] ++ l.drop (k + 1) = l := by
          simp
        refine ⟨k, l.take k, [], l.drop (k + 1), l[k], rfl, ?_, ?_, Nat.le_refl _, ?_, ?_, ?_, ?_, hb⟩
        · show (l.take k).length = k
          rw [List.length_take]; omega
        · show (l.take k).length + 0 = k
          rw [List.length_take]; omega
        · show (l.take k ++ l[k] :: [] ++ l.drop (k + 1)).Perm l0
          rw [e]; exact HP.out
        · show SortedP (l.take k ++ [])
          rw [List.append_nil]; exact HS.out
        · show ∀ c ∈ ([] : List Ver), cmpV l[k] c < 0
          intro c hc; cases hc
        · show RowV B g cap (l.take k ++ l[k] :: [] ++ l.drop (k + 1)) _
          rw [e]; exact HR.out
      case round =>
        obtain ⟨j, A, C, R, x, rfl, HA, HAC, hjk, HP2, HS2, HC2, HR2, hb2⟩ := hrel
        by_cases hj0 : j = 0
        · subst hj0
          go_wp2
          go_quiet (fail)
          go_wp2
          have hA0 : A = [] := List.eq_nil_of_length_eq_zero HA.out
          subst hA0
          refine ⟨⟨k + 1, [] ++ x :: C ++ R, by omega, by go_num, HP2, ?_, HR2.out, below_drewN hb2 _, by omega⟩, by simp [intOf]; omega⟩
          show SortedP (([] ++ x :: C ++ R).take (k + 1))
          rw [take_ins [] C R x k HAC.out]
          exact insert_here [] C x HS2.out HC2.out (fun a ha => by cases ha)
        · obtain ⟨A', a, hAe⟩ : ∃ A' a, A = A' ++ [a] := ⟨_, _, (List.dropLast_concat_getLast (fun e => by have := HA.out; rw [e] at this; exact hj0 this.symm)).symm⟩
          subst hAe
          obtain ⟨p, hp⟩ : ∃ p, j = p + 1 := ⟨j - 1, by omega⟩
          have hpl : A'.length = p := by have := HA.out; simp at this; omega
          have HPL := Lib.hid hpl
          have g1 : (0 : Int) < (j : Int) := by omega
          have g0 : 0 < j := by omega
          have gd : decide ((0 : Int) < (j : Int)) = true := decide_eq_true g1
          have g2 : IntKind.i64.wrap ((j : Int) - 1) = (p : Int) := by rw [IntWalk.i64_in _ (by omega)]; omega
          have g3 : (0 : Int) ≤ (p : Int) := by omega
          have g4 : (p : Int) < (n : Int) := by omega
          have g5 : (j : Int) < (n : Int) := by omega
          have ex : (A' ++ [a] ++ x :: C ++ R)[j]? = some x := by
            rw [List.append_assoc, List.getElem?_append_right (by simp; omega)]
            have : j - (A' ++ [a]).length = 0 := by simp; omega
            rw [this]; rfl
          have ea : (A' ++ [a] ++ x :: C ++ R)[p]? = some a := by
            rw [List.append_assoc, List.append_assoc, List.getElem?_append_right (by omega)]
            have : p - A'.length = 0 := by omega
            rw [this]; rfl
          obtain ⟨c10, c11, c12, c13, c14, c15, c16⟩ := row_cell HR2.out j x ex
          obtain ⟨c20, c21, c22, c23, c24, c25, c26⟩ := row_cell HR2.out p a ea
          obtain ⟨c, hc⟩ : ∃ c, cmpV x a = c := ⟨_, rfl⟩
          have HCM := Lib.hid hc
          have HJP := Lib.hid hp
          have HEX := Lib.hid ex
          have HEA := Lib.hid ea
          clear hpl ex ea hc hp hj0
          by_cases hneg : c < 0
          · have hd : decide (c < 0) = true := decide_eq_true hneg
            go_wp2_with fail
            go_still_tail 14, (by kernel_rfl)
            go_wp2_with (go_at_call 33; refine (cmp_at x a c HCM.out _).mono ?_; rintro e w3 ⟨rfl, hb3⟩)
            have hr3 := row_below (w := wr.drew) HR2.out hb3
            have hr4 := row_set (row_set hr3 j a (by have := (List.getElem?_eq_some_iff.1 HEX.out).1; exact this)) p x (by rw [List.length_set]; exact (List.getElem?_eq_some_iff.1 HEA.out).1)
            obtain ⟨w6, hw6⟩ : ∃ q, q = set7 (set7 w3 g j a) g p x := ⟨_, rfl⟩
            have HST : Hid (RowV B g cap (((A' ++ [a] ++ x :: C ++ R).set j a).set p x) w6) := Lib.hid (by rw [hw6]; exact hr4)
            obtain ⟨d10, d11, d12, d13, d14, d15, d16⟩ := row_cell hr3 j x HEX.out
            obtain ⟨d20, d21, d22, d23, d24, d25, d26⟩ := row_cell hr3 p a HEA.out
            have e20 : (set7 w3 g j a).cell? ⟨g, p * 7, none⟩ = some (.int .i64 a.n0) := by rw [set7_other w3 g j a _ (by have := HJP.out; omega)]; exact d20
            have e21 : (set7 w3 g j a).cell? ⟨g, p * 7 + 1, none⟩ = some (.int .i64 a.n1) := by rw [set7_other w3 g j a _ (by have := HJP.out; omega)]; exact d21
            have e22 : (set7 w3 g j a).cell? ⟨g, p * 7 + 2, none⟩ = some (.int .i64 a.n2) := by rw [set7_other w3 g j a _ (by have := HJP.out; omega)]; exact d22
            have e23 : (set7 w3 g j a).cell? ⟨g, p * 7 + 3, none⟩ = some (.int .i64 a.n3) := by rw [set7_other w3 g j a _ (by have := HJP.out; omega)]; exact d23
            have e24 : (set7 w3 g j a).cell? ⟨g, p * 7 + 4, none⟩ = some (.int .i64 a.many) := by rw [set7_other w3 g j a _ (by have := HJP.out; omega)]; exact d24
            have e25 : (set7 w3 g j a).cell? ⟨g, p * 7 + 5, none⟩ = some (.string a.tag) := by rw [set7_other w3 g j a _ (by have := HJP.out; omega)]; exact d25
            have e26 : (set7 w3 g j a).cell? ⟨g, p * 7 + 6, none⟩ = some (.int .i64 a.step) := by rw [set7_other w3 g j a _ (by have := HJP.out; omega)]; exact d26
            unfold set7 at e20 e21 e22 e23 e24 e25 e26
            have f1 : ∀ r, w3.frozen? ⟨g, r, none⟩ = false := fun r => hr3.frozenAt r
            have HB3 := Lib.hid ((hb2.drew).trans (hb3.mono (Nat.le_trans hB hb2.size)))
            have HB6 : Hid (Below B w w6) := Lib.hid (by rw [hw6]; exact set7_below (set7_below HB3.out hgB j a) hgB p x)
            unfold set7 at hw6
            clear hr3 hr4 HB3 c10 c11 c12 c13 c14 c15 c16 c20 c21 c22 c23 c24 c25 c26 hb3
            go_region
            rw [← hw6]
            clear hw6 d10 d11 d12 d13 d14 d15 d16 d20 d21 d22 d23 d24 d25 d26 e20 e21 e22 e23 e24 e25 e26 f1
            go_wp2
            go_roundw
            case rel =>
              have e2 : ((A' ++ [a] ++ x :: C ++ R).set j a).set p x = A' ++ x :: (a :: C) ++ R := by
                have := set2 A' C R a x
                rw [HPL.out, ← HJP.out] at this
                exact this
              have h5 := HST.out
              rw [e2] at h5
              refine ⟨p, A', a :: C, R, x, rfl, HPL, ?_, by have := HJP.out; omega, ?_, ?_, ?_, row_drew h5, HB6.out.drew⟩
              · show A'.length + (a :: C).length = k
                have := HAC.out
                simp at this ⊢
                omega
              · show (A' ++ x :: (a :: C) ++ R).Perm l0
                refine List.Perm.trans ?_ HP2.out
                have : (A' ++ x :: (a :: C) ++ R).Perm (A' ++ a :: (x :: C) ++ R) := by
                  simp only [List.append_assoc, List.cons_append]
                  exact (List.Perm.swap a x (C ++ R)).append_left A'
                refine this.trans (List.Perm.of_eq ?_)
                simp
              · show SortedP (A' ++ a :: C)
                have := HS2.out
                simpa using this
              · show ∀ c' ∈ a :: C, cmpV x c' < 0
                intro c' hc'
                rcases List.mem_cons.1 hc' with rfl | hc'
                · rw [HCM.out]; exact hneg
                · exact HC2.out c' hc'
            case measure =>
              have := HJP.out
              simp [intOf]
              omega
          · have hd : decide (c < 0) = false := decide_eq_false hneg
            go_wp2_with fail
            go_still_tail 14, (by kernel_rfl)
            go_wp2_with (go_at_call 33; refine (cmp_at x a c HCM.out _).mono ?_; rintro e w3 ⟨rfl, hb3⟩)
            have hr3 := row_below (w := wr.drew) HR2.out hb3
            refine ⟨⟨k + 1, A' ++ [a] ++ x :: C ++ R, by omega, by go_num, HP2, ?_, hr3, (hb2.drew).trans (hb3.mono (Nat.le_trans hB hb2.size)), by omega⟩, by simp [intOf]; omega⟩
            show SortedP ((A' ++ [a] ++ x :: C ++ R).take (k + 1))
            rw [take_ins (A' ++ [a]) C R x k HAC.out]
            refine insert_here (A' ++ [a]) C x HS2.out HC2.out (fun y hy => ?_)
            simp at hy
            subst hy
            rw [HCM.out]
            omega
    · go_wp2
      go_end0
      have hl : l.length = n := by have := HP.out.length_eq; have := HN.out; omega
      have hs := HS.out
      rw [List.take_of_length_le (by omega)] at hs
      exact ⟨rfl, l, HP.out, hs, HR.out, hb⟩

set_option maxHeartbeats 1000000 in
theorem pdq_any (B g n cap : Nat) (l0 : List Ver) (lim : Int) (w : World) (hn : l0.length = n) (hn12 : n ≤ 12) (hrow : RowV B g cap l0 w) (hB : B ≤ w.heap.size) :
    Calls Tryd.prog 48 #[.slice (some ⟨g, 0, none⟩) n cap, .int .i64 0, .int .i64 (n : Int), .int .i64 lim, .func (.func 33) #[] #[]] w fun e w' => e = .returned (.tuple #[]) ∧ ∃ l, l.Perm l0 ∧ SortedP l ∧ RowV B g cap l w' ∧ Below B w w' := by
  have HI := Lib.hid (ins_any B g n cap l0 w hn hn12 hrow hB)
  have hn' : (n : Int) ≤ 12 := by omega
  clear hn hrow
  go_enter Tryd.func48, Tryd.ntmps48
  go_wp2
  refine wp_loop_rounds 1 ?_
  rw [rounds_succ]
  go_wp2_with (go_at_call 58; refine HI.out.mono ?_; rintro e w' ⟨rfl, hl⟩; have HL := Lib.hid hl; clear hl)
  (try simp only [Exit.inBlock, Exit.then])
  refine bodyPost_ret (results_none rfl _ _ _) rfl ?_
  exact ⟨rfl, HL.out⟩

set_option maxHeartbeats 1000000 in
theorem sort_some (B g n cap : Nat) (l0 : List Ver) (w : World) (hn : l0.length = n) (hn12 : n ≤ 12) (hrow : RowV B g cap l0 w) (hB : B ≤ w.heap.size) :
    Calls Tryd.prog 35 #[.slice (some ⟨g, 0, none⟩) n cap, .func (.func 33) #[] #[]] w fun e w' => e = .returned (.tuple #[]) ∧ ∃ l, l.Perm l0 ∧ SortedP l ∧ RowV B g cap l w' ∧ Below B w w' := by
  have HI := Lib.hid (fun lim => pdq_any B g n cap l0 lim w hn hn12 hrow hB)
  have hn' : (n : Int) ≤ 12 := by omega
  have hl : ∀ W, Calls Tryd.prog 49 #[.int .u64 (n : Int)] W fun e w' => (∃ v : Int, e = .returned (.int .i64 v)) ∧ W = w' := fun W =>
    (bits_Len (n : Int) W (by omega) (by omega)).mono fun _ _ ⟨he, hw⟩ => ⟨⟨_, he⟩, hw.symm⟩
  have HL := Lib.hid hl
  have wr : IntKind.u64.wrap (n : Int) = n := by simp [IntKind.wrap, IntKind.bits, IntKind.signed]; omega
  clear hn hrow hl
  go_enter Tryd.func35, Tryd.ntmps35
  go_wp2_with (first | (go_at_call 49; refine (HL.out _).mono ?_; rintro e w' ⟨⟨v, rfl⟩, rfl⟩) | (go_at_call 48; refine (HI.out _).mono ?_; rintro e w' ⟨rfl, hl⟩; have HX := Lib.hid hl; clear hl))
  go_end0
  exact ⟨rfl, HX.out⟩
end Go.Proofs.YtjekibhaabkecaaDoor
