/- Proved here: valid of package path at a text with a slash ahead, at the root, and at any other text. -/
import Derived.Test.YtgmplpfbhcdofaaGreatPParts
import Derived.Test.YtgmplpfbhcdofaaGreatPMath2
import Derived.BigGuardPartIn
namespace Go.Proofs.YtgmplpfbhcdofaaGreat.Pt
open Go.RowKit Go.Shelf
attribute [local go_sem] Oper.semAt_some

theorem cutpre_yes (r : Str) (w : World) : Calls Tryz.prog 122 #[.string ⟨(47 :: r).toArray⟩, .string ⟨#[47]⟩] w fun e w' => e = .returned (.tuple #[.string ⟨r.toArray⟩, .bool true]) ∧ w = w' :=
  (Tryz.strings_CutPrefix ⟨(47 :: r).toArray⟩ ⟨#[47]⟩ w).mono fun _ _ ⟨he, hw⟩ => ⟨he, hw.symm⟩
theorem hasPrefix_no (p : Str) (h : p.head? ≠ some 47) : Lib.hasPrefix p [47] = false := by
  cases p with
  | nil => rfl
  | cons c r => simp at h; simp [Lib.hasPrefix, List.isPrefixOf]; exact fun e => h e.symm
theorem cutpre_no (p : Str) (h : p.head? ≠ some 47) (w : World) : Calls Tryz.prog 122 #[.string ⟨p.toArray⟩, .string ⟨#[47]⟩] w fun e w' => e = .returned (.tuple #[.string ⟨p.toArray⟩, .bool false]) ∧ w = w' :=
  (Tryz.strings_CutPrefix ⟨p.toArray⟩ ⟨#[47]⟩ w).mono fun _ _ ⟨he, hw⟩ => ⟨by
    have e1 := hasPrefix_no p h
    simp only [Lib.trimPrefix] at he
    rw [e1] at he
    simpa using he, hw.symm⟩
theorem namel_any (l : Str) (w : World) : Calls Tryz.prog 124 #[.string ⟨l.toArray⟩] w fun e w' => e = .returned (.bool (nameB l)) ∧ Below w.heap.size w w' := name_any ⟨l.toArray⟩ w

theorem parts_any (s : ByteArray) (w : World) : Calls Tryz.prog 123 #[.string s] w fun e w' => e = .returned (.func (.func 150) #[] #[.pointer (some ⟨w.heap.size, 0, none⟩)]) ∧ w.alloc (.cells #[.string s] 9) = w' := by
  go_enter Tryz.func123, Tryz.ntmps123
  go_wp2
  go_ret
  exact ⟨rfl, rfl⟩

set_option maxHeartbeats 1000000 in
theorem valid_no (p : Str) (h : p.head? ≠ some 47) (w : World) : Calls Tryz.prog 89 #[.string ⟨p.toArray⟩] w fun e w' => e = .returned (.bool false) ∧ Below w.heap.size w w' := by
  refine (callsIn_wide (n := 5)).1 ?_
  refine callsIn_of_wp_marks Tryz.func89 rfl trivial ?_ rfl
  simp only [Tryz.ntmps89, List.size_toArray, List.length_cons, List.length_nil, Nat.reduceAdd, Nat.reduceSub, Array.replicate_succ, Array.replicate_zero, List.push_toArray, List.append_toArray, List.nil_append, List.cons_append]
  gi_wp2_with (refine ⟨trivial, ?_⟩; gi_at_call 122; refine (callsIn_wide.2 (cutpre_no _ h _)).mono ?_; rintro e w' ⟨rfl, rfl⟩)
  refine ⟨.bool false, ?_, rfl, (Below.refl _ _).alloc (Nat.le_refl _) _⟩
  simp [results, Tryz.f89, go_sem]

set_option maxHeartbeats 1000000 in
theorem valid_root (w : World) : Calls Tryz.prog 89 #[.string ⟨#[47]⟩] w fun e w' => e = .returned (.bool true) ∧ Below w.heap.size w w' := by
  refine (callsIn_wide (n := 5)).1 ?_
  refine callsIn_of_wp_marks Tryz.func89 rfl trivial ?_ rfl
  simp only [Tryz.ntmps89, List.size_toArray, List.length_cons, List.length_nil, Nat.reduceAdd, Nat.reduceSub, Array.replicate_succ, Array.replicate_zero, List.push_toArray, List.append_toArray, List.nil_append, List.cons_append]
  gi_wp2_with (refine ⟨trivial, ?_⟩; gi_at_call 122; refine (callsIn_wide.2 (cutpre_yes [] _)).mono ?_; rintro e w' ⟨rfl, rfl⟩)
  refine ⟨.bool true, ?_, rfl, (Below.refl _ _).alloc (Nat.le_refl _) _⟩
  simp [results, Tryz.f89, go_sem]

theorem kf_below {B : Nat} {W W' : World} (h : Below W.heap.size W W') : KeepsFrom B W W' :=
  ⟨h.size, fun k _ _ hk _ => (h.block k (Array.getElem?_eq_some_iff.1 hk).1).trans hk⟩
theorem boxed_below {W W' : World} {B k : Nat} {t : TypeId} {v : Value} (h : Boxed W k t v) (hb : Below B W W') (hk : k < B) : Boxed W' k t v := (hb.block k hk).trans h
theorem size_set (W : World) (a : Addr) (v : Value) : (W.setCell a v).heap.size = W.heap.size := by simp [World.setCell]

def vI (w : World) (pre : List Str) (W : World) : Prop :=
  (pre.length ≤ 40 ∧ pre.all nameB = true) ∧ Boxed W w.heap.size 4 (.bool false) ∧ Boxed W (w.heap.size + 1) 3 (.int .i64 (pre.length : Int)) ∧ Below w.heap.size w W
def vX (w : World) (c : Code) (pre : List Str) (W : World) : Prop :=
  (c = .ret ∧ ∀ m, pre <+: m → partsB m = false) ∧ Boxed W w.heap.size 4 (.bool false) ∧ Below w.heap.size w W
theorem vI_own (w : World) (B : Nat) (hB : w.heap.size ≤ B) : OwnFrom B (vI w) :=
  OwnFrom.and (ownFrom_pure _ fun pre : List Str => pre.length ≤ 40 ∧ pre.all nameB = true) (OwnFrom.and (Own.from (boxed_own _ _ fun _ => _) _) (OwnFrom.and (Own.from (boxed_own _ _ fun pre : List Str => .int .i64 (pre.length : Int)) _) (ownFrom_below (Nat.le_refl _) hB)))
theorem vX_own (w : World) (B : Nat) (hB : w.heap.size ≤ B) (c : Code) : OwnFrom B (vX w c) :=
  OwnFrom.and (ownFrom_pure _ fun pre : List Str => c = .ret ∧ ∀ m, pre <+: m → partsB m = false) (OwnFrom.and (Own.from (boxed_own _ _ fun _ => _) _) (ownFrom_below (Nat.le_refl _) hB))

set_option maxRecDepth 100000 in
set_option maxHeartbeats 2000000 in
theorem valid_yes (r : Str) (hr : r ≠ []) (hlr : r.length ≤ 140737488355328) (w : World) : Calls Tryz.prog 89 #[.string ⟨(47 :: r).toArray⟩] w fun e w' => e = .returned (.bool (partsB (cutP r))) ∧ Below w.heap.size w w' := by
  refine (callsIn_wide (n := 5)).1 ?_
  have hr1 : r.isEmpty = false := isEmpty_no hr
  refine callsIn_of_wp_marks Tryz.func89 rfl trivial ?_ rfl
  simp only [Tryz.ntmps89, List.size_toArray, List.length_cons, List.length_nil, Nat.reduceAdd, Nat.reduceSub, Array.replicate_succ, Array.replicate_zero, List.push_toArray, List.append_toArray, List.nil_append, List.cons_append]
  gi_wp2_with (first | (refine ⟨trivial, ?_⟩; gi_at_call 122; refine (callsIn_wide.2 (cutpre_yes r _)).mono ?_; rintro e w' ⟨rfl, rfl⟩) | (refine ⟨trivial, ?_⟩; gi_at_call 123; refine (callsIn_wide.2 (parts_any _ _)).mono ?_; rintro e w' ⟨rfl, rfl⟩))
  have b0 := ((Boxed.new w 4 (.bool false)).alloc (.cells #[.int .i64 0] 3)).alloc (.cells #[.string ⟨r.toArray⟩] 9)
  have b1 := (Boxed.new (w.alloc (.cells #[.bool false] 4)) 3 (.int .i64 0)).alloc (.cells #[.string ⟨r.toArray⟩] 9)
  have b2 := Boxed.new ((w.alloc (.cells #[.bool false] 4)).alloc (.cells #[.int .i64 0] 3)) 9 (.string ⟨r.toArray⟩)
  have hB0 : Below w.heap.size w (((w.alloc (.cells #[.bool false] 4)).alloc (.cells #[.int .i64 0] 3)).alloc (.cells #[.string ⟨r.toArray⟩] 9)) := (((Below.refl _ w).alloc (Nat.le_refl _) _).alloc (by simp) _).alloc (by simp; omega) _
  simp only [World.size_alloc] at b0 b1 b2
  refine wpIn_rangeFunc_ownG rfl (by omega) (gf := 150) (lb := #[.pointer (some ⟨w.heap.size + 1 + 1, 0, none⟩)]) rfl trivial (enters_of Tryz.func150 (by kernel_rfl) rfl)
    (parts1_stops _ (by omega) (w.heap.size + 1 + 1) ⟨r.toArray⟩ (by simpa [ByteArray.size] using hlr) _ (by simp) b2.cell) (fun _ _ => trivial) (fun _ _ _ _ _ _ _ _ => trivial) (Below.refl _ _) (fun _ => rfl)
    (vI w) (vX w) (vI_own w _ (by simp; omega)) (vX_own w _ (by simp; omega)) ⟨⟨by simp, rfl⟩, b0, b1, hB0⟩
    (fun x => { tmps := #[.string ⟨(47 :: r).toArray⟩, undef, .pointer (some ⟨w.heap.size, 0, none⟩), .string ⟨r.toArray⟩, .bool true, .pointer (some ⟨w.heap.size + 1, 0, none⟩), (.string ⟨x.toArray⟩), .tuple #[.string ⟨r.toArray⟩, .bool true], .string ⟨(47 :: r).toArray⟩, .tuple #[.string ⟨r.toArray⟩, .bool true], .string ⟨r.toArray⟩, .bool true, .bool true, .bool false, .string ⟨r.toArray⟩, .bool false, .string ⟨r.toArray⟩, .func (.func 150) #[] #[.pointer (some ⟨w.heap.size + 1 + 1, 0, none⟩)], (.string ⟨x.toArray⟩), undef, undef, undef, undef, undef, undef, undef, undef, undef], defers := [] }) ?assign ?body ?done ?stop
  case assign =>
    intro l x W K hK
    gi_wp2
    exact hK
  case body =>
    rintro l pre x W ⟨⟨hlen, hall⟩, hb0, hb1, hB⟩ _
    have hc1 := hb1.cell
    have hf1 := hb1.frozen
    have hc0 := hb0.cell
    have hf0 := hb0.frozen
    have hs1 := hb1.lt
    have hs0 := hb0.lt
    have d1 := hb1.set (.int .i64 ((pre.length : Int) + 1))
    have d0 := hb0.other (B' := w.heap.size + 1) (by omega) (.int .i64 ((pre.length : Int) + 1))
    have hB1 : Below w.heap.size w (W.setCell ⟨w.heap.size + 1, 0, none⟩ (.int .i64 ((pre.length : Int) + 1))) := hB.setCell (p := ⟨w.heap.size + 1, 0, none⟩) (by simp) _
    by_cases h40 : 40 ≤ pre.length
    · have hk : (40 : Int) < (pre.length : Int) + 1 := by omega
      have hk2 : (pre.length : Int) + 1 ≤ 41 := by omega
      have c0 := d0.cell
      have f0 := d0.frozen
      gi_wp2_with (refine ⟨trivial, ?_⟩)
      refine ⟨(KeepsOthers.setCell _ _ _).from _ |>.trans ((KeepsOthers.setCell _ _ _).from _), ⟨rfl, fun m hm => partsB_snoc_long _ m (by simp; omega) hm⟩, d0.set _, hB1.setCell (p := ⟨w.heap.size, 0, none⟩) (Nat.le_refl _) _⟩
    · have hk : (pre.length : Int) + 1 ≤ 40 := by omega
      have hd : decide ((40 : Int) < (pre.length : Int) + 1) = false := decide_eq_false (by omega)
      by_cases hn : nameB x = true
      · have HN := Lib.hid hn
        clear hn
        gi_wp2_with (refine ⟨trivial, ?_⟩; gi_at_call 124; refine (CallsIn.inRound l (callsIn_wide.2 (namel_any x _))).mono ?_; rintro e w1 ⟨rfl, hb⟩; rw [HN.out]; rw [size_set] at hb)
        refine ⟨((KeepsOthers.setCell _ _ _).from _).trans (kf_below (by rw [size_set]; exact hb)), trivial, ⟨by simp; omega, by simp [hall, HN.out]⟩, boxed_below d0 hb hs0, by simpa using boxed_below d1 hb hs1, hB1.trans (hb.mono hB.size)⟩
      · have HN := Lib.hid (Bool.eq_false_iff.2 hn)
        clear hn
        gi_wp2_with (refine ⟨trivial, ?_⟩; gi_at_call 124; refine (CallsIn.inRound l (callsIn_wide.2 (namel_any x _))).mono ?_; rintro e w1 ⟨rfl, hb⟩; rw [HN.out]; rw [size_set] at hb; have e0 := boxed_below d0 hb hs0; have c0 := e0.cell; have f0 := e0.frozen)
        refine ⟨(((KeepsOthers.setCell _ _ _).from _).trans (kf_below (by rw [size_set]; exact hb))).trans ((KeepsOthers.setCell _ _ _).from _), ⟨rfl, fun m hm => partsB_bad _ m x HN.out (by simp) hm⟩, e0.set _, (hB1.trans (hb.mono hB.size)).setCell (p := ⟨w.heap.size, 0, none⟩) (Nat.le_refl _) _⟩
  case done =>
    rintro D xs W hD rfl ⟨⟨hlen, hall⟩, hb0, hb1, hB⟩ hK
    have hc0 := hb0.cell
    have hf0 := hb0.frozen
    gi_wp2
    have hK' := (KeepsOthers.setCell W ⟨w.heap.size, 0, none⟩ (.bool true)).same D _ hK rfl
    refine ⟨by simp, .inl ⟨_, _, rfl, run_takeDeferred hK', ?_⟩⟩
    have hc5 := cell_kept (World.cell?_setCell_same' W ⟨w.heap.size, 0, none⟩ (.bool true) (by rw [hc0]; rfl)) (grownBy_putObj' _ D (.deferred none)) (fun r e => by cases e; exact ⟨_, hK', rfl⟩)
    refine ⟨.bool true, ?_, by rw [partsB_all _ hlen hall], ?_⟩
    · simp [results, Tryz.f89, go_sem, hc5]
    · exact (hB.setCell (p := ⟨w.heap.size, 0, none⟩) (Nat.le_refl _) _).trans (belowK_b (w := w) (Nat.le_refl _) _ D _ _ (by simp at hD; omega) hK' rfl rfl)
  case stop =>
    rintro D c pre W hD hpre ⟨⟨rfl, hbad⟩, hb0, hB⟩ hK
    have hc0 := hb0.cell
    have hf0 := hb0.frozen
    have HB := Lib.hid (hbad _ hpre)
    clear hbad hpre
    gi_wp2
    refine ⟨by simp, .inl ⟨_, _, rfl, run_takeDeferred hK, ?_⟩⟩
    have hc5 := cell_kept hc0 (grownBy_putObj' _ D (.deferred none)) (fun r e => by cases e; exact ⟨_, hK, rfl⟩)
    refine ⟨.bool false, ?_, by rw [HB.out], ?_⟩
    · simp [results, Tryz.f89, go_sem, hc5]
    · exact hB.trans (belowK_b (w := w) (Nat.le_refl _) _ D _ _ (by simp at hD; omega) hK rfl rfl)
end Go.Proofs.YtgmplpfbhcdofaaGreat.Pt
