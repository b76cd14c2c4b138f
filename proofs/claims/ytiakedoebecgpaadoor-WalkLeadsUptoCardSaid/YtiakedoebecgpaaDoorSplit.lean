/- Proved here: valid and split of package path: whether a text is a path; the parts of a text in a new slice. -/
import Derived.Test.YtiakedoebecgpaaDoorValid
namespace Go.Proofs.YtiakedoebecgpaaDoor
open Go.RowKit Go.Shelf
attribute [local go_sem] Oper.semAt_some

theorem valid_any (p : Str) (hp : p.length ≤ 140737488355328) (w : World) : Calls Tryd.prog 66 #[.string ⟨p.toArray⟩] w fun e w' => e = .returned (.bool (validB p)) ∧ Below w.heap.size w w' := by
  by_cases h : p.head? = some 47
  · cases p with
    | nil => cases h
    | cons c r =>
      simp at h
      subst h
      by_cases hr : r = []
      · subst hr
        exact (valid_root w).mono fun _ _ ⟨he, hb⟩ => ⟨by rw [validB_root]; exact he, hb⟩
      · rw [validB_slash r hr]
        exact valid_yes r hr (by simp at hp; omega) w
  · rw [validB_bad p h]
    exact valid_no p h w

theorem ret_int {k : IntKind} {a b : Int} (h : a = b) : Ending.returned (.int k a) = .returned (.int k b) := by rw [h]
theorem count_any (l : Str) (k : Nat) (hk : (cutP l).length = k + 1) (w : World) : Calls Tryd.prog 108 #[.string ⟨l.toArray⟩, .string ⟨#[47]⟩] w fun e w' => e = .returned (.int .i64 (k : Int)) ∧ w = w' :=
  (Tryd.strings_Count_one ⟨l.toArray⟩ 47 w).mono fun _ _ ⟨he, hw⟩ => ⟨by
    rw [he]
    refine ret_int ?_
    have := cutP_count l
    show ((Lib.countByte l 47 : Nat) : Int) = k
    unfold Lib.countByte
    omega, hw.symm⟩

theorem info9 : (Tryd.prog.info? 9).map (fun i => (i.zero, i.size, i.bytes)) = some (some (.string ⟨#[]⟩), 1, 16) := by kernel_rfl

set_option maxHeartbeats 1000000 in
theorem split_nil (w : World) : Calls Tryd.prog 86 #[.string ⟨#[]⟩] w fun e w' => ∃ v, e = .returned v ∧ w'.ownsRow w.heap.size 9 1 v 0 [] ∧ Below w.heap.size w w' := by
  refine (callsIn_wide (n := 5)).1 ?_
  refine callsIn_of_wp_marks Tryd.func86 rfl trivial ?_ rfl
  simp only [Tryd.ntmps86, List.size_toArray, List.length_cons, List.length_nil, Nat.reduceAdd, Nat.reduceSub, Array.replicate_succ, Array.replicate_zero, List.push_toArray, List.append_toArray, List.nil_append, List.cons_append]
  gi_wp2
  refine ⟨.slice none 0 0, ?_, _, rfl, World.ownsRow_nil _ _ _ _, Below.refl _ _⟩
  simp [results, Tryd.f86, go_sem]

def sI (w w1 : World) (pre : List Str) (W : World) : Prop :=
  (∃ v, Boxed W w1.heap.size 46 v ∧ W.ownsRow w.heap.size 9 1 v pre.length (pre.map encS) ∧ True) ∧ Below w.heap.size w W
theorem sI_own (w w1 : World) (B : Nat) (hB : w.heap.size ≤ B) : OwnFrom B (sI w w1) :=
  OwnFrom.and (Own.from (holdsRow_own w.heap.size w1.heap.size 46 9 1 (fun pre : List Str => pre.length) (fun pre => pre.map encS) (fun _ _ => True)) _) (ownFrom_below (Nat.le_refl _) hB)

set_option maxRecDepth 100000 in
set_option maxHeartbeats 2000000 in
theorem split_some (s : Str) (hs : s ≠ []) (hls : s.length ≤ 140737488355328) (k : Nat) (hN : (cutP s).length = k + 1) (hk : k < 1000) (w : World) : Calls Tryd.prog 86 #[.string ⟨s.toArray⟩] w fun e w' => ∃ v, e = .returned v ∧ w'.ownsRow w.heap.size 9 1 v (cutP s).length ((cutP s).map encS) ∧ Below w.heap.size w w' := by
  refine (callsIn_wide (n := 5)).1 ?_
  have hr1 : s.isEmpty = false := isEmpty_no hs
  have HN := Lib.hid hN
  have hk1 : (k : Int) < 1000 := by omega
  obtain ⟨i0, hi, hz0, hz1, hz2⟩ := info_parts info9
  clear hN
  refine callsIn_of_wp_marks Tryd.func86 rfl trivial ?_ rfl
  simp only [Tryd.ntmps86, List.size_toArray, List.length_cons, List.length_nil, Nat.reduceAdd, Nat.reduceSub, Array.replicate_succ, Array.replicate_zero, List.push_toArray, List.append_toArray, List.nil_append, List.cons_append]
  gi_wp2_with (first | (refine ⟨trivial, ?_⟩; gi_at_call 108; refine (callsIn_wide.2 (count_any s k HN.out _)).mono ?_; rintro e w' ⟨rfl, rfl⟩) | (gi_at_make; refine wpListIn_make_own _ rfl _ _ 46 rfl w.heap.size 9 i0 (.string ⟨#[]⟩) 1 Tryd.underlying46 hi hz0 hz1 .i64 .i64 _ (k + 1) rfl rfl (by simp) (by rw [hz2]; omega) (by unfold maxLen; omega) (Nat.le_refl _) ?_; intro w1 hown hgrow; have hsz := hgrow.size) | (refine ⟨trivial, ?_⟩; gi_at_call 88; refine (callsIn_wide.2 (parts_any _ _)).mono ?_; rintro e w' ⟨rfl, rfl⟩))
  have b0 := (Boxed.new w1 46 (.slice (some ⟨w.heap.size, 0, none⟩) 0 (k + 1))).alloc (.cells #[.string ⟨s.toArray⟩] 9)
  have b2 := Boxed.new (w1.alloc (.cells #[.slice (some ⟨w.heap.size, 0, none⟩) 0 (k + 1)] 46)) 9 (.string ⟨s.toArray⟩)
  have hB1 : Below w.heap.size w w1 := (Below.refl _ w).grown hgrow (Nat.le_refl _) (fun r e => by cases e)
  have hB0 : Below w.heap.size w ((w1.alloc (.cells #[.slice (some ⟨w.heap.size, 0, none⟩) 0 (k + 1)] 46)).alloc (.cells #[.string ⟨s.toArray⟩] 9)) := (hB1.alloc hsz _).alloc (by simp; omega) _
  simp only [World.size_alloc] at b2
  refine wpIn_rangeFunc_ownG rfl (by omega) (gf := 109) (lb := #[.pointer (some ⟨w1.heap.size + 1, 0, none⟩)]) rfl trivial (enters_of Tryd.func109 (by kernel_rfl) rfl)
    (parts1_stops _ (by omega) (w1.heap.size + 1) ⟨s.toArray⟩ (by simpa [ByteArray.size] using hls) _ (by simp) b2.cell) (fun _ _ => trivial) (fun _ _ _ _ _ _ _ _ => trivial) (Below.refl _ _) (fun _ => rfl)
    (sI w w1) (fun _ _ _ => False) (sI_own w w1 _ (by simp; omega)) (fun _ _ _ _ _ hs _ _ => hs) ⟨⟨_, b0, (hown.alloc _).alloc _, trivial⟩, hB0⟩
    (fun x => { tmps := #[.string ⟨s.toArray⟩, undef, .slice none 0 0, .pointer (some ⟨w1.heap.size, 0, none⟩), .string ⟨x.toArray⟩, .string ⟨s.toArray⟩, .bool false, .string ⟨s.toArray⟩, .int .i64 (k : Int), .int .i64 ((k : Int) + 1), .slice (some ⟨w.heap.size, 0, none⟩) 0 (k + 1), .string ⟨s.toArray⟩, .func (.func 109) #[] #[.pointer (some ⟨w1.heap.size + 1, 0, none⟩)], .string ⟨x.toArray⟩, undef, undef, undef, undef, undef], defers := [] }) ?assign ?body ?done ?stop
  case assign =>
    intro l x W K hK
    gi_wp2
    exact hK
  case body =>
    rintro l pre x W ⟨⟨v, hv, hrow, _⟩, hB⟩ hlt
    have hc := hv.cell
    have hlt' : pre.length ≤ 1000 := by
      have h2 := HN.out
      have h3 : pre.length < (cutP s).length := hlt
      omega
    clear hlt
    have hle : w.heap.size ≤ w1.heap.size := hsz
    gi_wp2_with (gi_at_builtin; refine wpListIn_append_own _ rfl _ _ 46 rfl w.heap.size 9 i0 (.string ⟨#[]⟩) 1 16 Tryd.underlying46 hi hz0 hz1 hz2 rfl (by decide) _ _ _ rfl (hrow.alloc _) ⟨W.heap.size, 0, none⟩ 1 1 [.string ⟨x.toArray⟩] rfl rfl (cell_one_new _ _ _) (by simp [Value.oneCell']) (by unfold maxLen; omega) (by omega) (by have := hB.size; simp; omega) ?_; intro v' w2 hown' hgrow2 _; obtain ⟨g', cap', rfl⟩ := ownsRow_succ hown'; obtain ⟨hv1, hv2, hr2, hk2, hb2⟩ := hv.appended (by decide) hrow hB.size hle hown' hgrow2; have hc1 := hv1.cell; have hf1 := hv1.frozen)
    exact ⟨hk2.from _, trivial, ⟨_, hv2, by simpa [encS] using hr2, trivial⟩, hB.trans hb2⟩
  case done =>
    rintro D xs W hD rfl ⟨⟨v, hv, hrow, _⟩, hB⟩ hK
    have hc := hv.cell
    gi_wp2
    refine ⟨by simp, .inl ⟨_, _, rfl, run_takeDeferred hK, ?_⟩⟩
    refine ⟨_, results_tmp rfl _ _ _, v, rfl, ownsRow_putObj hrow _ hK rfl, hB.trans (belowK_b (w := w) (Nat.le_refl _) W D _ _ (by simp at hD; omega) hK rfl rfl)⟩
  case stop =>
    rintro D c pre W _ _ h _
    exact h.elim
end Go.Proofs.YtiakedoebecgpaaDoor
