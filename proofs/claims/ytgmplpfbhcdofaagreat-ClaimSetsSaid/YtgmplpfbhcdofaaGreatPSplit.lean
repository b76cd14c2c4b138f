/- Proved here: valid and split of package path: whether a text is a path; the parts of a text in a new slice. -/
import Derived.Test.YtgmplpfbhcdofaaGreatPValid
namespace Go.Proofs.YtgmplpfbhcdofaaGreat.Pt
open Go.RowKit Go.Shelf
attribute [local go_sem] Oper.semAt_some

theorem valid_any (p : Str) (hp : p.length ≤ 140737488355328) (w : World) : Calls Tryz.prog 89 #[.string ⟨p.toArray⟩] w fun e w' => e = .returned (.bool (validB p)) ∧ Below w.heap.size w w' := by
  by_cases h : p.head? = some 47
  · cases p with
    | nil => cases h
    | cons c r =>
      simp at h
      subst h
      by_cases hr : r = []
      · subst hr
        exact (valid_root w).mono fun _ _ ⟨he, hb⟩ => ⟨by rw [validB_root]; exact he, hb⟩
      · rw [validB_slash r hr]
        exact valid_yes r hr (by simp at hp; omega) w
  · rw [validB_bad p h]
    exact valid_no p h w

theorem info9 : (Tryz.prog.info? 9).map (fun i => (i.zero, i.size, i.bytes)) = some (some (.string ⟨#[]⟩), 1, 16) := by kernel_rfl

def sI (w w1 : World) (pre : List Str) (W : World) : Prop :=
  (∃ v, Boxed W w1.heap.size 23 v ∧ W.ownsRow w.heap.size 9 1 v pre.length (pre.map encS) ∧ True) ∧ Below w.heap.size w W
theorem sI_own (w w1 : World) (B : Nat) (hB : w.heap.size ≤ B) : OwnFrom B (sI w w1) :=
  OwnFrom.and (Own.from (holdsRow_own w.heap.size w1.heap.size 23 9 1 (fun pre : List Str => pre.length) (fun pre => pre.map encS) (fun _ _ => True)) _) (ownFrom_below (Nat.le_refl _) hB)
end Go.Proofs.YtgmplpfbhcdofaaGreat.Pt
