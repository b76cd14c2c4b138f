/- Proved here: == and != of items. -/
import Derived.Test.YtjbbnecegomkcaaGreatDoorWFew
namespace Go.Proofs.YtjbbnecegomkcaaGreatDoor
open Go.RowKit Go.Shelf

theorem it_eq (a b : It) : a = b ↔ a.path = b.path ∧ a.kind = b.kind ∧ a.data = b.data := by
  cases a
  cases b
  simp [It.mk.injEq]

set_option maxRecDepth 100000 in
theorem eq35 (a b : It) (w : World) : (Op.equalIn 10000 33 (.agg #[.string ⟨a.path.toArray⟩, .int .i64 a.kind, .string ⟨a.data.toArray⟩]) (.agg #[.string ⟨b.path.toArray⟩, .int .i64 b.kind, .string ⟨b.data.toArray⟩])).run Tryz.prog w = .ok (decide (a = b)) w := by
  have u3 := Tryz.underlying3
  have a3 := Tryz.isAgg3
  have z3 := Tryz.sizeOf3
  have u9 := Tryz.underlying9
  have a9 := Tryz.isAgg9
  have z9 := Tryz.sizeOf9
  have hS : Tryz.prog.underlying 33 = some (.struct (Tryz.prog.fieldsOf 33)) := by kernel_rfl
  have hp : Tryz.prog.stoodInHeld 33 = false := by kernel_rfl
  have hv := it_eq a b
  rw [show (10000 : Nat) = 9999 + 1 from rfl, run_equalIn_agg w 9999 33 _ _ hS hp]
  simp only [Program.fieldsOf, Tryz.underlying33]
  go_simp
  clear u3 a3 z3 u9 a9 z9 hS hp
  by_cases h0 : a.path = b.path <;> by_cases h1 : a.kind = b.kind <;> by_cases h2 : a.data = b.data <;> simp [h0, h1, h2]
end Go.Proofs.YtjbbnecegomkcaaGreatDoor
