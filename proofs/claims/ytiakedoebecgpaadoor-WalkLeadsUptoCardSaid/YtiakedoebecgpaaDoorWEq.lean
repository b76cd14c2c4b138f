/- Proved here: == and != of items. -/
import Derived.Test.YtiakedoebecgpaaDoorWFew
namespace Go.Proofs.YtiakedoebecgpaaDoor
open Go.RowKit Go.Shelf

theorem it_eq (a b : It) : a = b ↔ a.path = b.path ∧ a.kind = b.kind ∧ a.data = b.data := by
  cases a
  cases b
  simp [It.mk.injEq]

set_option maxRecDepth 100000 in
theorem eq35 (a b : It) (w : World) : (Op.equalIn 10000 35 (.agg #[.string ⟨a.path.toArray⟩, .int .i64 a.kind, .string ⟨a.data.toArray⟩]) (.agg #[.string ⟨b.path.toArray⟩, .int .i64 b.kind, .string ⟨b.data.toArray⟩])).run Tryd.prog w = .ok (decide (a = b)) w := by
  have u3 := Tryd.underlying3
  have a3 := Tryd.isAgg3
  have z3 := Tryd.sizeOf3
  have u9 := Tryd.underlying9
  have a9 := Tryd.isAgg9
  have z9 := Tryd.sizeOf9
  have hS : Tryd.prog.underlying 35 = some (.struct (Tryd.prog.fieldsOf 35)) := by kernel_rfl
  have hp : Tryd.prog.stoodInHeld 35 = false := by kernel_rfl
  have hv := it_eq a b
  rw [show (10000 : Nat) = 9999 + 1 from rfl, run_equalIn_agg w 9999 35 _ _ hS hp]
  simp only [Program.fieldsOf, Tryd.underlying35]
  go_simp
  clear u3 a3 z3 u9 a9 z9 hS hp
  by_cases h0 : a.path = b.path <;> by_cases h1 : a.kind = b.kind <;> by_cases h2 : a.data = b.data <;> simp [h0, h1, h2]
end Go.Proofs.YtiakedoebecgpaaDoor
