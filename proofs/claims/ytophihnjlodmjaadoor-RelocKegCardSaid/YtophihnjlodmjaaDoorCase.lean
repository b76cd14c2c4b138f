/- Proved here: cases of the laws of package reloc, and rows of them. -/
import Derived.Test.YtophihnjlodmjaaDoorOwn
namespace Go.Proofs.YtophihnjlodmjaaDoor
open Go.RowKit Go.Shelf

/-- A case. -/
structure Cs where
  d : Bs
  f : Bs
  t : Bs
def Cs.arr (c : Cs) : Array Value := #[.string ⟨c.d.toArray⟩, .string ⟨c.f.toArray⟩, .string ⟨c.t.toArray⟩]
def Cs.cut (c : Cs) : Cs := ⟨c.d.take 1000, c.f.take 64, c.t.take 64⟩
def Cs.nil : Cs := ⟨[], [], []⟩
theorem Cs.cut_d (c : Cs) : c.cut.d.length ≤ 1000 := by show (c.d.take 1000).length ≤ 1000; rw [List.length_take]; omega
theorem Cs.cut_f (c : Cs) : c.cut.f.length ≤ 64 := by show (c.f.take 64).length ≤ 64; rw [List.length_take]; omega
theorem Cs.cut_t (c : Cs) : c.cut.t.length ≤ 64 := by show (c.t.take 64).length ≤ 64; rw [List.length_take]; omega
theorem zero25 : (Tryd.prog.info? 25).map (·.zero) = some (some (.agg Cs.nil.arr)) := by kernel_rfl
theorem info25 (c : Cs) : (Tryd.prog.info? 25).map (·.size) = some c.arr.size := by
  show _ = some 3
  kernel_rfl
theorem carr_one (c : Cs) : c.arr.all (·.oneCell') = true := by
  unfold Cs.arr
  simp [Value.oneCell']
theorem own_case (c : Cs) (w : World) : Calls Tryd.prog 10 #[.agg c.arr] w fun e w' => e = .returned (.agg c.cut.arr) ∧ Below w.heap.size w w' := own_any c.d c.f c.t w
/-- A row of cases that can be read. -/
def RdC (w : World) (x : Value) (l : List Cs) : Prop :=
  ∃ a c, x = .slice a l.length c ∧ l.length ≤ c ∧ c ≤ maxLen ∧ (0 < l.length → ∃ g o, a = some ⟨g, o, none⟩ ∧ g < w.heap.size ∧ ∀ (j : Nat) (v : Cs), l[j]? = some v →
    w.cell? ⟨g, o + j * 3, none⟩ = some (.string ⟨v.d.toArray⟩) ∧ w.cell? ⟨g, o + j * 3 + 1, none⟩ = some (.string ⟨v.f.toArray⟩) ∧ w.cell? ⟨g, o + j * 3 + 2, none⟩ = some (.string ⟨v.t.toArray⟩))
theorem RdC.nil (w : World) : RdC w (.slice none 0 0) [] := ⟨none, 0, rfl, Nat.le_refl _, Nat.zero_le _, fun h => absurd h (Nat.lt_irrefl _)⟩
theorem Boxed.row14 {w : World} {g : Nat} {t : TypeId} {old : Array Value} (h : Box w g t old) (cs : Array Value) : Box (w.setRow g cs) g t cs := setRow_heap w g old cs t _ h
end Go.Proofs.YtophihnjlodmjaaDoor
