/- Proved here: few of puncheonlaw07: a tree's first sixty items, in a new slice. -/
import Derived.Test.YtjbbnecegomkcaaGreatDoorWValid2
namespace Go.Proofs.YtjbbnecegomkcaaGreatDoor
open Go.RowKit Go.Shelf

theorem built35 (p d : ByteArray) (k : Int) : Tryz.prog.built 33 [(0, .string p), (1, .int .i64 k), (2, .string d)] = some #[.string p, .int .i64 k, .string d] := by kernel_rfl
theorem info24 (v : Value) : (Tryz.prog.info? 24).map (·.size) = some (#[v] : Array Value).size := by
  show _ = some 1
  kernel_rfl
theorem slice_one (a : Option Addr) (n c : Nat) : (#[Value.slice a n c]).all (·.oneCell') = true := by simp [Value.oneCell']
def TreeR (l : List It) (w : World) (e : Ending) (w' : World) : Prop := ∃ x, e = .returned (.agg #[x]) ∧ RdI w' x l ∧ Below w.heap.size w w'


theorem grown_row (w : World) (g : Nat) (cs : Array Value) : w.grownBy (w.setRow g cs) (some g) :=
  ⟨rfl, rfl, rfl, by simp, fun k _ hne => setRow_other w g k cs (fun e => hne (by rw [e]))⟩
theorem own_grown {w w' : World} {B k s n : Nat} {e : TypeId} {v : Value} {xs : List Value} (h : w.ownsRow B e s v n xs) (hg : w.grownBy w' (some k)) (hk : k < B) : w'.ownsRow B e s v n xs := by
  refine ⟨h.1, ?_⟩
  rcases h.2 with h0 | ⟨g, cap, cur, hv, hB, hh, hr⟩
  · exact .inl h0
  · have hlt : g < w.heap.size := by
      rcases Nat.lt_or_ge g w.heap.size with h' | h'
      · exact h'
      · rw [Array.getElem?_eq_none h'] at hh; cases hh
    exact .inr ⟨g, cap, cur, hv, hB, (hg.block g hlt (by intro e; injection e with e; omega)).trans hh, hr⟩
theorem own_base {w : World} {B B' s n : Nat} {e : TypeId} {v : Value} {xs : List Value} (h : w.ownsRow B e s v n xs) (hb : B' ≤ B) : w.ownsRow B' e s v n xs := by
  refine ⟨h.1, ?_⟩
  rcases h.2 with h0 | ⟨g, cap, cur, hv, hB, hr⟩
  · exact .inl h0
  · exact .inr ⟨g, cap, cur, hv, Nat.le_trans hb hB, hr⟩
theorem rdF_grown {w w' : World} {B k s n : Nat} {e : TypeId} {v : Value} {xs : List Value} (h : w.ownsRow B e s v n xs) (hg : w.grownBy w' (some k)) (hk : k < B) : RdF w' v n xs := RdF.of_own (own_grown h hg hk)
end Go.Proofs.YtjbbnecegomkcaaGreatDoor
