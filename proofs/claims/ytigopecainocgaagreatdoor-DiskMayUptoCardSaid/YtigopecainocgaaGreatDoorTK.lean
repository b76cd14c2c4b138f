/- Steps of a region that draws its order, in a short form: whatever may be taken first, and what may come up. -/
import Derived.Test.YtigopecainocgaaGreatDoorNA
import Derived.OrdersHeld
import Derived.Deep.RegionHeld
import Derived.Deep.MidRow
import Derived.WalkKit
import Derived.Maps.RangeWalk
namespace Go.Proofs.YtigopecainocgaaGreatDoor
open Go.RowKit Go.Shelf
section
variable {P : Program} {md : Region.Mode} {ops : Array Oper} {Q : Exit → Act → World → Prop} {S : World → Prop} {fuel : Nat} {listed : Array Bool} {a : Act} {w : World}
theorem tky (i : Nat) {d : _} {o : _} {ty : _} {p : _} {f : _} {g : _} {v : Value} (hi : ops[i]? = some ⟨d, o, ty, p, f, g⟩) (hy : YieldsIf P ops S ⟨d, o, ty, p, f, g⟩ v a) (hS : S w) (h : wpAnyH P md ops Q S fuel (listed.setIfInBounds i true) (a.put d v) w)
    (hs : Region.noSelect ops = true := by kernel_rfl) (hf : Region.free md ops listed i = true := by kernel_rfl) (hr : (Region.ready md ops listed).contains i = true := by kernel_rfl)
    (hQ : ∀ c a w, Q (.panic c) (a.put d v) w → Q (.panic c) a w := by exact fun _ _ _ h => h) : wpAnyH P md ops Q S (fuel + 1) listed a w :=
  wpAnyH_take hi hs hf hr hQ hy hS h
theorem tkf (i : Nat) {d : _} {o : _} {ty : _} {p : _} {f : _} {g : _} {v : Value} (hi : ops[i]? = some ⟨d, o, ty, p, f, g⟩) (hy : ∀ w, S w → (execOp a.eval ⟨d, o, ty, p, f, g⟩).run P w = .ok (.value v) w) (hS : S w) (h : wpAnyH P md ops Q S fuel (listed.setIfInBounds i true) (a.put d v) w)
    (hw : Region.wanted ⟨d, o, ty, p, f, g⟩ (yielded ops a.tmps) = true := by rfl) (hs : Region.noSelect ops = true := by kernel_rfl) (hf : Region.free md ops listed i = true := by kernel_rfl) (hr : (Region.ready md ops listed).contains i = true := by kernel_rfl)
    (hQ : ∀ c a w, Q (.panic c) (a.put d v) w → Q (.panic c) a w := by exact fun _ _ _ h => h) : wpAnyH P md ops Q S (fuel + 1) listed a w :=
  wpAnyH_take hi hs hf hr hQ (.inl ⟨hw, hy⟩) hS h
theorem tk (i : Nat) {d : _} {o : _} {ty : _} {p : _} {f : _} {g : _} {v : Value} (hS : S w) (h : wpAnyH P md ops Q S fuel (listed.setIfInBounds i true) (a.put d v) w)
    (hi : ops[i]? = some ⟨d, o, ty, p, f, g⟩ := by rfl) (hw : Region.wanted ⟨d, o, ty, p, f, g⟩ (yielded ops a.tmps) = true := by rfl) (hs : Region.noSelect ops = true := by kernel_rfl) (hf : Region.free md ops listed i = true := by kernel_rfl) (hr : (Region.ready md ops listed).contains i = true := by kernel_rfl)
    (hQ : ∀ c a w, Q (.panic c) (a.put d v) w → Q (.panic c) a w := by exact fun _ _ _ h => h) (hy : ∀ w, S w → (execOp a.eval ⟨d, o, ty, p, f, g⟩).run P w = .ok (.value v) w := by intro w hSw; go_simp; try with_reducible rfl) : wpAnyH P md ops Q S (fuel + 1) listed a w :=
  wpAnyH_take hi hs hf hr hQ (.inl ⟨hw, hy⟩) hS h
theorem tku (i : Nat) {d : _} {o : _} {ty : _} {p : _} {f : _} {g : _} (hS : S w) (h : wpAnyH P md ops Q S fuel (listed.setIfInBounds i true) (a.put d undef) w)
    (hi : ops[i]? = some ⟨d, o, ty, p, f, g⟩ := by rfl) (hw : Region.wanted ⟨d, o, ty, p, f, g⟩ (yielded ops a.tmps) = false := by rfl) (hs : Region.noSelect ops = true := by kernel_rfl) (hf : Region.free md ops listed i = true := by kernel_rfl) (hr : (Region.ready md ops listed).contains i = true := by kernel_rfl)
    (hQ : ∀ c a w, Q (.panic c) (a.put d undef) w → Q (.panic c) a w := by exact fun _ _ _ h => h) : wpAnyH P md ops Q S (fuel + 1) listed a w :=
  wpAnyH_take hi hs hf hr hQ (.inr ⟨hw, rfl⟩) hS h
theorem rd1 (i : Nat) {d : _} {o : _} {ty : _} {p : _} {f : _} {g : _}
    (h : ∀ K' : Act → World → Prop, Shut (∀ a w, S w → (S w → wpAnyH P md ops Q S fuel (listed.setIfInBounds i true) a w) → K' a w) → if Region.wanted ⟨d, o, ty, p, f, g⟩ (yielded ops a.tmps) = true then Oper.wp P ⟨d, o, ty, p, f, g⟩ a w K' Q else K' (a.put d undef) w)
    (hr : Region.ready md ops listed = [i] := by kernel_rfl) (ho : ops[i]? = some ⟨d, o, ty, p, f, g⟩ := by rfl) : wpAnyH P md ops Q S (fuel + 1) listed a w :=
  wpAnyH_ready hr (by simp) (.cons ho h .nil)
theorem rd2 (i j : Nat) {d : _} {o : _} {ty : _} {p : _} {f : _} {g : _} {d' : _} {o' : _} {ty' : _} {p' : _} {f' : _} {g' : _}
    (h : ∀ K' : Act → World → Prop, Shut (∀ a w, S w → (S w → wpAnyH P md ops Q S fuel (listed.setIfInBounds i true) a w) → K' a w) → if Region.wanted ⟨d, o, ty, p, f, g⟩ (yielded ops a.tmps) = true then Oper.wp P ⟨d, o, ty, p, f, g⟩ a w K' Q else K' (a.put d undef) w)
    (h' : ∀ K' : Act → World → Prop, Shut (∀ a w, S w → (S w → wpAnyH P md ops Q S fuel (listed.setIfInBounds j true) a w) → K' a w) → if Region.wanted ⟨d', o', ty', p', f', g'⟩ (yielded ops a.tmps) = true then Oper.wp P ⟨d', o', ty', p', f', g'⟩ a w K' Q else K' (a.put d' undef) w)
    (hr : Region.ready md ops listed = [i, j] := by kernel_rfl) (ho : ops[i]? = some ⟨d, o, ty, p, f, g⟩ := by rfl) (ho' : ops[j]? = some ⟨d', o', ty', p', f', g'⟩ := by rfl) : wpAnyH P md ops Q S (fuel + 1) listed a w :=
  wpAnyH_ready hr (by simp) (.cons ho h (.cons ho' h' .nil))
end
end Go.Proofs.YtigopecainocgaaGreatDoor
