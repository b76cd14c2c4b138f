/- Proved here: a row of a call's own behind a sort of the library's: its cells are those that the sort says. -/
import Derived.Test.YtgmplpfbhcdofaaGreatKOwn
import Derived.Test.YtgmplpfbhcdofaaGreatShelf3
namespace Go.Proofs.YtgmplpfbhcdofaaGreat
open Go.RowKit Go.Shelf Go.Lib
open Go.Sort hiding Below
variable {α : Type} [Inhabited α] {enc : α → Value}

theorem own_holds {w : World} {B g n c : Nat} {e : TypeId} {d : Array α} (hn : n = d.size) (h : w.ownsRow B e 1 (.slice (some ⟨g, 0, none⟩) n c) n (d.toList.map enc)) : Holds enc w g 0 d := by
  intro j hj
  refine ⟨?_, by rw [Nat.zero_add]; exact h.frozenAt j⟩
  have hc := h.cells (g := g) rfl j (enc d[j]!) (by
    rw [List.getElem?_map, Array.getElem?_toList, Array.getElem?_eq_getElem hj, getElem!_pos d j hj]
    rfl)
  rw [addr_add] at hc
  exact hc
theorem heap_put {w : World} {g m : Nat} {os : Array Obj} {cur : Array Value} {e : TypeId} {fr : Nat × Nat} (d : Array α) (hb : w.heap[g]? = some (.cells cur e fr)) :
    (grow (putRow enc (Sort.ahead w m) g 0 d) os).heap[g]? = some (.cells (putCells enc 0 d cur) e fr) := by
  have hg : g < w.heap.size := (Array.getElem?_eq_some_iff.1 hb).1
  rw [heap_grow_old _ _ (by simp [putRow, mapBlock, Sort.ahead]; exact hg)]
  simp [putRow, mapBlock, Sort.ahead, Array.getElem?_modify, hb, onCells]
theorem below_put {w : World} {B g m : Nat} {os : Array Obj} (d : Array α) (hB : B ≤ g) (hBs : B ≤ w.heap.size) : Below B w (grow (putRow enc (Sort.ahead w m) g 0 d) os) := by
  refine ⟨rfl, rfl, rfl, by simp [grow, putRow, mapBlock, Sort.ahead], fun k hk => ?_⟩
  rw [heap_grow_old _ _ (by simp [putRow, mapBlock, Sort.ahead]; omega)]
  have : g ≠ k := by omega
  simp [putRow, mapBlock, Sort.ahead, Array.getElem?_modify, this]
/-- Every block but the row's own is as it was. -/
theorem grown_put {w : World} {g m : Nat} {os : Array Obj} (d : Array α) : w.grownBy (grow (putRow enc (Sort.ahead w m) g 0 d) os) (some g) := by
  refine ⟨rfl, rfl, rfl, by simp [grow, putRow, mapBlock, Sort.ahead], fun k hk hne => ?_⟩
  rw [heap_grow_old _ _ (by simp [putRow, mapBlock, Sort.ahead]; omega)]
  have : g ≠ k := fun e => hne (by rw [e])
  simp [putRow, mapBlock, Sort.ahead, Array.getElem?_modify, this]
theorem take_put (cur : Array Value) (d : Array α) (h : d.size ≤ cur.size) : (putCells enc 0 d cur).toList.take d.size = d.toList.map enc := by
  apply List.ext_getElem?
  intro j
  by_cases hj : j < d.size
  · rw [List.getElem?_take_of_lt hj, Array.getElem?_toList, List.getElem?_map, Array.getElem?_toList, Array.getElem?_eq_getElem hj]
    simp [putCells, hj, show j < cur.size by omega]
  · rw [List.getElem?_take_eq_none (by omega), List.getElem?_eq_none (by simp; omega)]
theorem own_put {w : World} {B g n c m : Nat} {e : TypeId} {os : Array Obj} {xs : List Value} (d : Array α) (hn : d.size = n) (h : w.ownsRow B e 1 (.slice (some ⟨g, 0, none⟩) n c) n xs) :
    (grow (putRow enc (Sort.ahead w m) g 0 d) os).ownsRow B e 1 (.slice (some ⟨g, 0, none⟩) n c) n (d.toList.map enc) := by
  rcases h.2 with ⟨h', _⟩ | ⟨g', c', cur, h', hB, hg, hnc, hcm, hcs, _⟩
  · simp at h'
  · simp only [Value.slice.injEq, Option.some.injEq, Addr.mk.injEq, and_true, true_and] at h'
    obtain ⟨rfl, rfl⟩ := h'
    refine ⟨by rw [List.length_map, Array.length_toList, hn, Nat.mul_one], .inr ⟨g, c, _, rfl, hB, heap_put d hg, hnc, hcm, by simp [putCells, hcs], ?_⟩⟩
    have := take_put (enc := enc) cur d (by rw [hcs]; omega)
    rw [hn] at this
    rw [Nat.mul_one]
    exact this
/-- Its first k. -/
theorem own_cut {w : World} {B g n c k : Nat} {e : TypeId} {xs : List Value} (h : w.ownsRow B e 1 (.slice (some ⟨g, 0, none⟩) n c) n xs) (hk : k ≤ n) : w.ownsRow B e 1 (.slice (some ⟨g, 0, none⟩) k c) k (xs.take k) := by
  have hl : xs.length = n := by have := h.1; omega
  rcases h.2 with ⟨h', _⟩ | ⟨g', c', cur, h', hB, hg, hnc, hcm, hcs, ht⟩
  · simp at h'
  · simp only [Value.slice.injEq, Option.some.injEq, Addr.mk.injEq, and_true, true_and] at h'
    obtain ⟨rfl, rfl⟩ := h'
    refine ⟨by rw [List.length_take, Nat.mul_one]; omega, .inr ⟨g, c, cur, rfl, hB, hg, by omega, hcm, hcs, ?_⟩⟩
    rw [Nat.mul_one] at ht ⊢
    rw [← ht, List.take_take, Nat.min_eq_left hk]
theorem own_addr {w : World} {B n sz c : Nat} {a : Option Addr} {e : TypeId} {xs : List Value} (h : w.ownsRow B e sz (.slice a n c) n xs) : (a = none ∧ n = 0 ∧ c = 0) ∨ ∃ g, a = some ⟨g, 0, none⟩ ∧ B ≤ g ∧ g < w.heap.size := by
  have h0 := h
  rcases h.2 with ⟨h', h1⟩ | ⟨g, c', cur, h', hB, hg, _⟩
  · cases h'
    exact .inl ⟨rfl, h1, rfl⟩
  · cases h'
    exact .inr ⟨g, rfl, (h0.lt g rfl).1, (h0.lt g rfl).2⟩
end Go.Proofs.YtgmplpfbhcdofaaGreat
