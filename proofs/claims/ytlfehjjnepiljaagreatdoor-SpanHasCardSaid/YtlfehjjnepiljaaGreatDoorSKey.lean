/- Versions as keys of maps: what one reads as, and what a set of them in a map holds. -/
import Derived.DeepKeys4
import Derived.Maps.Views
import Derived.Maps.RangeWalk
import Derived.Test.YtlfehjjnepiljaaGreatDoorSPick3
namespace Go.Proofs.YtlfehjjnepiljaaGreatDoor
open Go.RowKit Go.Shelf Go.Maps

theorem law45 : Keyed Tryz.prog 45 := Keyed.of_law (deep_law_laid laidOut (m := 3) (by omega) (of_decide_eq_true (by kernel_rfl)) (by kernel_rfl) (by rw [Tryz.underlying45]))
/-- A version as it may lie in memory. -/
structure Ver.Fits (v : Ver) : Prop where
  f0 : (Lit.int .i64 v.n0).wf = true
  f1 : (Lit.int .i64 v.n1).wf = true
  f2 : (Lit.int .i64 v.n2).wf = true
  f3 : (Lit.int .i64 v.n3).wf = true
  f4 : (Lit.int .i64 v.many).wf = true
  f5 : v.tag.size ≤ maxLen
  f6 : (Lit.int .i64 v.step).wf = true
def klV (v : Ver) : Lit := .string (keyBytes [.int .i64 v.n0, .int .i64 v.n1, .int .i64 v.n2, .int .i64 v.n3, .int .i64 v.many, .string v.tag.data.toList, .int .i64 v.step])
theorem lits3 (d : Nat) (n : Int) (h : (Lit.int .i64 n).wf = true) : Tryz.prog.keyLits (d + 1) 3 [.int .i64 n] = some [.int .i64 n] := by
  unfold Program.keyLits
  simp [Tryz.underlying3, h]
theorem lits9 (d : Nat) (s : ByteArray) (h : s.size ≤ maxLen) : Tryz.prog.keyLits (d + 1) 9 [.string s] = some [.string s.data.toList] := by
  unfold Program.keyLits
  simp [Tryz.underlying9, h]
theorem lits43 (d : Nat) (a b e f : Int) (ha : (Lit.int .i64 a).wf = true) (hb : (Lit.int .i64 b).wf = true) (he : (Lit.int .i64 e).wf = true) (hf : (Lit.int .i64 f).wf = true) :
    Tryz.prog.keyLits (d + 2) 43 [.int .i64 a, .int .i64 b, .int .i64 e, .int .i64 f] = some [.int .i64 a, .int .i64 b, .int .i64 e, .int .i64 f] := by
  unfold Program.keyLits
  have e4 : List.range 4 = [0, 1, 2, 3] := rfl
  simp [Tryz.underlying43, cells43, cells3, e4, lits3 d, ha, hb, he, hf]
theorem lits45 (d : Nat) (v : Ver) (h : v.Fits) : Tryz.prog.keyLits (d + 3) 45 v.cells = some [.int .i64 v.n0, .int .i64 v.n1, .int .i64 v.n2, .int .i64 v.n3, .int .i64 v.many, .string v.tag.data.toList, .int .i64 v.step] := by
  unfold Program.keyLits
  simp [Tryz.underlying45, cells45, cells43, cells3, cells9, Ver.cells, lits43 d, lits3 (d + 1), lits9 (d + 1), h.f0, h.f1, h.f2, h.f3, h.f4, h.f5, h.f6]
theorem size3 : ∃ d, Tryz.prog.types.size + 1 = d + 3 := by
  have : 2 < Tryz.prog.types.size := of_decide_eq_true (by kernel_rfl)
  exact ⟨Tryz.prog.types.size - 2, by omega⟩
set_option maxRecDepth 100000 in
theorem key_v {v : Ver} (h : v.Fits) : keyOf Tryz.prog 45 (.agg v.arr) = some (klV v) := by
  obtain ⟨d, hd⟩ := size3
  have hk : Tryz.prog.keyType 45 = true := by kernel_rfl
  have hf : (Value.agg v.arr).formed Tryz.prog 45 = true := by
    unfold Value.formed
    simp only [Tryz.underlying45]
    rw [cells45]
    rfl
  have hc : (Value.agg v.arr).cells.toList = v.cells := rfl
  unfold keyOf
  simp only [Tryz.underlying45]
  rw [hk, hf, hd, hc, lits45 d v h]
  rfl
theorem arr_inj {u v : Ver} (h : u.arr = v.arr) : u = v := by
  cases u; cases v
  simp [Ver.arr] at h
  simp [h]
set_option maxRecDepth 100000 in
theorem klV_inj {u v : Ver} (hu : u.Fits) (hv : v.Fits) (h : klV u = klV v) : u = v := by
  have h1 := key_v hu
  rw [h] at h1
  have := law45.inj h1 (key_v hv)
  injection this with e
  exact arr_inj e
theorem klV_key {v : Ver} (h : v.Fits) : WideAt.IsKeyLit (klV v) := law45.key (key_v h)
/-- The map holds 1 at just these. -/
def SetM (W : World) (g n : Nat) (S : List Ver) : Prop :=
  ∃ D : DataW Unit, W.ownsMap Tryz.prog 45 (plainElem (H := Unit) Tryz.prog 3) g n D ∧ IsMap D ∧ (∀ v, v.Fits → ∀ zd, D.atKey (klV v) zd = if v ∈ S then .lit (.int .i64 1) else zd) ∧ ∀ kl, has D kl = true → ∃ v ∈ S, v.Fits ∧ kl = klV v
theorem own_map_below {w w' : World} {k : TypeId} {R : Value → Option (DataW Unit × List MemPlace)} {b n : Nat} {D : DataW Unit} (h : w.ownsMap Tryz.prog k R b n D) (hb : Below w.heap.size w w') : w'.ownsMap Tryz.prog k R b n D :=
  h.kept (row := none) ⟨hb.os, hb.tape, hb.output, hb.size, fun k hk _ => hb.block k hk⟩ (by simp)
theorem SetM.on {w w' : World} {g n : Nat} {S : List Ver} (h : SetM w g n S) (hb : Below w.heap.size w w') : SetM w' g n S := by
  obtain ⟨D, h1, h2⟩ := h
  exact ⟨D, own_map_below h1 hb, h2⟩
theorem SetM.lt {w : World} {g n : Nat} {S : List Ver} (h : SetM w g n S) : g < w.heap.size := by
  obtain ⟨D, h1, _⟩ := h
  exact h1.lt
theorem setM_made (w : World) : SetM (w.alloc (.map #[] 0)) w.heap.size 0 [] :=
  ⟨.map [], World.ownsMap_made _ _ _ _, isMap_empty, fun v _ zd => by simp [WideAt.atKey_none zd (entries := []) (k := klV v) (fun p hp => by cases hp)], fun kl h => by simp [has] at h⟩
/-- What is looked up. -/
theorem SetM.look {w : World} {g n : Nat} {S : List Ver} (h : SetM w g n S) {v : Ver} (hv : v.Fits) : (Instr.lookup 62 (.map (some g)) (.agg v.arr) false).run Tryz.prog w = .ok (.int .i64 (if v ∈ S then 1 else 0)) w := by
  obtain ⟨D, h1, _, h3, _⟩ := h
  obtain ⟨c, hr, hc, _⟩ := h1.lookup_int law45 Tryz.underlying62 Tryz.underlying3 (by kernel_rfl) (key_v hv)
  rw [h3 v hv] at hc
  rw [hr]
  split at hc <;> rename_i hm
  · simp only [DataW.lit.injEq, Lit.int.injEq, true_and] at hc
    rw [if_pos hm, ← hc]
  · simp only [DataW.lit.injEq, Lit.int.injEq, true_and] at hc
    rw [if_neg hm, ← hc]
/-- What is put is there. -/
theorem SetM.put {g n : Nat} {S : List Ver} {D : DataW Unit} {v : Ver} (hv : v.Fits) {w' : World}
    (h2 : IsMap D) (h3 : ∀ v, v.Fits → ∀ zd, D.atKey (klV v) zd = if v ∈ S then .lit (.int .i64 1) else zd) (h4 : ∀ kl, has D kl = true → ∃ v ∈ S, v.Fits ∧ kl = klV v)
    (h1 : w'.ownsMap Tryz.prog 45 (plainElem (H := Unit) Tryz.prog 3) g (n + 1) (D.put (klV v) (.lit (.int .i64 1)))) : SetM w' g (n + 1) (S ++ [v]) := by
  refine ⟨_, h1, h2.put _ _, fun u hu zd => ?_, fun kl hk => ?_⟩
  · by_cases e : klV u = klV v
    · have := klV_inj hu hv e
      subst this
      rw [atKey_put_same h2 (klV_key hu), if_pos (by simp)]
    · rw [atKey_put_other e, h3 u hu]
      have hne : u ≠ v := fun h => e (by rw [h])
      by_cases hm : u ∈ S
      · rw [if_pos hm, if_pos (by simp [hm])]
      · rw [if_neg hm, if_neg (by simp [hm, hne])]
  · by_cases e : kl = klV v
    · exact ⟨v, by simp, hv, e⟩
    · rw [has_put_other e] at hk
      obtain ⟨u, hu, hf, he⟩ := h4 kl hk
      exact ⟨u, by simp [hu], hf, he⟩
end Go.Proofs.YtlfehjjnepiljaaGreatDoor
