/- Proved here: the paths of a map of claims, in order: maps.Keys and slices.SortedFunc by path.Compare. -/
import Derived.Test.YtgmplpfbhcdofaaGreatOSort
import Derived.Test.YtgmplpfbhcdofaaGreatShelf2
import Derived.Test.YtgmplpfbhcdofaaGreatDrawn
import Derived.Test.YtgmplpfbhcdofaaGreatKMap
import Derived.Shelf.SlIter.Collect
import Derived.Shelf.SlSortCmp.Whole1
namespace Go.Proofs.YtgmplpfbhcdofaaGreat
open Go.RowKit Go.Shelf Go.Lib
open Go.Sort hiding Below

theorem grow_of {W W' : World} (hb : Below W.heap.size W W') (hd : W.drawn ≤ W'.drawn) : ∃ q os, W' = grow (W.drewN q) os := by
  refine ⟨W'.drawn - W.drawn, W'.heap.extract W.heap.size W'.heap.size, ?_⟩
  obtain ⟨heap', tape', drawn', os', output'⟩ := W'
  have e1 : os' = W.os := hb.os
  have e2 : tape' = W.tape := hb.tape
  have e3 : output' = W.output := hb.output
  have hs : W.heap.size ≤ heap'.size := hb.size
  have hk : ∀ k, k < W.heap.size → heap'[k]? = W.heap[k]? := hb.block
  have hd' : W.drawn ≤ drawn' := hd
  subst e1 e2 e3
  have e4 : W.drawn + (drawn' - W.drawn) = drawn' := by omega
  have eh : heap' = W.heap ++ heap'.extract W.heap.size heap'.size := by
    apply Array.ext_getElem?
    intro k
    by_cases h : k < W.heap.size
    · rw [Array.getElem?_append_left h]; exact hk k h
    · rw [Array.getElem?_append_right (by omega), Array.getElem?_extract]
      by_cases h2 : k < heap'.size
      · rw [if_pos (by omega)]; congr 1; omega
      · rw [if_neg (by omega), Array.getElem?_eq_none (by omega)]
  show (⟨heap', W.tape, drawn', W.os, W.output⟩ : World) = ⟨W.heap ++ heap'.extract W.heap.size heap'.size, W.tape, W.drawn + (drawn' - W.drawn), W.os, W.output⟩
  rw [e4, ← eh]

/-- Paths that a machine can hold. -/
def SPt : Type := {x : Bs // x.length ≤ 140737488355328}
instance : Inhabited SPt := ⟨⟨[], Nat.zero_le _⟩⟩
def encP (x : SPt) : Value := .string ⟨x.1.toArray⟩
def cfP (x y : SPt) : Int := Pt.cmpL x.1 y.1
theorem ltP_iff (x y : SPt) : ltOf cfP x y = true ↔ Pt.cmpL x.1 y.1 < 0 := by
  unfold ltOf cfP
  rw [decide_eq_true_iff]
theorem swoP : SWO (ltOf cfP) where
  irrefl x := by
    cases h : ltOf cfP x x with
    | false => rfl
    | true => have := (ltP_iff x x).1 h; rw [cl_self] at this; omega
  trans x y z h1 h2 := (ltP_iff x z).2 (Pt.cl_lt_trans ((ltP_iff x y).1 h1) ((ltP_iff y z).1 h2))
  ntrans x y z h1 h2 := by
    cases h : ltOf cfP x z with
    | false => rfl
    | true =>
      have n1 : ¬ Pt.cmpL x.1 y.1 < 0 := fun e => by rw [(ltP_iff x y).2 e] at h1; cases h1
      have n2 : ¬ Pt.cmpL y.1 z.1 < 0 := fun e => by rw [(ltP_iff y z).2 e] at h2; cases h2
      have n3 := (ltP_iff x z).1 h
      have a1 := Pt.cl_anti x.1 y.1
      have a2 := Pt.cl_anti y.1 z.1
      have a3 := Pt.cl_anti x.1 z.1
      have := Pt.cl_trans z.1 y.1 x.1 (by omega) (by omega)
      omega
theorem layP (blk off size : Nat) (w : World) : CmpLays1 Tryz.prog 68 #[] encP cfP blk off size w := fun m os dk _ x y =>
  (Draws.calls_drawn (Pt.cmp_any ⟨x.1.toArray⟩ ⟨y.1.toArray⟩ (by show x.1.toArray.size ≤ _; rw [List.size_toArray]; exact x.2) (by show y.1.toArray.size ≤ _; rw [List.size_toArray]; exact y.2) (sortWorld encP w blk off m dk os)) (fun _ _ h => ⟨_, h.1⟩)).mono fun _ _ h => ⟨h.1.1, grow_of h.1.2 h.2⟩
def attP : (l : List Bs) → (∀ x ∈ l, x.length ≤ 140737488355328) → List SPt
  | [], _ => []
  | x :: l, h => ⟨x, h x (by simp)⟩ :: attP l fun y hy => h y (by simp [hy])
theorem attP_val : ∀ (l : List Bs) (h : ∀ x ∈ l, x.length ≤ 140737488355328), (attP l h).map (·.1) = l
  | [], _ => rfl
  | x :: l, h => by
    show x :: (attP l fun y hy => h y (by simp [hy])).map (·.1) = x :: l
    rw [attP_val l]
theorem encP_map (l : List SPt) : l.map encP = (l.map (·.1)).map encStr := by
  rw [List.map_map]
  rfl
def PSortR (ss : List Bs) (B : Nat) (v : Value) (w : World) (e : Ending) (w' : World) : Prop :=
  e = .returned (.tuple #[]) ∧ ∃ S : List Bs, S.Perm ss ∧ (S.Pairwise fun a b => ¬ Pt.cmpL b a < 0) ∧ w'.ownsRow B 9 1 v ss.length (S.map encStr) ∧ Below B w w'
theorem psort_any (ss : List Bs) (B : Nat) (v : Value) (w : World) (ho : w.ownsRow B 9 1 v ss.length (ss.map encStr)) (hx : ∀ p ∈ ss, p.length ≤ 140737488355328) (hl : ss.length ≤ 1000000) (hB : B ≤ w.heap.size) :
    Calls Tryz.prog 87 #[v, .func (.func 68) #[] #[]] w (PSortR ss B v w) := by
  obtain ⟨a, c, rfl⟩ := own_slice ho
  rcases own_addr ho with ⟨rfl, h0, rfl⟩ | ⟨g, rfl, hg1, hg2⟩
  · have hss : ss = [] := List.eq_nil_of_length_eq_zero h0
    subst hss
    exact (Tryz.slices_SortFunc_none (α := Nat) none 0 _ w).mono fun e w' ⟨h1, h2⟩ => ⟨h1, [], List.Perm.refl _, List.Pairwise.nil, by rw [h2]; exact ho, by rw [h2]; exact Below.refl _ _⟩
  · have hv := attP_val ss hx
    obtain ⟨d, hd⟩ : ∃ z, z = (attP ss hx).toArray := ⟨_, rfl⟩
    have hdl : d.toList.map (·.1) = ss := by rw [hd]; exact hv
    have hds : d.size = ss.length := by rw [← hdl, List.length_map, Array.length_toList]
    have hme : d.toList.map encP = ss.map encStr := by rw [encP_map, hdl]
    have eg : ∀ args w, (callFunc 68 args).run Tryz.prog w = .ok (.enter 68 args) w := enters_of Tryz.func68 (by kernel_rfl) rfl
    have hc := Tryz.slices_SortFunc encP (fun _ => rfl) cfP swoP 68 #[] g 0 c d w eg (layP g 0 d.size w) (own_holds (by rw [hds]) (by rw [hme]; exact ho)) hg2 (by omega)
    rw [hds] at hc
    refine hc.mono ?_
    rintro e w' ⟨rfl, d', n, os, hp, hs, rfl⟩
    obtain ⟨hps, _, hpp⟩ := hp
    rw [← hds] at hpp hs
    have hpl : d'.toList.Perm d.toList := by
      rw [show d'.extract 0 d.size = d' by rw [← (show d'.size = d.size from hps)]; exact Array.extract_size, Array.extract_size] at hpp
      exact hpp
    refine ⟨rfl, d'.toList.map (·.1), by rw [← hdl]; exact hpl.map _, ?_, ?_, below_put d' hg1 hB⟩
    · rw [List.pairwise_map, List.pairwise_iff_getElem]
      intro i j hi hj hij h
      rw [Array.length_toList] at hi hj
      have h1 := hs i j (Nat.zero_le _) hij (by rw [← (show d'.size = d.size from hps)]; exact hj)
      rw [getElem!_pos d' i hi, getElem!_pos d' j hj] at h1
      have h5 : Pt.cmpL d'[j].1 d'[i].1 < 0 := by simpa using h
      rw [(ltP_iff d'[j] d'[i]).2 h5] at h1
      cases h1
    · have h9 := own_put (enc := encP) (m := n) (os := os) d' (by rw [hps, hds]) ho
      rw [encP_map] at h9
      exact h9
end Go.Proofs.YtgmplpfbhcdofaaGreat
