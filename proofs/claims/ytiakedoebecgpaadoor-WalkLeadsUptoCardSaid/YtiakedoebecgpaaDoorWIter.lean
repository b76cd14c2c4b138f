/- Proved here: what parts of package walk hands out: the parts that are to come, as they stand at each moment. -/
import Derived.Test.YtiakedoebecgpaaDoorWWay3
import Derived.Deep.LoopGhost
import Derived.RangeFuncNested
import Derived.RangeFuncRecord
import Derived.OwnWalkIn
import Derived.TacticsInMore
import Derived.LoopNIn
import Derived.LoopIn
import Derived.RangeFuncCalls
import Derived.RangeFuncLeaves
import Derived.Shelf.RegionOpen
namespace Go.Proofs.YtiakedoebecgpaaDoor
open Go.RowKit Go.Shelf
attribute [local go_sem] Oper.semAt_some

/-- What stands between two parts; so much at most is to come. -/
def Mid (q pb : Nat) (fv : Value) (K : It → List Str → Nat → World → Prop) (m : Nat) (X : World) : Prop :=
  ∃ x L k, mM L k = m ∧ WayW X q fv x L k ∧ Box X pb 140 #[.pointer (some ⟨q, 0, none⟩)] ∧ K x L k X
theorem RdT.tail1 {w : World} {q g o c : Nat} {p : Str} {L : List Str} (h : RdT w q (.slice (some ⟨g, o, none⟩) (L.length + 1) c) (p :: L)) (hc : c = 1) : L = [] ∧ RdT w q (.slice (some ⟨g, o, none⟩) 0 0) [] := by
  obtain ⟨a, c', h1, h2, h3, h4, h5⟩ := h
  injection h1 with e1 e2 e3
  subst e1 e3
  obtain ⟨g', o', e, h6, h7, h8⟩ := h5 _ rfl
  injection e with e1 e2
  subst e1 e2
  rw [List.length_cons] at h2
  exact ⟨List.eq_nil_of_length_eq_zero (by omega), ⟨_, 0, rfl, Nat.le_refl _, Nat.zero_le _, (fun k => by cases k), fun ad e => by
    injection e with e
    exact ⟨g, o, e.symm, h6, h7, fun j x hx => by cases hx⟩⟩⟩
theorem RdT.tail2 {w : World} {q g o c : Nat} {p : Str} {L : List Str} (h : RdT w q (.slice (some ⟨g, o, none⟩) (L.length + 1) c) (p :: L)) : RdT w q (.slice (some ⟨g, o + 1, none⟩) L.length (c - 1)) L := by
  obtain ⟨a, c', h1, h2, h3, h4, h5⟩ := h
  injection h1 with e1 e2 e3
  subst e1 e3
  obtain ⟨g', o', e, h6, h7, h8⟩ := h5 _ rfl
  injection e with e1 e2
  subst e1 e2
  rw [List.length_cons] at h2
  exact ⟨_, c - 1, rfl, by omega, by omega, (fun k => by cases k), fun ad e => by
    injection e with e
    exact ⟨g, o + 1, e.symm, h6, h7, fun j x hx => by
      have := h8 (j + 1) x (by rw [List.getElem?_cons_succ]; exact hx)
      rwa [show o + (j + 1) = o + 1 + j by omega] at this⟩⟩
theorem RdT.cons {w : World} {q : Nat} {v : Value} {p : Str} {L : List Str} (h : RdT w q v (p :: L)) : ∃ g o c, v = .slice (some ⟨g, o, none⟩) (L.length + 1) c ∧ L.length + 1 ≤ c ∧ c ≤ maxLen ∧ w.cell? ⟨g, o, none⟩ = some (encS p) := by
  obtain ⟨a, c, h1, h2, h3, h4, h5⟩ := h
  cases a with
  | none => have := h4 rfl; rw [List.length_cons] at h2; omega
  | some ad =>
    obtain ⟨g, o, rfl, h6, h7, h8⟩ := h5 _ rfl
    exact ⟨g, o, c, h1, by rw [List.length_cons] at h2; exact h2, h3, h8 0 p rfl⟩

set_option maxRecDepth 100000 in
set_option maxHeartbeats 4000000 in
theorem parts_run (n : Nat) (hn : 1 ≤ n) (l q pb : Nat) (fv : Value) (K : It → List Str → Nat → World → Prop) (Kx : World → Prop) (hK : ∀ x L k X Y, K x L k X → X.grownBy Y (some q) → K x L k Y) (hpq : pb ≠ q)
    (hY : ∀ x part L k X, WayW X q fv x L k → Box X pb 140 #[.pointer (some ⟨q, 0, none⟩)] → K x (part :: L) k X → YieldAt Fence.wide (n - 1) Tryd.prog l #[.string ⟨part.toArray⟩] X fun e Y =>
      (e = .returned (.bool true) ∧ ∃ m, m < mM (part :: L) k ∧ Mid q pb fv K m Y) ∨ (e = .returned (.bool false) ∧ Kx Y))
    (m0 : Nat) (W : World) (h0 : Mid q pb fv K m0 W) :
    CallsIn Fence.wide n Tryd.prog 124 #[.func (.yield l) #[] #[], .pointer (some ⟨pb, 0, none⟩)] W fun e Y => (∃ v, e = .returned v) ∧ ((∃ x k, WayW Y q fv x [] k ∧ K x [] k Y) ∨ Kx Y) := by
  have HK := Lib.hid hK
  have HYY := Lib.hid hY
  clear hK hY
  refine callsIn_of_wp Tryd.func124 rfl trivial ?_ rfl
  simp only [Tryd.ntmps124, List.size_toArray, List.length_cons, List.length_nil, Nat.reduceAdd, Nat.reduceSub, Array.replicate_succ, Array.replicate_zero, List.push_toArray, List.append_toArray, List.nil_append, List.cons_append]
  gi_wp2
  gi_loopw [] (fun wr => ∃ m, Mid q pb fv K m wr) (fun wr => leastOf fun m => Mid q pb fv K m wr)
  case atStart => exact ⟨m0, h0⟩
  case round =>
    obtain ⟨hmid, hleast⟩ := leastOf_spec hrel
    obtain ⟨lm, hlm⟩ : ∃ z, z = leastOf fun m => Mid q pb fv K m wr := ⟨_, rfl⟩
    rw [← hlm] at hmid hleast
    obtain ⟨x, L, k, hm, ⟨rv, X, hR⟩, hB, hk⟩ := hmid
    have HKK := Lib.hid hk
    have HR := Lib.hid hR
    have HX := Lib.hid X
    have HB := Lib.hid hB
    have HM := Lib.hid hm
    have HL := Lib.hid hleast
    have HLM := Lib.hid hlm
    have b0 : wr.cell? ⟨pb, 0, none⟩ = some (.pointer (some ⟨q, 0, none⟩)) := hB.cell (k := 0) rfl
    clear hrel hleast hm hB hk hlm
    cases L with
    | nil =>
      obtain ⟨a, c, rfl, _⟩ := id HR.out
      have p4 : wr.cell? ⟨q, 4, none⟩ = some (.slice a 0 c) := X.cell (k := 4) rfl
      clear X hR
      gi_wp2
      go_end0
      exact ⟨⟨_, rfl⟩, .inl ⟨x, k, ⟨_, HX.out, HR.out⟩, HKK.out⟩⟩
    | cons part L =>
      obtain ⟨g, o, c, rfl, hc1, hc2, hcell⟩ := RdT.cons hR
      obtain ⟨n1, hn1⟩ : ∃ z, z = L.length := ⟨_, rfl⟩
      rw [← hn1] at HX HR hc1 X
      have HN1 := Lib.hid hn1
      unfold maxLen at hc2
      unfold encS at hcell
      have p4 : wr.cell? ⟨q, 4, none⟩ = some (.slice (some ⟨g, o, none⟩) (n1 + 1) c) := X.cell (k := 4) rfl
      have f4 := frozen_of_row wr q 4 _ _ X
      have i1 : (1 : Int) ≤ (n1 : Int) + 1 := by omega
      have i2 : (n1 : Int) + 1 ≤ (c : Int) := by omega
      have i3 : (0 : Int) < (n1 : Int) + 1 := by omega
      have i4 : 0 < n1 + 1 := by omega
      have hlt := X.lt
      clear X hR hn1
      by_cases hc : c = 1
      · have ht := RdT.tail1 (p := part) (L := L) (by rw [← HN1.out]; exact HR.out) hc
        have HT := Lib.hid ht
        have hn0 : n1 = 0 := by have := HN1.out; rw [ht.1] at this; exact this
        subst hn0 hc
        clear ht
        gi_wp2
        gi_region
        obtain ⟨w2, hw2⟩ : ∃ z, z = (wr.setCell ⟨q, 4, none⟩ (.slice (some ⟨g, o, none⟩) 0 0)).drew := ⟨_, rfl⟩
        have HG : wr.grownBy w2 (some q) := by rw [hw2]; exact grown_drew (grown_set (World.grownBy.refl _ _) 4 _)
        have hW2 : WayW w2 q fv x L k := by
          refine ⟨.slice (some ⟨g, o, none⟩) 0 0, ?_, ?_⟩
          · rw [hw2]; exact Box.drew (HX.out.set (k := 4) (.slice (some ⟨g, o, none⟩) 0 0))
          · exact RdT.grown (by rw [HT.out.1]; exact HT.out.2) HG
        have hB2 : Box w2 pb 140 #[.pointer (some ⟨q, 0, none⟩)] := HB.out.kept HG (by intro e; injection e with e; exact hpq e)
        obtain ⟨fn, tmps, assign, body, hy, hYR⟩ := HYY.out x part L k w2 hW2 hB2 (HK.out _ _ _ _ _ HKK.out HG)
        have HMM := HM.out
        rw [← hw2]
        clear hw2 HG hW2 hB2 p4 f4 b0 hcell
        gi_wp2
        refine hYR.mono ?_
        rintro e Y (⟨rfl, m, hm, hmid⟩ | ⟨rfl, hx⟩)
        · have hms := (leastOf_spec (p := fun m => Mid q pb fv K m Y) ⟨m, hmid⟩).2 m hmid
          have HMS : Hid ((leastOf fun m => Mid q pb fv K m Y) < leastOf fun m => Mid q pb fv K m wr) := Lib.hid (by rw [← HLM.out]; rw [HMM] at hm; exact Nat.lt_of_le_of_lt hms hm)
          clear hms hm HMM
          gi_wp2
          go_roundw
          case rel => exact ⟨m, hmid⟩
          case measure => exact HMS.out
        · gi_wp2
          exact bodyPost_ret (results_none rfl _ _ _) rfl ⟨⟨_, rfl⟩, .inr hx⟩
      · have ht := RdT.tail2 (p := part) (L := L) (by rw [← HN1.out]; exact HR.out)
        rw [← HN1.out] at ht
        have HT := Lib.hid ht
        clear ht
        gi_wp2
        gi_region
        obtain ⟨w2, hw2⟩ : ∃ z, z = (wr.setCell ⟨q, 4, none⟩ (.slice (some ⟨g, o + 1, none⟩) n1 (c - 1))).drew := ⟨_, rfl⟩
        have HG : wr.grownBy w2 (some q) := by rw [hw2]; exact grown_drew (grown_set (World.grownBy.refl _ _) 4 _)
        have hW2 : WayW w2 q fv x L k := by
          refine ⟨.slice (some ⟨g, o + 1, none⟩) n1 (c - 1), ?_, ?_⟩
          · rw [hw2]; exact Box.drew (HX.out.set (k := 4) (.slice (some ⟨g, o + 1, none⟩) n1 (c - 1)))
          · exact RdT.grown (HT.out) HG
        have hB2 : Box w2 pb 140 #[.pointer (some ⟨q, 0, none⟩)] := HB.out.kept HG (by intro e; injection e with e; exact hpq e)
        obtain ⟨fn, tmps, assign, body, hy, hYR⟩ := HYY.out x part L k w2 hW2 hB2 (HK.out _ _ _ _ _ HKK.out HG)
        have HMM := HM.out
        rw [← hw2]
        clear hw2 HG hW2 hB2 p4 f4 b0 hcell
        gi_wp2
        refine hYR.mono ?_
        rintro e Y (⟨rfl, m, hm, hmid⟩ | ⟨rfl, hx⟩)
        · have hms := (leastOf_spec (p := fun m => Mid q pb fv K m Y) ⟨m, hmid⟩).2 m hmid
          have HMS : Hid ((leastOf fun m => Mid q pb fv K m Y) < leastOf fun m => Mid q pb fv K m wr) := Lib.hid (by rw [← HLM.out]; rw [HMM] at hm; exact Nat.lt_of_le_of_lt hms hm)
          clear hms hm HMM
          gi_wp2
          go_roundw
          case rel => exact ⟨m, hmid⟩
          case measure => exact HMS.out
        · gi_wp2
          exact bodyPost_ret (results_none rfl _ _ _) rfl ⟨⟨_, rfl⟩, .inr hx⟩
end Go.Proofs.YtiakedoebecgpaaDoor
