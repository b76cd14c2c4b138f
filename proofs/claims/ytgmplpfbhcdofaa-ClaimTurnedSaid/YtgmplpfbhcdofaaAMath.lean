/- Proved here: plain words: who has all beneath a path has all beneath each that is under it. -/
import Derived.Test.YtgmplpfbhcdofaaKAlone
namespace Go.Proofs.Ytgmplpfbhcdofaa
open Go.RowKit Go.Shelf

theorem rise_pairwise : ∀ {l : List Lf}, Rise l → l.Pairwise fun a b => Pt.cmpL a.p b.p < 0
  | [], _ => List.Pairwise.nil
  | [a], _ => List.pairwise_singleton _ _
  | a :: b :: l, h => by
    have h1 : Pt.cmpL a.p b.p < 0 := h 0 a b rfl rfl
    have h2 : Rise (b :: l) := fun i x y hx hy => h (i + 1) x y (by simpa using hx) (by simpa using hy)
    have h3 := rise_pairwise h2
    refine List.pairwise_cons.2 ⟨fun y hy => ?_, h3⟩
    rcases List.mem_cons.1 hy with rfl | hy
    · exact h1
    · exact Pt.cl_lt_trans h1 ((List.pairwise_cons.1 h3).1 y hy)
theorem one_path {l : List Lf} (h : l.Pairwise fun a b => Pt.cmpL a.p b.p < 0) (q : Bs) : (l.filter fun x => x.p == q).length ≤ 1 := by
  induction l with
  | nil => simp
  | cons a l ih =>
    obtain ⟨h1, h2⟩ := List.pairwise_cons.1 h
    by_cases e : a.p = q
    · have : l.filter (fun x => x.p == q) = [] := by
        rw [List.filter_eq_nil_iff]
        intro x hx hq
        have h3 := h1 x hx
        have h4 : x.p = q := by simpa using hq
        rw [e, h4, cl_self] at h3
        omega
      simp [e, this]
    · have := ih h2
      simp [e, this]
theorem okLs_pw {l : List Lf} (h : okLs l = true) : l.Pairwise fun a b => Pt.cmpL a.p b.p < 0 := rise_pairwise ((okLs_iff l).1 h).2.2
theorem ownS_row (i : Nat) (r : List Lf) (l : List (List Lf)) (q : Bs) : ownS (plsFrom i (r :: l)) q = (r.filter fun x => x.p == q).map (fun _ => i) ++ ownS (plsFrom (i + 1) l) q := by
  show ((r.map (fun x => (i, x)) ++ plsFrom (i + 1) l).filter (fun e => e.2.p == q)).map (·.1) = _
  rw [List.filter_append, List.map_append]
  congr 1
  rw [List.filter_map, List.map_map]
  rfl
theorem ownS_up (q : Bs) : ∀ (l : List (List Lf)) (i : Nat), (∀ r ∈ l, okLs r = true) → (ownS (plsFrom i l) q).Pairwise (· < ·) ∧ ∀ j ∈ ownS (plsFrom i l) q, i ≤ j
  | [], i, _ => by simp [plsFrom, ownS, atS]
  | r :: l, i, h => by
    obtain ⟨h1, h2⟩ := ownS_up q l (i + 1) (fun r hr => h r (by simp [hr]))
    have h3 := one_path (okLs_pw (h r (by simp))) q
    rw [ownS_row]
    constructor
    · refine List.pairwise_append.2 ⟨?_, h1, fun a ha b hb => ?_⟩
      · obtain ⟨F, hF⟩ : ∃ F, F = r.filter fun x => x.p == q := ⟨_, rfl⟩
        rw [← hF] at h3 ⊢
        match F, h3 with
        | [], _ => simp
        | [a], _ => simp
        | a :: b :: t, h3 => simp at h3
      · obtain ⟨_, _, rfl⟩ := List.mem_map.1 ha
        have := h2 b hb
        omega
    · intro j hj
      rcases List.mem_append.1 hj with k | k
      · obtain ⟨_, _, rfl⟩ := List.mem_map.1 k
        exact Nat.le_refl _
      · have := h2 j k
        omega
theorem findL_mem {l : List Lf} {p : Bs} (h : (findL l p).2 = true) : ∃ y ∈ l, y.p = p := by
  unfold findL at h
  cases e : l.find? (fun x => x.p == p) with
  | none => rw [e] at h; cases h
  | some y => exact ⟨y, List.mem_of_find?_eq_some e, by simpa using List.find?_some e⟩
/-- What is above a leaf's path stands in its row. -/
theorem above_in {r : List Lf} (h : okLs r = true) {p : Bs} (hp : Pt.validB p = true) (hr : p ≠ [47]) : ∀ (n : Nat) (x : Lf), (Pt.namesL x.p).length ≤ n → x ∈ r → Pt.underB x.p p = true → ∃ y ∈ r, y.p = p
  | 0, x, hn, hx, _ => by
    obtain ⟨hv, hi⟩ := ((okLs_iff r).1 h).2.1 x hx
    obtain ⟨h1, _, h3, _⟩ := (validLf_iff x).1 hv
    exact absurd ((Pt.names_root _ h3).1 (List.eq_nil_of_length_eq_zero (by omega))) h1
  | n + 1, x, hn, hx, hu => by
    by_cases e : p = x.p
    · exact ⟨x, hx, e.symm⟩
    · obtain ⟨hv, hi⟩ := ((okLs_iff r).1 h).2.1 x hx
      obtain ⟨h1, _, h3, _⟩ := (validLf_iff x).1 hv
      have hu2 := Pt.under_up hu e
      unfold inDirB upIn at hi
      rw [Bool.or_eq_true, Bool.and_eq_true] at hi
      rcases hi with hi | ⟨hi, _⟩
      · have e2 : Pt.upL x.p = [47] := by simpa using hi
        rw [e2] at hu2
        unfold Pt.underB at hu2
        rw [Bool.and_eq_true, Bool.and_eq_true] at hu2
        have e3 : Pt.namesL [47] = [] := (Pt.names_root _ Pt.validB_root).2 rfl
        rw [e3] at hu2
        have : Pt.namesL p = [] := by
          have := hu2.2
          cases hq : Pt.namesL p with
          | nil => rfl
          | cons a t => rw [hq] at this; simp at this
        exact absurd ((Pt.names_root _ hp).1 this) hr
      · obtain ⟨y, hy, hyp⟩ := findL_mem hi
        refine above_in h hp hr n y ?_ hy (by rw [hyp]; exact hu2)
        rw [hyp, (Pt.up_valid _ h3).2, List.length_dropLast]
        omega
/-- Whoever has all beneath a path has all beneath each that is under it. -/
theorem alone_beneath {l : List (List Lf)} (h : okRs l) {p q : Bs} {o : Nat} (hp : ownS (plsL l) p = [o]) (hq : hasS (plsL l) q = true) (hu : Pt.underB q p = true) : ownS (plsL l) q = [o] := by
  obtain ⟨hup, _⟩ := ownS_up q l 0 h.2
  have hpv : Pt.validB p = true ∧ p ≠ [47] := by
    have hm : o ∈ ownS (plsL l) p := by rw [hp]; simp
    obtain ⟨x, hx, rfl⟩ := mem_ownS.1 hm
    obtain ⟨k, r, h1, h2, _⟩ := mem_plsFrom.1 hx
    have := (validLf_iff x).1 (((okLs_iff r).1 (h.2 r (List.mem_of_getElem? h1))).2.1 x h2).1
    exact ⟨this.2.2.1, this.1⟩
  have hall : ∀ i ∈ ownS (plsL l) q, i = o := fun i hi => by
    obtain ⟨x, hx, rfl⟩ := mem_ownS.1 hi
    obtain ⟨k, r, h1, h2, h3⟩ := mem_plsFrom.1 hx
    obtain ⟨y, hy, hyp⟩ := above_in (h.2 r (List.mem_of_getElem? h1)) hpv.1 hpv.2 _ x (Nat.le_refl _) h2 hu
    have : i ∈ ownS (plsL l) p := mem_ownS.2 ⟨y, mem_plsFrom.2 ⟨k, r, h1, hy, h3⟩, hyp⟩
    rw [hp] at this
    simpa using this
  have hne := ownS_pos hq
  have hup2 : (ownS (plsL l) q).Pairwise (· < ·) := hup
  match hm : ownS (plsL l) q with
  | [] => exact absurd hm hne
  | [a] => rw [hm] at hall; rw [hall a (by simp)]
  | a :: b :: t =>
    rw [hm] at hall hup2
    have := (List.pairwise_cons.1 hup2).1 b (by simp)
    have e1 := hall a (by simp)
    have e2 := hall b (by simp)
    omega
theorem cls_of {l : List (List Lf)} {q : Bs} (h : hasS (plsL l) q = true) : clS (plsL l) q ∈ clsL l :=
  List.mem_map.2 ⟨q, (pathsS_mem _ _).2 h, rfl⟩
theorem find_one {l : List (List Lf)} {q : Bs} {o : Nat} (h : ownS (plsL l) q = [o]) : aloneL l q = ((o : Int), true) := by
  have hh : hasS (plsL l) q = true := by
    cases e : hasS (plsL l) q with
    | true => rfl
    | false => rw [ownS_none e] at h; cases h
  rw [alone_ans]
  cases e : (clsL l).find? (oneB q) with
  | none =>
    have := List.find?_eq_none.1 e (clS (plsL l) q) (cls_of hh)
    exfalso
    apply this
    unfold oneB clS
    simp [h]
  | some c =>
    have h1 := List.find?_some e
    have h2 := clsL_at (List.mem_of_find?_eq_some e)
    unfold oneB at h1
    rw [Bool.and_eq_true] at h1
    have h3 : c.p = q := by simpa using h1.1
    have h4 : c.own = [o] := by rw [h2, h3]; exact h
    simp [ansC, h4]
theorem alone_own {l : List (List Lf)} {p : Bs} {n : Int} (h : aloneL l p = (n, true)) : ∃ o : Nat, n = (o : Int) ∧ ownS (plsL l) p = [o] ∧ o < l.length := by
  rw [alone_ans] at h
  cases e : (clsL l).find? (oneB p) with
  | none => rw [e] at h; cases h
  | some c =>
    rw [e] at h
    have h1 := List.find?_some e
    have h2 := clsL_at (List.mem_of_find?_eq_some e)
    unfold oneB at h1
    rw [Bool.and_eq_true] at h1
    have h3 : c.p = p := by simpa using h1.1
    have h5 : c.own = ownS (plsL l) p := by rw [h2, h3]; rfl
    obtain ⟨o, ho⟩ := List.length_eq_one_iff.1 (by simpa using h1.2 : c.own.length = 1)
    refine ⟨o, ?_, by rw [← h5, ho], ?_⟩
    · have := congrArg Prod.fst h
      simp [ansC, ho] at this
      exact this.symm
    · have hm : o ∈ ownS (plsL l) p := by rw [← h5, ho]; simp
      obtain ⟨x, hx, _⟩ := mem_ownS.1 hm
      obtain ⟨k, r, h6, _, h7⟩ := mem_plsFrom.1 hx
      have := (List.getElem?_eq_some_iff.1 h6).1
      omega
end Go.Proofs.Ytgmplpfbhcdofaa
