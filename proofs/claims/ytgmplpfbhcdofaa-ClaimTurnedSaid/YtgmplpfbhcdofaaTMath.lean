/- Proved here: plain words: rows in another order clash at the same paths; with itself just files clash. -/
import Derived.Test.YtgmplpfbhcdofaaAOwn
import Derived.Test.YtgmplpfbhcdofaaKClash
namespace Go.Proofs.Ytgmplpfbhcdofaa
open Go.RowKit Go.Shelf

/-- The leaves of rows, without whose they are. -/
theorem pls_snd (l : List (List Lf)) : ∀ i, (plsFrom i l).map (·.2) = l.flatten := by
  induction l with
  | nil => intro i; rfl
  | cons r l ih =>
    intro i
    show (r.map (fun x => (i, x)) ++ plsFrom (i + 1) l).map (·.2) = r ++ l.flatten
    rw [List.map_append, ih, List.map_map]
    congr 1
    exact List.map_id _
def cntF (f : List Lf) (p : Bs) : Nat := (f.filter fun x => x.p == p).length
def dirF (f : List Lf) (p : Bs) : Bool := (f.filter fun x => x.p == p).all (·.dir)
theorem filt_snd (s : List Pl) (p : Bs) : (s.map (·.2)).filter (fun x => x.p == p) = (atS s p).map (·.2) := by
  unfold atS
  rw [List.filter_map]
  rfl
theorem own_cnt (s : List Pl) (p : Bs) : (ownS s p).length = cntF (s.map (·.2)) p := by
  unfold cntF ownS
  rw [filt_snd, List.length_map, List.length_map]
theorem dir_all (s : List Pl) (p : Bs) : dirS s p = dirF (s.map (·.2)) p := by
  unfold dirF dirS
  rw [filt_snd, List.all_map]
  rfl
theorem has_any (s : List Pl) (p : Bs) : hasS s p = true ↔ ∃ x ∈ s.map (·.2), x.p = p := by
  rw [hasS_iff]
  constructor
  · rintro ⟨e, he, hp⟩
    exact ⟨e.2, List.mem_map.2 ⟨e, he, rfl⟩, hp⟩
  · rintro ⟨x, hx, hp⟩
    obtain ⟨e, he, rfl⟩ := List.mem_map.1 hx
    exact ⟨e, he, hp⟩
def clashF (f : List Lf) (p : Bs) : Bool := decide (1 < cntF f p) && !dirF f p
theorem clashP_eq (l : List (List Lf)) : clashP (clsL l) = (pathsS (plsL l)).filter (clashF l.flatten) := by
  show ((((pathsS (plsL l)).map (clS (plsL l))).filter clashB)).map (·.p) = _
  rw [List.filter_map, List.map_map]
  have e : ((fun c : Cl => c.p) ∘ clS (plsL l)) = id := rfl
  rw [e, List.map_id]
  congr 1
  funext p
  show (decide (1 < (ownS (plsL l) p).length) && !(dirS (plsL l) p)) = _
  rw [own_cnt, dir_all, pls_snd]
  rfl
theorem perm_flat (l : List (List Lf)) (k : Nat) : (l.drop k ++ l.take k).flatten.Perm l.flatten := by
  have : l.flatten = (l.take k).flatten ++ (l.drop k).flatten := by rw [← List.flatten_append, List.take_append_drop]
  rw [this, List.flatten_append]
  exact List.perm_append_comm
theorem clashF_perm {f g : List Lf} (h : f.Perm g) (p : Bs) : clashF f p = clashF g p := by
  unfold clashF cntF dirF
  have h1 := h.filter (fun x => x.p == p)
  rw [h1.length_eq, h1.all_eq]
theorem paths_perm {a b : List (List Lf)} (h : a.flatten.Perm b.flatten) : pathsS (plsL a) = pathsS (plsL b) := by
  refine pathsS_eq (pathsS_rise _) (fun p => ?_)
  rw [pathsS_mem, has_any, has_any, pls_snd, pls_snd]
  constructor
  · rintro ⟨x, hx, hp⟩; exact ⟨x, (h.mem_iff).1 hx, hp⟩
  · rintro ⟨x, hx, hp⟩; exact ⟨x, (h.mem_iff).2 hx, hp⟩
theorem clash_turned (l : List (List Lf)) (k : Nat) : clashP (clsL (l.drop k ++ l.take k)) = clashP (clsL l) := by
  have h := perm_flat l k
  rw [clashP_eq, clashP_eq, paths_perm h]
  congr 1
  funext p
  exact clashF_perm h p
theorem filt_self {y : List Lf} (h : okLs y = true) {x : Lf} (hx : x ∈ y) : y.filter (fun z => z.p == x.p) = [x] := by
  have h1 := one_path (okLs_pw h) x.p
  have h2 : x ∈ y.filter (fun z => z.p == x.p) := by rw [List.mem_filter]; exact ⟨hx, by simp⟩
  obtain ⟨F, hF⟩ : ∃ F, F = y.filter (fun z => z.p == x.p) := ⟨_, rfl⟩
  rw [← hF] at h1 h2 ⊢
  match F, h1, h2 with
  | [a], _, h2 =>
    have e : x = a := by simpa using h2
    rw [e]
  | a :: b :: t, h1, _ => simp at h1
theorem paths_of {y : List Lf} (h : okLs y = true) {l : List (List Lf)} (hl : ∀ x, x ∈ l.flatten ↔ x ∈ y) : pathsS (plsL l) = y.map (·.p) := by
  refine (pathsS_eq ?_ (fun p => ?_)).symm
  · unfold RiseP
    rw [List.pairwise_map]
    exact okLs_pw h
  · rw [has_any, pls_snd, List.mem_map]
    constructor
    · rintro ⟨x, hx, rfl⟩; exact ⟨x, (hl x).2 hx, rfl⟩
    · rintro ⟨x, hx, rfl⟩; exact ⟨x, (hl x).1 hx, rfl⟩
def filesF (y : List Lf) : List Bs := (y.filter fun x => !x.dir).map (·.p)
theorem clash_self {y : List Lf} (h : okLs y = true) : clashP (clsL [y, y]) = filesF y := by
  rw [clashP_eq, paths_of h (by intro x; simp)]
  rw [List.filter_map]
  unfold filesF
  congr 1
  refine List.filter_congr (fun x hx => ?_)
  show clashF [y, y].flatten x.p = _
  unfold clashF cntF dirF
  have e : [y, y].flatten = y ++ y := by simp
  rw [e, List.filter_append, filt_self h hx]
  simp
theorem clash_one {y : List Lf} (h : okLs y = true) : clashP (clsL [y]) = [] := by
  rw [clashP_eq, List.filter_eq_nil_iff]
  intro p _
  have := one_path (okLs_pw h) p
  unfold clashF cntF
  have e : [y].flatten = y := by simp
  rw [e]
  have : ¬ 1 < (y.filter fun x => x.p == p).length := by omega
  simp [this]
theorem filesF_take {y : List Lf} {k : Nat} {x : Lf} (h : y[k]? = some x) : filesF (y.take (k + 1)) = if x.dir = true then filesF (y.take k) else filesF (y.take k) ++ [x.p] := by
  rw [List.take_add_one, h]
  unfold filesF
  rw [Option.toList_some, List.filter_append]
  cases hd : x.dir <;> simp [hd]
theorem filesF_len (y : List Lf) : (filesF y).length ≤ y.length := by
  unfold filesF
  rw [List.length_map]
  exact List.length_filter_le _ _
theorem cutR_id {l : List (List Lf)} (h : okRs l) : cutR l = l := by
  unfold cutR
  rw [List.take_of_length_le (by have := h.1; omega)]
  conv => rhs; rw [← List.map_id l]
  refine List.map_congr_left (fun r hr => ?_)
  have := okLs_short (h.2 r hr)
  exact List.take_of_length_le (by omega)
theorem okRs_drop {l : List (List Lf)} (h : okRs l) (k : Nat) : okRs (l.drop k) := ⟨by rw [List.length_drop]; have := h.1; omega, fun r hr => h.2 r (List.mem_of_mem_drop hr)⟩
theorem okRs_take {l : List (List Lf)} (h : okRs l) (k : Nat) : okRs (l.take k) := ⟨by rw [List.length_take]; have := h.1; omega, fun r hr => h.2 r (List.mem_of_mem_take hr)⟩
theorem okRs_turned {l : List (List Lf)} (h : okRs l) (k : Nat) : okRs (l.drop k ++ l.take k) := ⟨by rw [List.length_append, List.length_drop, List.length_take]; have := h.1; omega, fun r hr => by
  rcases List.mem_append.1 hr with hr | hr
  · exact h.2 r (List.mem_of_mem_drop hr)
  · exact h.2 r (List.mem_of_mem_take hr)⟩
theorem okRs_two {y : List Lf} (h : okLs y = true) : okRs [y, y] := ⟨by simp, fun r hr => by simp at hr; subst hr; exact h⟩
theorem okRs_one {y : List Lf} (h : okLs y = true) : okRs [y] := ⟨by simp, fun r hr => by simp at hr; subst hr; exact h⟩

/-! ### Parts of rows -/
theorem RdRs.drop {w : World} {g o n c k m d o' : Nat} {l : List (List Lf)} (h : RdRs w (.slice (some ⟨g, o, none⟩) n c) l) (hk : k ≤ n) (hm : m = n - k) (hd : d = c - k) (ho : o' = o + k) : RdRs w (.slice (some ⟨g, o', none⟩) m d) (l.drop k) := by
  obtain ⟨a, c', e, h1, h2, h3⟩ := h
  cases e
  have el : (l.drop k).length = m := by rw [List.length_drop]; omega
  refine ⟨_, _, by rw [el], by rw [el]; omega, by omega, fun h0 => ?_⟩
  obtain ⟨g', o'', e, hg, hc⟩ := h3 (by rw [el] at h0; omega)
  cases e
  refine ⟨g, o', rfl, hg, fun j r hr => ?_⟩
  rw [List.getElem?_drop] at hr
  obtain ⟨x, hx, hl⟩ := hc (k + j) r hr
  exact ⟨x, by rw [ho, Nat.add_assoc]; exact hx, hl⟩
theorem RdRs.take {w : World} {a : Option Addr} {n c k : Nat} {l : List (List Lf)} (h : RdRs w (.slice a n c) l) (hk : k ≤ n) : RdRs w (.slice a k c) (l.take k) := by
  obtain ⟨a', c', e, h1, h2, h3⟩ := h
  cases e
  have el : (l.take k).length = k := by rw [List.length_take]; omega
  refine ⟨a, c, by rw [el], by rw [el]; omega, h2, fun h0 => ?_⟩
  obtain ⟨g, o, e, hg, hc⟩ := h3 (by rw [el] at h0; omega)
  exact ⟨g, o, e, hg, fun j r hr => hc j r (by
    have hj := (List.getElem?_eq_some_iff.1 hr).1
    rw [el] at hj
    rwa [List.getElem?_take_of_lt hj] at hr)⟩
theorem rdrs_one {w : World} {g : Nat} {x : Value} {r : List Lf} (h : Box w g 33 #[x]) (hx : RdL w x r) : RdRs w (.slice (some ⟨g, 0, none⟩) 1 1) [r] :=
  rdrs_box (l := [r]) (xs := [x]) h (by simp) (fun j q hq => by
    match j, hq with
    | 0, hq => simp at hq; subst hq; exact ⟨x, rfl, hx⟩)

/-! ### append of rows -/
theorem step_append_rows {P : Program} {op : Oper} {a : Act} {w : World} {K : Act → World → Prop} {Q : Exit → Act → World → Prop} {ops : Array Oper} {E : Prop} (hw : Region.wanted op (yielded ops a.tmps) = true) (s x : Operand) (t : TypeId)
    (ho : op.op = .call { callee := .builtin .append, args := #[s, x], argTypes := #[t, t] }) (i : TypeInfo) (ht : P.underlying t = some (.slice 33)) (hi : P.info? 33 = some i) (hz : i.zero = some (.slice none 0 0))
    (hsize : i.size = 1) (hby : i.bytes = 24) (B B' : Nat) (v vx : Value) (l m : List (List Lf)) (hs : a.eval s = v) (hx : a.eval x = vx) (hl : OwnR w B v l) (hm : OwnR w B' vx m) (hBB : B ≤ B') (hlen : l.length + m.length ≤ 1000) (hB : B ≤ w.heap.size)
    (h : ∀ v' w', OwnR w' B v' (l ++ m) → (∀ n w0, n ≤ B → n ≤ w0.heap.size → Below n w0 w → Below n w0 w') → K (a.put op.dst v') w') :
    if Region.wanted op (yielded ops a.tmps) = true then op.wp P a w K Q else E := by
  rw [if_pos hw]
  obtain ⟨xs, h1, h2⟩ := hl
  obtain ⟨ys, k1, k2⟩ := hm
  have hxl : xs.length = l.length := by have := h1.1; omega
  have hyl : ys.length = m.length := by have := k1.1; omega
  have hmk : ∀ w' v', w'.ownsRow B 33 1 v' (l.length + m.length) (xs ++ ys) → w.grownBy w' v.ownBlock → OwnR w' B v' (l ++ m) ∧ (∀ n w0, n ≤ B → n ≤ w0.heap.size → Below n w0 w → Below n w0 w') := by
    intro w' v' j1 j2
    refine ⟨⟨xs ++ ys, by rw [List.length_append]; exact j1, fun j r hr => ?_⟩, fun n w0 hn hn0 hb => hb.grown j2 (Nat.le_trans hn hB) (fun q hq => Nat.le_trans hn (own_in h1 hq).1)⟩
    rcases Nat.lt_or_ge j l.length with hj | hj
    · rw [List.getElem?_append_left hj] at hr
      obtain ⟨y, hy1, hy2⟩ := h2 j r hr
      exact ⟨y, by rw [List.getElem?_append_left (by omega)]; exact hy1, own_grown hy2 j2 (fun q e k' => types_far hy2 h1 (by decide) k' e)⟩
    · rw [List.getElem?_append_right hj] at hr
      obtain ⟨y, hy1, hy2⟩ := k2 _ r hr
      exact ⟨y, by rw [List.getElem?_append_right (by omega), hxl]; exact hy1, own_low (own_grown hy2 j2 (fun q e k' => types_far hy2 h1 (by decide) k' e)) hBB⟩
  rcases k1.2 with ⟨e, h0⟩ | ⟨g, cap, cur, e, _, _, hc1, hc2, _⟩
  · have hm0 : ys = [] := List.eq_nil_of_length_eq_zero (by omega)
    have hr := run_append_owned_none (P := P) w B t op.type 33 i 1 ht hi v l.length xs h1
    unfold Oper.wp execOp
    simp only [ho, resolve, invoke, builtin, Sem.run_bind, Sem.run_pure, Result.andThen_ok, List.map_toArray, List.map_cons, List.map_nil, hs, hx, e, hr]
    obtain ⟨j1, j2⟩ := hmk w v (by rw [hm0, List.append_nil, h0]; exact h1) ⟨rfl, rfl, rfl, Nat.le_refl _, fun _ _ _ => rfl⟩
    exact h v w j1 j2
  · have hnw : ∀ (j : Nat) (u : Value), ys[j]? = some u → w.cell? ((⟨g, 0, none⟩ : Addr).add j) = some u := fun j u hu => by
      have := k1.cells (g := g) (by rw [e]; rfl) j u hu
      exact this
    have h63 : l.length + m.length ≤ maxLen := by unfold maxLen; omega
    have hone : ∀ u ∈ ys, u.oneCell' = true := fun u hu => by
      obtain ⟨j, hj, rfl⟩ := List.getElem_of_mem hu
      obtain ⟨y, hy1, hy2⟩ := k2 j _ (List.getElem?_eq_getElem (by omega))
      rw [List.getElem?_eq_getElem hj] at hy1
      cases hy1
      obtain ⟨a1, c1, e1⟩ := own_slice hy2
      rw [e1]
      rfl
    obtain ⟨v', w', hr, r2, r3, _, r5⟩ := run_append_own_at (P := P) w B t op.type 33 i (.slice none 0 0) 1 24 ht hi hz hsize hby rfl (by decide) v l.length xs h1 ⟨g, 0, none⟩ m.length cap ys (by omega) hnw hone h63 (by omega) hB
    unfold Oper.wp execOp
    simp only [ho, resolve, invoke, builtin, Sem.run_bind, Sem.run_pure, Result.andThen_ok, List.map_toArray, List.map_cons, List.map_nil, hs, hx, e, hr]
    obtain ⟨j1, j2⟩ := hmk w' v' r2 r3
    exact h v' w' j1 j2
end Go.Proofs.Ytgmplpfbhcdofaa
