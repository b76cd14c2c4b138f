/- Plain words on trees: where a path stands in a row of items, what is laid there and taken, and what each operation makes of a tree. Nothing of the program stands here. -/
import Derived.Test.YtjbbnecegomkcaaGreatDoorWMath
namespace Go.Proofs.YtjbbnecegomkcaaGreatDoor

abbrev Srt (l : List It) : Prop := l.Pairwise fun a b => cmpL a.path b.path < 0
/-- How many items stand ahead of p. -/
def idxL (l : List It) (p : Str) : Nat := (l.takeWhile fun x => decide (cmpL x.path p < 0)).length
def hasL (l : List It) (p : Str) : Bool := match l[idxL l p]? with
  | some x => x.path == p
  | none => false
def takeL (l : List It) (p : Str) (n : Nat) : List It := l.take (idxL l p) ++ l.drop (idxL l p + n)
def oneL (l : List It) (p : Str) : Nat := if hasL l p = true then 1 else 0
def putL (l m : List It) (p : Str) : List It := l.take (idxL l p) ++ m ++ l.drop (idxL l p + oneL l p)
def belowL (l : List It) (p : Str) : List It := (l.drop (idxL l p + oneL l p)).takeWhile fun x => underB x.path p

theorem cl_self (a : Str) : cmpL a a = 0 := (cl_zero a a).2 rfl
theorem cl_irr {a : Str} (h : cmpL a a < 0) : False := by rw [cl_self] at h; omega
theorem cl_ne {a b : Str} (h : cmpL a b < 0) : a ≠ b := fun e => by subst e; exact cl_irr h
theorem split_idx (l : List It) (p : Str) (hs : Srt l) : ∃ A B, l = A ++ B ∧ idxL l p = A.length ∧ (∀ a ∈ A, cmpL a.path p < 0) ∧ (∀ b ∈ B, 0 ≤ cmpL b.path p) := by
  induction l with
  | nil => exact ⟨[], [], rfl, rfl, by simp, by simp⟩
  | cons x l ih =>
    replace hs := List.pairwise_cons.1 hs
    by_cases h : cmpL x.path p < 0
    · obtain ⟨A, B, e1, e2, e3, e4⟩ := ih hs.2
      refine ⟨x :: A, B, by rw [e1]; rfl, ?_, ?_, e4⟩
      · unfold idxL at *
        rw [List.takeWhile_cons, if_pos (by simpa using h), List.length_cons, e2, List.length_cons]
      · intro a ha
        rcases List.mem_cons.1 ha with rfl | ha
        · exact h
        · exact e3 a ha
    · refine ⟨[], x :: l, rfl, by unfold idxL; rw [List.takeWhile_cons, if_neg (by simpa using h)], by simp, fun b hb => ?_⟩
      rcases List.mem_cons.1 hb with rfl | hb
      · omega
      · have := hs.1 b hb
        by_cases hb0 : cmpL b.path p < 0
        · exact absurd (cl_lt_trans this hb0) h
        · omega
/-- Where p stands: behind A, ahead of B, and there itself, or not. -/
structure Pl (l : List It) (p : Str) (A B : List It) : Prop where
  idx : idxL l p = A.length
  low : ∀ a ∈ A, cmpL a.path p < 0
  high : ∀ b ∈ B, cmpL p b.path < 0
theorem place (l : List It) (p : Str) (hs : Srt l) : ∃ A B, Pl l p A B ∧ ((hasL l p = false ∧ l = A ++ B) ∨ ∃ x, hasL l p = true ∧ x.path = p ∧ l = A ++ x :: B) := by
  obtain ⟨A, B, e1, e2, e3, e4⟩ := split_idx l p hs
  cases B with
  | nil =>
    refine ⟨A, [], ⟨e2, e3, by simp⟩, .inl ⟨?_, e1⟩⟩
    unfold hasL
    rw [e2, e1, List.append_nil, List.getElem?_eq_none (Nat.le_refl _)]
  | cons x B =>
    have hg : l[idxL l p]? = some x := by rw [e2, e1]; simp
    have hp0 : Srt (A ++ x :: B) := e1 ▸ hs
    have hp1 := List.pairwise_append.1 hp0
    have hp := And.intro hp1.1 (And.intro (List.pairwise_cons.1 hp1.2.1) hp1.2.2)
    by_cases hx : x.path = p
    · refine ⟨A, B, ⟨e2, e3, fun b hb => ?_⟩, .inr ⟨x, ?_, hx, e1⟩⟩
      · rw [← hx]; exact hp.2.1.1 b hb
      · unfold hasL; rw [hg]; simpa using hx
    · have hpx : cmpL p x.path < 0 := by
        have h1 := e4 x (by simp)
        have h2 := cl_anti p x.path
        have h3 : cmpL x.path p ≠ 0 := fun e => hx ((cl_zero _ _).1 e)
        omega
      refine ⟨A, x :: B, ⟨e2, e3, fun b hb => ?_⟩, .inl ⟨?_, e1⟩⟩
      · rcases List.mem_cons.1 hb with rfl | hb
        · exact hpx
        · exact cl_lt_trans hpx (hp.2.1.1 b hb)
      · unfold hasL; rw [hg]; simpa using hx

theorem Pl.no {l A B : List It} {p : Str} (h : Pl l p A B) (hh : hasL l p = false) (e : l = A ++ B) : (∀ m, putL l m p = A ++ m ++ B) ∧ l.drop (idxL l p + oneL l p) = B ∧ l.take (idxL l p) = A := by
  have h1 : oneL l p = 0 := by unfold oneL; rw [if_neg (by simp [hh])]
  have h2 : l.take (idxL l p) = A := by rw [h.idx, e, List.take_left]
  have h3 : l.drop (idxL l p + oneL l p) = B := by rw [h1, Nat.add_zero, h.idx, e, List.drop_left]
  exact ⟨fun m => by unfold putL; rw [h2, h3], h3, h2⟩
theorem Pl.yes {l A B : List It} {p : Str} {x : It} (h : Pl l p A B) (hh : hasL l p = true) (e : l = A ++ x :: B) : (∀ m, putL l m p = A ++ m ++ B) ∧ l.drop (idxL l p + oneL l p) = B ∧ l.take (idxL l p) = A ∧ l[idxL l p]? = some x ∧ ∀ n, takeL l p (n + 1) = A ++ B.drop n := by
  have h1 : oneL l p = 1 := by unfold oneL; rw [if_pos hh]
  have h2 : l.take (idxL l p) = A := by rw [h.idx, e, List.take_left]
  have h4 : ∀ n, l.drop (idxL l p + (n + 1)) = B.drop n := by
    intro n
    rw [h.idx, e, show A.length + (n + 1) = (A ++ [x]).length + n by simp; omega, show A ++ x :: B = (A ++ [x]) ++ B by simp, ← List.drop_drop, List.drop_left]
  have h3 : l.drop (idxL l p + oneL l p) = B := by rw [h1]; exact (h4 0).trans (by simp)
  exact ⟨fun m => by unfold putL; rw [h2, h3], h3, h2, by rw [h.idx, e]; simp, fun n => by unfold takeL; rw [h2, h4]⟩

theorem tw_mem {α : Type} {q : α → Bool} {l : List α} {x : α} (h : x ∈ l.takeWhile q) : q x = true ∧ x ∈ l := by
  induction l with
  | nil => cases h
  | cons y l ih =>
    rw [List.takeWhile_cons] at h
    by_cases hy : q y = true
    · rw [if_pos hy] at h
      rcases List.mem_cons.1 h with rfl | h
      · exact ⟨hy, by simp⟩
      · exact ⟨(ih h).1, List.mem_cons_of_mem _ (ih h).2⟩
    · rw [if_neg hy] at h; cases h
/-- Behind p stand side by side those under it, and then none. -/
theorem tw_under {B : List It} {p : Str} (hs : Srt B) (hp : ∀ b ∈ B, cmpL p b.path < 0) : ∀ r ∈ B.dropWhile (fun x => underB x.path p), underB r.path p = false := by
  induction B with
  | nil => intro r hr; cases hr
  | cons y B ih =>
    replace hs := List.pairwise_cons.1 hs
    intro r hr
    rw [List.dropWhile_cons] at hr
    by_cases hy : underB y.path p = true
    · rw [if_pos hy] at hr
      exact ih hs.2 (fun b hb => hp b (List.mem_cons_of_mem _ hb)) r hr
    · rw [if_neg hy] at hr
      rcases List.mem_cons.1 hr with rfl | hr
      · exact Bool.eq_false_iff.2 hy
      · by_cases hu : underB r.path p = true
        · have h1 := hp y (by simp)
          have h2 := hs.1 r hr
          exact absurd (cl_between p r.path y.path hu (by omega) (by omega)) hy
        · exact Bool.eq_false_iff.2 hu
theorem under_ge {a p : Str} (h : cmpL a p < 0) : underB a p = false := by
  by_cases hu : underB a p = true
  · have h1 := cl_under p a hu
    have h2 := cl_anti a p
    omega
  · exact Bool.eq_false_iff.2 hu

/-- l about p: behind A, p's own item or none, those beneath, the rest. -/
structure Blk (l : List It) (p : Str) (A U R : List It) : Prop where
  idx : idxL l p = A.length
  below : belowL l p = U
  low : ∀ a ∈ A, cmpL a.path p < 0
  mid : ∀ u ∈ U, underB u.path p = true ∧ u.path ≠ p
  high : ∀ r ∈ R, cmpL p r.path < 0 ∧ underB r.path p = false
theorem block (l : List It) (p : Str) (hs : Srt l) : ∃ A U R, Blk l p A U R ∧ ((hasL l p = false ∧ l = A ++ U ++ R) ∨ ∃ x, hasL l p = true ∧ x.path = p ∧ l = A ++ x :: (U ++ R)) := by
  obtain ⟨A, B, hP, hc⟩ := place l p hs
  have hB : Srt B := by
    rcases hc with ⟨_, e⟩ | ⟨x, _, _, e⟩
    · rw [e] at hs; exact (List.pairwise_append.1 hs).2.1
    · rw [e] at hs; exact (List.pairwise_cons.1 (List.pairwise_append.1 hs).2.1).2
  have hd : l.drop (idxL l p + oneL l p) = B := by
    rcases hc with ⟨h, e⟩ | ⟨x, h, _, e⟩
    · exact (hP.no h e).2.1
    · exact (hP.yes h e).2.1
  have hsp : B = B.takeWhile (fun x => underB x.path p) ++ B.dropWhile (fun x => underB x.path p) := List.takeWhile_append_dropWhile.symm
  refine ⟨A, B.takeWhile (fun x => underB x.path p), B.dropWhile (fun x => underB x.path p), ⟨hP.idx, by unfold belowL; rw [hd], hP.low, fun u hu => ?_, fun r hr => ⟨hP.high r ?_, tw_under hB hP.high r hr⟩⟩, ?_⟩
  · have h1 := tw_mem hu
    exact ⟨h1.1, (cl_ne (hP.high u h1.2)).symm⟩
  · rw [hsp]; exact List.mem_append_right _ hr
  · rcases hc with ⟨h, e⟩ | ⟨x, h, hx, e⟩
    · exact .inl ⟨h, by rw [List.append_assoc, ← hsp]; exact e⟩
    · exact .inr ⟨x, h, hx, by rw [← hsp]; exact e⟩
theorem below_mem {l : List It} (hs : Srt l) (p : Str) (y : It) : y ∈ belowL l p ↔ y ∈ l ∧ underB y.path p = true ∧ y.path ≠ p := by
  obtain ⟨A, U, R, hb, hc⟩ := block l p hs
  rw [hb.below]
  constructor
  · intro hy
    refine ⟨?_, hb.mid y hy⟩
    rcases hc with ⟨_, e⟩ | ⟨x, _, _, e⟩
    · rw [e]; simp [hy]
    · rw [e]; simp [hy]
  · rintro ⟨h1, h2, h3⟩
    have hA : y ∉ A := fun h => by have := under_ge (hb.low y h); rw [h2] at this; cases this
    have hR : y ∉ R := fun h => by have := (hb.high y h).2; rw [h2] at this; cases this
    rcases hc with ⟨_, e⟩ | ⟨x, _, hx, e⟩
    · rw [e] at h1
      simp only [List.mem_append] at h1
      rcases h1 with (h | h) | h
      · exact absurd h hA
      · exact h
      · exact absurd h hR
    · rw [e] at h1
      simp only [List.mem_append, List.mem_cons] at h1
      rcases h1 with h | h | h | h
      · exact absurd h hA
      · subst h; exact absurd hx h3
      · exact h
      · exact absurd h hR

/-! ### What stands at a path -/
theorem has_get {l : List It} (hs : Srt l) {p : Str} (hp : p ≠ [47]) : getI l p = if hasL l p = true then l[idxL l p]? else none := by
  unfold getI
  rw [if_neg hp]
  obtain ⟨A, B, hP, hc⟩ := place l p hs
  have hA : A.find? (fun x => x.path == p) = none := by
    rw [List.find?_eq_none]
    intro a ha
    have := cl_ne (hP.low a ha)
    simpa using this
  have hB : B.find? (fun x => x.path == p) = none := by
    rw [List.find?_eq_none]
    intro b hb
    have := (cl_ne (hP.high b hb)).symm
    simpa using this
  rcases hc with ⟨h, e⟩ | ⟨x, h, hx, e⟩
  · rw [if_neg (by simp [h])]
    conv => lhs; rw [e]
    rw [List.find?_append, hA, hB]; rfl
  · rw [if_pos h, (hP.yes h e).2.2.2.1]
    conv => lhs; rw [e]
    rw [List.find?_append, hA, List.find?_cons]
    simp [hx]
theorem get_some {l : List It} (hs : Srt l) {p : Str} {x : It} : getI l p = some x ↔ (p = [47] ∧ x = .root) ∨ (p ≠ [47] ∧ x ∈ l ∧ x.path = p) := by
  by_cases hp : p = [47]
  · subst hp
    rw [get_root]
    constructor
    · intro h; cases h; exact .inl ⟨rfl, rfl⟩
    · rintro (⟨_, rfl⟩ | ⟨h, _⟩)
      · rfl
      · exact absurd rfl h
  · rw [has_get hs hp]
    obtain ⟨A, B, hP, hc⟩ := place l p hs
    have hA : ∀ a ∈ A, a.path ≠ p := fun a ha => cl_ne (hP.low a ha)
    have hB : ∀ a ∈ B, a.path ≠ p := fun a ha => (cl_ne (hP.high a ha)).symm
    rcases hc with ⟨h, e⟩ | ⟨y, h, hy, e⟩
    · rw [if_neg (by simp [h])]
      refine ⟨fun k => (by cases k), ?_⟩
      rintro (⟨k, _⟩ | ⟨_, k, q⟩)
      · exact absurd k hp
      · rw [e, List.mem_append] at k
        rcases k with k | k
        · exact absurd q (hA x k)
        · exact absurd q (hB x k)
    · rw [if_pos h, (hP.yes h e).2.2.2.1]
      constructor
      · intro k; cases k; exact .inr ⟨hp, by rw [e]; simp, hy⟩
      · rintro (⟨k, _⟩ | ⟨_, k, q⟩)
        · exact absurd k hp
        · rw [e, List.mem_append, List.mem_cons] at k
          rcases k with k | k | k
          · exact absurd q (hA x k)
          · rw [k]
          · exact absurd q (hB x k)
theorem get_none {l : List It} {p : Str} : getI l p = none ↔ p ≠ [47] ∧ ∀ x ∈ l, x.path ≠ p := by
  unfold getI
  by_cases hp : p = [47]
  · rw [if_pos hp]; simp [hp]
  · rw [if_neg hp, List.find?_eq_none]; simp [hp]
theorem has_none {l : List It} (hs : Srt l) {p : Str} (h : getI l p = none) : hasL l p = false := by
  have hp := (get_none.1 h).1
  rw [has_get hs hp] at h
  by_cases hh : hasL l p = true
  · rw [if_pos hh] at h
    obtain ⟨A, B, hP, hc⟩ := place l p hs
    rcases hc with ⟨k, _⟩ | ⟨y, k, hy, e⟩
    · exact k
    · rw [(hP.yes k e).2.2.2.1] at h; cases h
  · exact Bool.eq_false_iff.2 hh
theorem has_some {l : List It} (hs : Srt l) {p : Str} {x : It} (h : getI l p = some x) (hp : p ≠ [47]) : hasL l p = true := by
  rw [has_get hs hp] at h
  by_cases hh : hasL l p = true
  · exact hh
  · rw [if_neg hh] at h; cases h
theorem srt_ext {a b : List It} (ha : Srt a) (hb : Srt b) (h : ∀ x, x ∈ a ↔ x ∈ b) : a = b := by
  induction a generalizing b with
  | nil =>
    cases b with
    | nil => rfl
    | cons y b => exact absurd ((h y).2 (by simp)) (by simp)
  | cons x a ih =>
    cases b with
    | nil => exact absurd ((h x).1 (by simp)) (by simp)
    | cons y b =>
      replace ha := List.pairwise_cons.1 ha
      replace hb := List.pairwise_cons.1 hb
      have hxy : x = y := by
        by_cases e : x = y
        · exact e
        · have h1 : x ∈ b := by
            rcases List.mem_cons.1 ((h x).1 (by simp)) with k | k
            · exact absurd k e
            · exact k
          have h2 : y ∈ a := by
            rcases List.mem_cons.1 ((h y).2 (by simp)) with k | k
            · exact absurd k.symm e
            · exact k
          exact absurd (cl_lt_trans (hb.1 x h1) (ha.1 y h2)) (fun k => cl_irr k)
      subst hxy
      congr 1
      refine ih ha.2 hb.2 fun z => ⟨fun hz => ?_, fun hz => ?_⟩
      · rcases List.mem_cons.1 ((h z).1 (List.mem_cons_of_mem _ hz)) with k | k
        · subst k; exact absurd (ha.1 z hz) (fun k => cl_irr k)
        · exact k
      · rcases List.mem_cons.1 ((h z).2 (List.mem_cons_of_mem _ hz)) with k | k
        · subst k; exact absurd (hb.1 z hz) (fun k => cl_irr k)
        · exact k

/-! ### Operations -/
structure Opn where
  kind : Int
  path : Str
  to : Str
  data : Str
def mostM (k : Int) : Nat := if k = 2 ∨ k = 3 then 524288 else if k = 4 then 2000 else 0
def leastM (k : Int) : Nat := if k = 4 then 1 else 0
def checkM (o : Opn) : Int :=
  if o.kind < 1 ∨ 7 < o.kind then 2
  else if (o.kind ≠ 5 ∧ o.to ≠ []) ∨ (mostM o.kind = 0 ∧ o.data ≠ []) ∨ o.data.length < leastM o.kind then 2
  else if validB o.path = false ∨ (o.kind = 5 ∧ validB o.to = false) then 110
  else if mostM o.kind < o.data.length then 3 else 0
def openM (l : List It) (p : Str) : Int := match getI l (upL p) with
  | none => 4
  | some d => if d.kind = 1 then 0 else 161
def addM (l : List It) (x : It) : Except Int (List It) :=
  if openM l x.path ≠ 0 then .error (openM l x.path)
  else if (getI l x.path).isSome then .error 5
  else if l.length = 2000 then .error 6
  else .ok (putL l [x] x.path)
def writeM (l : List It) (p d : Str) : Except Int (List It) :=
  if openM l p ≠ 0 then .error (openM l p)
  else match getI l p with
    | some x => if x.kind = 2 then .ok (putL l [⟨p, 2, d⟩] p) else .error 161
    | none => if l.length = 2000 then .error 6 else .ok (putL l [⟨p, 2, d⟩] p)
def extendM (l : List It) (p d : Str) : Except Int (List It) := match getI l p with
  | none => .error 4
  | some x => if x.kind ≠ 2 then .error 161 else if 524288 < x.data.length + d.length then .error 3 else .ok (putL l [⟨p, 2, x.data ++ d⟩] p)
/-- The names of what stands at q, beneath a path of these names, as it stands beneath another one. -/
def newN (frm to q : Str) : List Str := namesL to ++ (namesL q).drop (namesL frm).length
def newI (frm to : Str) (y : It) : It := ⟨joinL (newN frm to y.path), y.kind, y.data⟩
def movedM (l : List It) (frm to : Str) (x : It) : List It := ⟨to, x.kind, x.data⟩ :: (belowL l frm).map (newI frm to)
def fitsM (l : List It) (frm to : Str) : Bool := (belowL l frm).all fun y => partsB (newN frm to y.path)
def moveM (l : List It) (frm to : Str) : Except Int (List It) := match getI l frm with
  | none => .error 4
  | some x =>
    if underB to frm = true then .error 2
    else if openM l to ≠ 0 then .error (openM l to)
    else if (getI l to).isSome then .error 5
    else if fitsM l frm to = false then .error 110
    else .ok (putL (takeL l frm ((belowL l frm).length + 1)) (movedM l frm to x) to)
def unlinkM (l : List It) (p : Str) : Except Int (List It) := match getI l p with
  | none => .error 4
  | some x => if x.kind = 1 then .error 161 else .ok (takeL l p 1)
def rmdirM (l : List It) (p : Str) : Except Int (List It) := match getI l p with
  | none => .error 4
  | some x => if x.kind ≠ 1 then .error 161 else if x = .root ∨ belowL l p ≠ [] then .error 162 else .ok (takeL l p 1)
def doesM (l : List It) (o : Opn) : Except Int (List It) :=
  if o.kind = 1 then addM l ⟨o.path, 1, []⟩
  else if o.kind = 2 then writeM l o.path o.data
  else if o.kind = 3 then extendM l o.path o.data
  else if o.kind = 4 then addM l ⟨o.path, 3, o.data⟩
  else if o.kind = 5 then moveM l o.path o.to
  else if o.kind = 6 then unlinkM l o.path
  else rmdirM l o.path
def actM (l : List It) (o : Opn) : Except Int (List It) := if checkM o ≠ 0 then .error (checkM o) else doesM l o
def runM : List It → List Opn → List It × Nat × Int
  | l, [] => (l, 0, 0)
  | l, o :: r => match actM l o with
    | .error e => (l, 0, e)
    | .ok l' => ((runM l' r).1, (runM l' r).2.1 + 1, (runM l' r).2.2)
end Go.Proofs.YtjbbnecegomkcaaGreatDoor
