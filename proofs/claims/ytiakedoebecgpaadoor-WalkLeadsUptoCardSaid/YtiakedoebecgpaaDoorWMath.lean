/- Plain words on ways through trees: what a text leads to, part by part. Nothing of the program stands here. -/
import Derived.Test.YtiakedoebecgpaaDoorTMath2
namespace Go.Proofs.YtiakedoebecgpaaDoor

def getI (l : List It) (p : Str) : Option It := if p = [47] then some .root else l.find? fun x => x.path == p
def trimS (p : Str) : Str := if p.getLast? = some 47 then p.dropLast else p
def toL (p part : Str) : Str := trimS p ++ 47 :: part
def stepM (l : List It) (last : Bool) (here : It) (part : Str) (rest : List Str) (hops : Nat) : Except Int (It × List Str × Nat) :=
  if part = [] ∨ part = [46] then .ok (here, rest, hops)
  else if part = [46, 46] then .ok ((getI l (upL here.path)).getD .nil, rest, hops)
  else match getI l (toL here.path part) with
    | none => .error 4
    | some x =>
      if x.kind = 2 ∧ rest ≠ [] then .error 161
      else if x.kind = 3 ∧ (rest ≠ [] ∨ last = true) then (if hops = 40 then .error 170 else .ok (if x.data.head? = some 47 then .root else here, cutP x.data ++ rest, hops + 1))
      else .ok (x, rest, hops)
def goM (l : List It) (last : Bool) : Nat → It → List Str → Nat → Except Int (It × Nat)
  | _, here, [], hops => .ok (here, hops)
  | 0, _, _ :: _, _ => .error 0
  | f + 1, here, part :: rest, hops => match stepM l last here part rest hops with
    | .error e => .error e
    | .ok r => goM l last f r.1 r.2.1 r.2.2
def mM (rest : List Str) (hops : Nat) : Nat := rest.length + (40 - hops) * 2001
def leadM (l : List It) (at_ s : Str) (last : Bool) : Except Int (It × Nat) :=
  if validB at_ = false then .error 110
  else match getI l at_ with
    | none => .error 4
    | some x => if x.kind ≠ 1 then .error 161 else goM l last 90000 (if s.head? = some 47 then .root else x) (cutP s) 0
/-- Resolve and Hops together. -/
def walkM (l : List It) (at_ s : Str) (last : Bool) : Except Int (It × Nat) :=
  if validT l = false then .error 160 else if 2000 < s.length then .error 3 else leadM l at_ s last

theorem goM_end (l : List It) (last : Bool) (f : Nat) (here : It) (hops : Nat) : goM l last f here [] hops = .ok (here, hops) := by cases f <;> rfl
theorem goM_go {l : List It} {last : Bool} {f : Nat} {here : It} {part : Str} {rest : List Str} {hops : Nat} {r : It × List Str × Nat} (h : stepM l last here part rest hops = .ok r) : goM l last (f + 1) here (part :: rest) hops = goM l last f r.1 r.2.1 r.2.2 := by
  simp only [goM, h]
theorem goM_no {l : List It} {last : Bool} {f : Nat} {here : It} {part : Str} {rest : List Str} {hops : Nat} {e : Int} (h : stepM l last here part rest hops = .error e) : goM l last (f + 1) here (part :: rest) hops = .error e := by
  simp only [goM, h]

/-! ### What stands in a tree -/
theorem find_mem {l : List It} {p : Str} {x : It} (h : l.find? (fun x => x.path == p) = some x) : x ∈ l ∧ x.path = p := ⟨List.mem_of_find?_eq_some h, by simpa using List.find?_some h⟩
theorem TreeOk.one {l : List It} (h : TreeOk l) {x y : It} (hx : x ∈ l) (hy : y ∈ l) (e : x.path = y.path) : x = y := by
  rcases List.mem_iff_getElem.1 hx with ⟨i, hi, rfl⟩
  rcases List.mem_iff_getElem.1 hy with ⟨j, hj, rfl⟩
  rcases Nat.lt_trichotomy i j with q | q | q
  · have := List.pairwise_iff_getElem.1 h.sorted i j hi hj q
    rw [e, (cl_zero _ _).2 rfl] at this
    exact absurd this (by decide)
  · subst q; rfl
  · have := List.pairwise_iff_getElem.1 h.sorted j i hj hi q
    rw [e, (cl_zero _ _).2 rfl] at this
    exact absurd this (by decide)
theorem TreeOk.find {l : List It} (h : TreeOk l) {x : It} (hx : x ∈ l) : l.find? (fun y => y.path == x.path) = some x := by
  cases e : l.find? (fun y => y.path == x.path) with
  | none => have := List.find?_eq_none.1 e x hx; simp at this
  | some y =>
    obtain ⟨hy, hp⟩ := find_mem e
    rw [h.one hy hx hp]
theorem TreeOk.get {l : List It} (h : TreeOk l) {x : It} (hx : x ∈ l) : getI l x.path = some x := by
  unfold getI
  rw [if_neg (h.kid x hx).1.2.1]
  exact h.find hx
theorem get_root (l : List It) : getI l [47] = some .root := by simp [getI]
/-- Root, or among the items. -/
def Here (l : List It) (x : It) : Prop := x = .root ∨ x ∈ l
theorem Here.get {l : List It} (h : TreeOk l) {x : It} (hx : Here l x) : getI l x.path = some x := by
  rcases hx with rfl | hx
  · exact get_root l
  · exact h.get hx
theorem get_here {l : List It} {p : Str} {x : It} (h : getI l p = some x) : Here l x ∧ x.path = p := by
  unfold getI at h
  split at h
  · rename_i e; cases h; exact ⟨.inl rfl, e.symm⟩
  · exact ⟨.inr (find_mem h).1, (find_mem h).2⟩
theorem Here.valid {l : List It} (h : TreeOk l) {x : It} (hx : Here l x) : validB x.path = true := by
  rcases hx with rfl | hx
  · exact validB_root
  · exact (h.kid x hx).1.1
theorem Here.kinds {l : List It} (h : TreeOk l) {x : It} (hx : Here l x) : x.kind = 1 ∨ x.kind = 2 ∨ x.kind = 3 := by
  rcases hx with rfl | hx
  · exact .inl rfl
  · have := (h.kid x hx).2
    unfold It.dataB at this
    by_cases h1 : x.kind = 1
    · exact .inl h1
    · by_cases h2 : x.kind = 2
      · exact .inr (.inl h2)
      · by_cases h3 : x.kind = 3
        · exact .inr (.inr h3)
        · rw [if_neg h1, if_neg h2, if_neg h3] at this; cases this
theorem Here.link {l : List It} (h : TreeOk l) {x : It} (hx : Here l x) (hk : x.kind = 3) : x.data.length ≤ 2000 := by
  rcases hx with rfl | hx
  · exact absurd hk (by decide)
  · have := (h.kid x hx).2
    unfold It.dataB at this
    rw [if_neg (by omega), if_neg (by omega), if_pos hk, decide_eq_true_iff] at this
    exact this.2
/-- Above each stands a directory. -/
theorem Here.up {l : List It} (h : TreeOk l) {x : It} (hx : Here l x) : ∃ y, getI l (upL x.path) = some y ∧ y.kind = 1 ∧ Here l y := by
  rcases hx with rfl | hx
  · exact ⟨.root, by show getI l (upL [47]) = _; rw [up_root]; exact get_root l, rfl, .inl rfl⟩
  · rcases h.up x hx with e | ⟨y, hy, e, k⟩
    · exact ⟨.root, by rw [e]; exact get_root l, rfl, .inl rfl⟩
    · exact ⟨y, by rw [← e]; exact h.get hy, k, .inr hy⟩

theorem cut_len (s : Str) : (cutP s).length ≤ s.length + 1 := by
  rw [cutP_count]
  have := List.count_le_length (a := (47 : UInt8)) (l := s)
  omega

/-! ### A step -/
/-- Where the way is: in the tree, at a directory as long as there are parts. -/
structure Stand (l : List It) (last : Bool) (it : It) (rest : List Str) (n : Nat) : Prop where
  here : Here l it
  dir : rest ≠ [] → it.kind = 1
  link : last = true → it.kind ≠ 3
  hops : n ≤ 40
theorem Stand.step {l : List It} (h : TreeOk l) {last : Bool} {here : It} {part : Str} {rest : List Str} {hops : Nat} {r : It × List Str × Nat} (hs : Stand l last here (part :: rest) hops) (he : stepM l last here part rest hops = .ok r) :
    Stand l last r.1 r.2.1 r.2.2 ∧ mM r.2.1 r.2.2 < mM (part :: rest) hops := by
  have hd := hs.dir (by simp)
  unfold stepM at he
  split at he
  · cases he
    exact ⟨⟨hs.here, fun _ => hd, hs.link, hs.hops⟩, by simp [mM]⟩
  · split at he
    · cases he
      obtain ⟨y, e, k, hy⟩ := hs.here.up h
      simp only [e, Option.getD_some]
      exact ⟨⟨hy, fun _ => k, fun _ => by rw [k]; decide, hs.hops⟩, by simp [mM]⟩
    · split at he
      · cases he
      · rename_i x hx
        obtain ⟨hh, hp⟩ := get_here hx
        split at he
        · cases he
        · rename_i h2
          split at he
          · rename_i h3
            split at he
            · cases he
            · rename_i h4
              cases he
              have hl := hh.link h h3.1
              have hc := cut_len x.data
              have ho := hs.hops
              refine ⟨⟨?_, fun _ => ?_, fun _ => ?_, by show hops + 1 ≤ 40; omega⟩, ?_⟩
              · show Here l (if x.data.head? = some 47 then .root else here)
                split
                · exact .inl rfl
                · exact hs.here
              · show (if x.data.head? = some 47 then It.root else here).kind = 1
                split
                · rfl
                · exact hd
              · show (if x.data.head? = some 47 then It.root else here).kind ≠ 3
                split
                · decide
                · rw [hd]; decide
              · show mM (cutP x.data ++ rest) (hops + 1) < _
                simp only [mM, List.length_append, List.length_cons]
                have : (40 - hops) = (40 - (hops + 1)) + 1 := by omega
                rw [this, Nat.add_mul]
                omega
          · rename_i h3
            cases he
            refine ⟨⟨hh, fun hr => ?_, fun hl => ?_, hs.hops⟩, by simp [mM]⟩
            · rcases hh.kinds h with k | k | k
              · exact k
              · exact absurd ⟨k, hr⟩ h2
              · exact absurd ⟨k, .inl hr⟩ h3
            · intro k
              exact h3 ⟨k, .inr hl⟩
theorem go_stands {l : List It} (h : TreeOk l) {last : Bool} (f : Nat) {here x : It} {rest : List Str} {hops n : Nat} (hs : Stand l last here rest hops) (he : goM l last f here rest hops = .ok (x, n)) : Here l x ∧ (last = true → x.kind ≠ 3) ∧ n ≤ 40 := by
  induction f generalizing here rest hops with
  | zero =>
    cases rest with
    | nil => cases he; exact ⟨hs.here, hs.link, hs.hops⟩
    | cons p r => cases he
  | succ f ih =>
    cases rest with
    | nil => rw [goM_end] at he; cases he; exact ⟨hs.here, hs.link, hs.hops⟩
    | cons p r =>
      cases e : stepM l last here p r hops with
      | error k => rw [goM_no e] at he; cases he
      | ok q => rw [goM_go e] at he; exact ih (hs.step h e).1 he
/-- The last link is followed, or not: else it is the same. -/
theorem go_last (l : List It) (f : Nat) (here : It) (rest : List Str) (hops : Nat) : goM l true f here rest hops = goM l false f here rest hops ∨ ∃ y n, goM l false f here rest hops = .ok (y, n) ∧ y.kind = 3 := by
  induction f generalizing here rest hops with
  | zero => cases rest <;> exact .inl rfl
  | succ f ih =>
    cases rest with
    | nil => rw [goM_end, goM_end]; exact .inl rfl
    | cons p r =>
      have key : stepM l true here p r hops = stepM l false here p r hops ∨ (r = [] ∧ ∃ x, stepM l false here p r hops = .ok (x, [], hops) ∧ x.kind = 3) := by
        unfold stepM
        split
        · exact .inl rfl
        · split
          · exact .inl rfl
          · split
            · exact .inl rfl
            · rename_i x hx
              by_cases h1 : x.kind = 2 ∧ r ≠ []
              · rw [if_pos h1, if_pos h1]; exact .inl rfl
              · rw [if_neg h1, if_neg h1]
                by_cases h3 : x.kind = 3
                · by_cases hr : r = []
                  · subst hr
                    exact .inr ⟨rfl, x, by simp [h3], h3⟩
                  · simp [h3, hr]
                · rw [if_neg (fun k => h3 k.1), if_neg (fun k => h3 k.1)]; exact .inl rfl
      rcases key with e | ⟨rfl, x, e, k⟩
      · cases e2 : stepM l false here p r hops with
        | error q => rw [goM_no e2, goM_no (e.trans e2)]; exact .inl rfl
        | ok q => rw [goM_go e2, goM_go (e.trans e2)]; exact ih _ _ _
      · right
        rw [goM_go e, goM_end]
        exact ⟨_, _, rfl, k⟩

theorem trim_root : trimS [47] = [] := rfl
theorem trim_path {p : Str} (h : validB p = true) : trimS p = flat (namesL p) := by
  by_cases hr : p = [47]
  · subst hr; rfl
  · obtain ⟨init, x, e1, e2, e3, e4, e5⟩ := valid_last p h hr
    have hf := flat_of h hr
    rw [hf]
    unfold trimS
    rw [if_neg ?_]
    intro k
    have hx := (name_ne x e3).1
    rw [e2] at k
    have : (flat init ++ 47 :: x).getLast? = x.getLast? := by
      obtain ⟨a, b, rfl⟩ : ∃ a b, x = a ++ [b] := ⟨_, _, (List.dropLast_concat_getLast hx).symm⟩
      rw [← List.cons_append, ← List.append_assoc, List.getLast?_concat, List.getLast?_concat]
    rw [this] at k
    exact e5 (List.mem_of_getLast? k)
/-- What stands one name behind where it is. -/
theorem to_path {p x : Str} (h : validB p = true) : toL p x = flat (namesL p ++ [x]) := by
  unfold toL
  rw [trim_path h, flat_append, flat_cons, flat_nil, List.append_nil]
theorem flat_join (l : List Str) (h : l ≠ []) : flat l = joinL l := (joinL_flat l h).symm

/-! ### Its own path leads to it -/
/-- Whatever is above an item is a directory. -/
theorem anc {l : List It} (h : TreeOk l) (more : List Str) : ∀ (pre : List Str) (x : It), Here l x → namesL x.path = pre ++ more → more ≠ [] → ∃ y, getI l (joinL pre) = some y ∧ y.kind = 1 ∧ Here l y := by
  induction more using snoc_ind with
  | nil => intro pre x hx hn h0; exact absurd rfl h0
  | snoc m z ih =>
    intro pre x hx hn _
    obtain ⟨y, e, k, hy⟩ := hx.up h
    have hv := hx.valid h
    have hun := up_valid x.path hv
    have hny : namesL (upL x.path) = pre ++ m := by rw [hun.2, hn, ← List.append_assoc, List.dropLast_concat]
    have hpath := (get_here e).2
    by_cases hm : m = []
    · subst hm
      rw [List.append_nil] at hny
      refine ⟨y, ?_, k, hy⟩
      rw [← hny, (valid_join _ hun.1).1]
      exact e
    · exact ih pre y hy (by rw [hpath]; exact hny) hm
theorem go_path {l : List It} (h : TreeOk l) (last : Bool) (x : It) (hx : Here l x) (hl : last = true → x.kind ≠ 3) (more : List Str) : ∀ (pre : List Str) (y : It) (f : Nat), namesL x.path = pre ++ more → getI l (joinL pre) = some y → y.kind = 1 ∨ more = [] → more.length ≤ f → goM l last f y more 0 = .ok (x, 0) := by
  induction more with
  | nil =>
    intro pre y f hn hy _ _
    rw [goM_end]
    rw [List.append_nil] at hn
    rw [← hn, (valid_join _ (hx.valid h)).1] at hy
    rw [hx.get h] at hy
    cases hy; rfl
  | cons p r ih =>
    intro pre y f hn hy hk hf
    obtain ⟨f, rfl⟩ : ∃ g, f = g + 1 := ⟨f - 1, by simp at hf; omega⟩
    have hnm := valid_names _ (hx.valid h)
    have hp : nameB p = true := hnm.2 p (by rw [hn]; simp)
    obtain ⟨n1, n2, n3, _⟩ := name_ne p hp
    obtain ⟨hyh, hyp⟩ := get_here hy
    have hpre : partsB pre = true := (parts_iff _).2 ⟨by have := hnm.1; rw [hn] at this; simp at this; omega, fun z hz => hnm.2 z (by rw [hn]; simp [hz])⟩
    have hto : toL y.path p = joinL (pre ++ [p]) := by
      rw [to_path (hyh.valid h), hyp, (join_valid _ hpre).2, flat_join _ (by simp)]
    have hn2 : namesL x.path = (pre ++ [p]) ++ r := by rw [hn]; simp
    have hnext : ∃ z, getI l (joinL (pre ++ [p])) = some z ∧ (z.kind = 1 ∨ (r = [] ∧ z = x)) := by
      by_cases hr : r = []
      · subst hr
        rw [List.append_nil] at hn2
        exact ⟨x, by rw [← hn2, (valid_join _ (hx.valid h)).1]; exact hx.get h, .inr ⟨rfl, rfl⟩⟩
      · obtain ⟨z, e, k, _⟩ := anc h r (pre ++ [p]) x hx hn2 hr
        exact ⟨z, e, .inl k⟩
    obtain ⟨z, hz, hzk⟩ := hnext
    have hstep : stepM l last y p r 0 = .ok (z, r, 0) := by
      unfold stepM
      rw [if_neg (by simp [n1, n2]), if_neg n3, hto, hz]
      simp only
      rcases hzk with k | ⟨rfl, rfl⟩
      · rw [if_neg (by omega), if_neg (by omega)]
      · rw [if_neg (by simp), if_neg (fun k => k.2.elim (fun q => q rfl) (fun q => hl q k.1))]
    rw [goM_go hstep]
    exact ih (pre ++ [p]) z f hn2 hz (by rcases hzk with k | ⟨k, _⟩; exact .inl k; exact .inr k) (by simp at hf; omega)
theorem path_parts {p : Str} (h : validB p = true) : p.head? = some 47 ∧ cutP p = [] :: (if p = [47] then [[]] else namesL p) := by
  cases p with
  | nil => cases h
  | cons c r =>
    have hc : c = 47 := by simp [validB] at h; exact h.1
    subst hc
    refine ⟨rfl, ?_⟩
    rw [cutP_cons, if_pos rfl]
    by_cases hr : r = []
    · subst hr; rfl
    · rw [if_neg (by simpa using hr)]
      show [] :: cutP r = [] :: splitL r
      rw [splitL, if_neg hr]
theorem walk_self {l : List It} (hv : validT l = true) (last : Bool) (x : It) (hx : Here l x) (hl : last = true → x.kind ≠ 3) : walkM l [47] x.path last = .ok (x, 0) := by
  have h := tree_ok hv
  have hxv := hx.valid h
  have hlen := valid_len _ hxv
  obtain ⟨h1, h2⟩ := path_parts hxv
  unfold walkM leadM
  rw [if_neg (by simp [hv]), if_neg (by omega), if_neg (by simp [validB_root]), get_root]
  simp only
  rw [if_neg (by decide), if_pos h1, h2]
  have e0 : ∀ r, stepM l last .root [] r 0 = .ok (.root, r, 0) := fun r => by unfold stepM; rw [if_pos (.inl rfl)]
  rw [goM_go (f := 89999) (e0 _)]
  split
  · rename_i e
    rw [goM_go (f := 89998) (e0 _), goM_end]
    rcases hx with rfl | hx
    · rfl
    · exact absurd e (h.kid x hx).1.2.1
  · rename_i e
    refine go_path h last x hx hl (namesL x.path) [] .root 89999 (by simp) (get_root l) (.inl rfl) ?_
    have := (valid_names _ hxv).1
    omega
theorem begin_stand {l : List It} {at_ : Str} {x : It} (hx : getI l at_ = some x) (hk : x.kind = 1) (last : Bool) (s : Str) (r : List Str) : Stand l last (if s.head? = some 47 then .root else x) r 0 := by
  refine ⟨?_, fun _ => ?_, fun _ => ?_, Nat.zero_le _⟩
  · split
    · exact .inl rfl
    · exact (get_here hx).1
  · split
    · rfl
    · exact hk
  · split
    · decide
    · rw [hk]; decide
theorem walk_ends {l : List It} {at_ s : Str} {last : Bool} {x : It} {n : Nat} (h : walkM l at_ s last = .ok (x, n)) : validT l = true ∧ Here l x ∧ (last = true → x.kind ≠ 3) ∧ n ≤ 40 := by
  unfold walkM at h
  cases hv : validT l with
  | false => rw [hv, if_pos rfl] at h; cases h
  | true =>
    rw [hv, if_neg (by decide)] at h
    split at h
    · cases h
    · unfold leadM at h
      split at h
      · cases h
      · split at h
        · cases h
        · rename_i y hy
          split at h
          · cases h
          · rename_i hk
            exact ⟨rfl, go_stands (tree_ok hv) 90000 (begin_stand hy (by simpa using hk) last s _) h⟩
theorem walk_last (l : List It) (at_ s : Str) : walkM l at_ s true = walkM l at_ s false ∨ ∃ y n, walkM l at_ s false = .ok (y, n) ∧ y.kind = 3 := by
  unfold walkM
  split
  · exact .inl rfl
  · split
    · exact .inl rfl
    · unfold leadM
      split
      · exact .inl rfl
      · split
        · exact .inl rfl
        · split
          · exact .inl rfl
          · exact go_last _ _ _ _ _

/-! ### Without links -/
theorem go_plain {l : List It} (h : TreeOk l) (hno : ∀ x ∈ l, x.kind ≠ 3) (f : Nat) : ∀ (here x : It) (rest : List Str) (n : Nat), Here l here → (∀ q ∈ rest, 47 ∉ q) → goM l true f here rest 0 = .ok (x, n) → n = 0 ∧ Here l x ∧ goW (namesL here.path) rest = some (namesL x.path) := by
  induction f with
  | zero =>
    intro here x rest n hh _ he
    cases rest with
    | nil => cases he; exact ⟨rfl, hh, rfl⟩
    | cons p r => cases he
  | succ f ih =>
    intro here x rest n hh hq he
    cases rest with
    | nil => rw [goM_end] at he; cases he; exact ⟨rfl, hh, rfl⟩
    | cons p r =>
      have hgo : ∀ m m', stepW (some m) p = some m' → goW m (p :: r) = goW m' r := by
        intro m m' e
        unfold goW
        rw [List.foldl_cons, e]
      have hq2 : ∀ q ∈ r, 47 ∉ q := fun q hqr => hq q (by simp [hqr])
      cases e : stepM l true here p r 0 with
      | error k => rw [goM_no e] at he; cases he
      | ok q =>
        rw [goM_go e] at he
        unfold stepM at e
        split at e
        · rename_i h0
          cases e
          obtain ⟨a, b, c⟩ := ih _ _ _ _ hh hq2 he
          exact ⟨a, b, by rw [hgo _ _ (stepW_skip _ _ h0)]; exact c⟩
        · rename_i h0
          split at e
          · rename_i h1
            cases e
            obtain ⟨y, ey, k, hy⟩ := hh.up h
            simp only [ey, Option.getD_some] at he
            obtain ⟨a, b, c⟩ := ih _ _ _ _ hy hq2 he
            refine ⟨a, b, ?_⟩
            rw [h1] at hgo ⊢
            rw [hgo _ _ (stepW_up _), ← (up_valid _ (hh.valid h)).2, ← (get_here ey).2]
            exact c
          · rename_i h1
            split at e
            · cases e
            · rename_i z hz
              obtain ⟨hzh, hzp⟩ := get_here hz
              have hz3 : z.kind ≠ 3 := by
                rcases hzh with rfl | hzl
                · decide
                · exact hno z hzl
              split at e
              · cases e
              · rw [if_neg (fun k => hz3 k.1)] at e
                cases e
                obtain ⟨a, b, c⟩ := ih _ _ _ _ hzh hq2 he
                refine ⟨a, b, ?_⟩
                -- the names of what is found
                have hv := hzh.valid h
                have hvh := hh.valid h
                rw [to_path hvh] at hzp
                have hn : namesL z.path = namesL here.path ++ [p] := by
                  rw [hzp]
                  have hall : ∀ y ∈ namesL here.path ++ [p], 47 ∉ y := by
                    intro y hy
                    rcases List.mem_append.1 hy with k | k
                    · exact name_slash _ ((valid_names _ hvh).2 y k)
                    · simp at k; subst k; exact hq y (by simp)
                  cases hl : namesL here.path ++ [p] with
                  | nil => simp at hl
                  | cons a b =>
                    rw [hl] at hall
                    rw [flat_cons]
                    show splitL (a ++ flat b) = _
                    have hne : a ++ flat b ≠ [] := by
                      intro k
                      have hp0 : p ≠ [] := fun k => h0 (.inl k)
                      have : flat (a :: b) = [47] := by rw [flat_cons, k]
                      rw [← hl, ← hzp] at this
                      have h2 := (names_root _ hv).2 this
                      rw [List.append_eq_nil_iff] at k
                      rw [k.1, (flat_zero b).1 (by rw [k.2]; rfl)] at hl
                      have := congrArg List.getLast? hl
                      simp at this
                      exact hp0 this
                    rw [splitL, if_neg hne]
                    exact cutP_flat a b (hall a (by simp)) (fun y hy => hall y (by simp [hy]))
                have hpn := valid_names _ hv
                rw [hn] at hpn
                have hnp : nameB p = true := hpn.2 p (by simp)
                obtain ⟨n1, n2, n3, _⟩ := name_ne p hnp
                rw [hgo _ _ (stepW_add _ _ (by have := hpn.1; simp at this; omega) hnp), ← hn]
                exact c
theorem cutP_noslash (s : Str) : ∀ q ∈ cutP s, 47 ∉ q := by
  induction s with
  | nil => intro q hq; simp [cutP] at hq; subst hq; simp
  | cons c s ih =>
    intro q hq
    rw [cutP_cons] at hq
    split at hq
    · rcases List.mem_cons.1 hq with rfl | hq
      · simp
      · exact ih q hq
    · rename_i hc
      cases e : cutP s with
      | nil => exact absurd e (cutP_ne s)
      | cons a b =>
        rw [e] at hq ih
        simp only [consHead] at hq
        rcases List.mem_cons.1 hq with rfl | hq
        · intro k
          rcases List.mem_cons.1 k with k | k
          · exact hc k.symm
          · exact ih a (by simp) k
        · exact ih q (by simp [hq])
theorem walk_plain {l : List It} (hno : ∀ x ∈ l, x.kind ≠ 3) {at_ s : Str} {x : It} {n : Nat} (h : walkM l at_ s true = .ok (x, n)) : n = 0 ∧ validB at_ = true ∧ validB x.path = true ∧ cleanL at_ s = some (namesL x.path) := by
  have hw := walk_ends h
  have ht := tree_ok hw.1
  unfold walkM at h
  rw [hw.1, if_neg (by decide)] at h
  split at h
  · cases h
  · unfold leadM at h
    split at h
    · cases h
    · rename_i hva
      have hva : validB at_ = true := by simpa using hva
      split at h
      · cases h
      · rename_i y hy
        split at h
        · cases h
        · rename_i hk
          obtain ⟨hyh, hyp⟩ := get_here hy
          have hb := (begin_stand hy (by simpa using hk) true s []).here
          obtain ⟨a, b, c⟩ := go_plain ht hno 90000 _ _ _ _ hb (cutP_noslash s) h
          refine ⟨a, hva, hw.2.1.valid ht, ?_⟩
          unfold cleanL
          rw [← c]
          congr 1
          split
          · rfl
          · rw [hyp]
end Go.Proofs.YtiakedoebecgpaaDoor
