/- What an argument that is a slice of texts reads as, for the laws' last steps. | Plain words on puncheonref07: what its steps answer, and that they lead where the program's ways lead. Nothing of the program stands here. | Plain words on puncheonref07: where Goes and Resolve lead, and that a step keeps what the loop asks. Nothing of the program stands here. | Proved here: laws for single steps of regions that draw their order: append of a row of texts to one's own, and a store of a row. | Proved here: step of puncheonref07: a way behind one part. | Proved here: Goes of puncheonref07: where a text leads to from a path on, for every tree that may be. | Proved here: Resolve and Lookup of puncheonref07, for every tree that may be. | Proved here: Lookup of puncheonref07, for every tree that may be. | Proved here: what WalkStacks asks, of lists alone; and cut of puncheonlaw07 over a row that may be read. | What an argument that is a tree reads as, where the statement bounds what came in: for the Upto laws' last steps. -/
import Derived.Test.YtiakedoebecgpaaDoorMT1
import Derived.Maps.AppendAt
import Derived.Laws.AppendOwnNone
import Derived.Deep.DeepCutAuto
import Derived.Test.YtiakedoebecgpaaDoorWLook
import Derived.Test.YtiakedoebecgpaaDoorWWakes
import Derived.Test.YtiakedoebecgpaaDoorFew
import Derived.Test.YtiakedoebecgpaaDoorWCommon
import Derived.Test.YtiakedoebecgpaaDoorRefC
import Derived.SliceStrings
namespace Go.Proofs.YtiakedoebecgpaaDoor

theorem refG_get (l : List It) (p : Str) : refG l p = match getI l p with | some x => (x, true) | none => (.nil, false) := by
  unfold refG getI
  split
  · rfl
  · cases l.find? (fun x => x.path == p) <;> rfl
def stepR (l : List It) (last : Bool) (at_ part : Str) (rest : List Str) (hops : Nat) : Except Int (Str × List Str × Nat × Bool) :=
  if part = [] ∨ part = [46] then .ok (at_, rest, hops, false)
  else if part = [46, 46] then .ok (upL at_, rest, hops, false)
  else if nameB part = false ∨ (namesL at_).length = 40 then .error 4
  else if (refG l (joinL (namesL at_ ++ [part]))).2 = false then .error 4
  else if (refG l (joinL (namesL at_ ++ [part]))).1.kind = 1 then .ok (joinL (namesL at_ ++ [part]), rest, hops, false)
  else if (refG l (joinL (namesL at_ ++ [part]))).1.kind = 2 ∧ rest ≠ [] then .error 161
  else if (refG l (joinL (namesL at_ ++ [part]))).1.kind = 2 ∨ (rest = [] ∧ last = false) then .ok (joinL (namesL at_ ++ [part]), rest, hops, true)
  else if hops = 40 then .error 170
  else .ok (if (refG l (joinL (namesL at_ ++ [part]))).1.data.head? = some 47 then [47] else at_, cutP (refG l (joinL (namesL at_ ++ [part]))).1.data ++ rest, hops + 1, false)
/-- The same step, ended or not. -/
def SameStep : Except Int (It × List Str × Nat) → Except Int (Str × List Str × Nat × Bool) → Prop
  | .error e, .error e' => e = e'
  | .ok r, .ok q => q.1 = r.1.path ∧ q.2.1 = r.2.1 ∧ q.2.2.1 = r.2.2 ∧ (q.2.2.2 = true → r.2.1 = [])
  | _, _ => False
theorem to_join {p x : Str} (h : validB p = true) : toL p x = joinL (namesL p ++ [x]) := by
  rw [to_path h, joinL_flat _ (by simp)]
theorem item_nr' {l : List It} (h : TreeOk l) {x : It} (hx : x ∈ l) : x.path ≠ [47] := (h.kid x hx).1.2.1
theorem name_no {s : Str} (h : nameB s = true) : 47 ∉ s := by
  unfold nameB at h
  rw [Bool.and_eq_true, List.all_eq_true] at h
  intro hm
  have := h.2 47 hm
  exact absurd this (by decide)
theorem parts_no {r : List Str} (h : partsB r = true) (y : Str) (hy : y ∈ r) : 47 ∉ y := by
  unfold partsB at h
  rw [Bool.and_eq_true, List.all_eq_true] at h
  exact name_no (h.2 y hy)
theorem names_to {l : List It} (h : TreeOk l) {p part : Str} (hp : validB p = true) (hns : 47 ∉ part) (hne : part ≠ []) {x : It} (hg : getI l (toL p part) = some x) : nameB part = true ∧ (namesL p).length ≠ 40 := by
  obtain ⟨hh, hx⟩ := get_here hg
  have hv := hh.valid h
  rw [hx, to_join hp] at hv
  have hpn : partsB (namesL p) = true := (valid_join p hp).2
  have e := valid_join _ hv
  have hn : namesL (joinL (namesL p ++ [part])) = namesL p ++ [part] := by
    have hno : ∀ y ∈ namesL p ++ [part], 47 ∉ y := fun y hy => by
      rcases List.mem_append.1 hy with hy | hy
      · exact parts_no hpn y hy
      · rw [List.mem_singleton] at hy; rw [hy]; exact hns
    have h1 := (path_parts hv).2
    have h2 : cutP (joinL (namesL p ++ [part])) = [] :: (namesL p ++ [part]) := by
      rw [joinL_flat _ (by simp)]
      exact cutP_flat [] _ (by simp) hno
    rw [h2] at h1
    simp only [List.cons.injEq, true_and] at h1
    split at h1
    · rename_i h47
      exfalso
      rw [joinL_flat _ (by simp), flat_append, flat_cons, flat_nil, List.append_nil] at h47
      have h48 := congrArg List.length h47
      rw [List.length_append, List.length_cons] at h48
      simp at h48
      exact hne (List.eq_nil_of_length_eq_zero (by omega))
    · exact h1.symm
  rw [hn] at e
  have := e.2
  unfold partsB at this
  rw [Bool.and_eq_true, decide_eq_true_iff, List.all_append, Bool.and_eq_true] at this
  refine ⟨by simpa using this.2.2, fun h40 => ?_⟩
  have h3 := this.1
  rw [List.length_append, h40] at h3
  simp at h3
theorem step_same {l : List It} (h : TreeOk l) (last : Bool) {here : It} (hh : Here l here) (part : Str) (rest : List Str) (hops : Nat) (hns : 47 ∉ part) : SameStep (stepM l last here part rest hops) (stepR l last here.path part rest hops) := by
  have hv := hh.valid h
  by_cases h1 : part = [] ∨ part = [46]
  · unfold stepM stepR
    rw [if_pos h1, if_pos h1]; exact ⟨rfl, rfl, rfl, fun e => by cases e⟩
  · by_cases h2 : part = [46, 46]
    · unfold stepM stepR
      rw [if_neg h1, if_neg h1, if_pos h2, if_pos h2]
      obtain ⟨y, hy, _, _⟩ := hh.up h
      rw [hy]
      exact ⟨(get_here hy).2.symm, rfl, rfl, fun e => by cases e⟩
    · cases hg : getI l (toL here.path part) with
      | none =>
        have eM : stepM l last here part rest hops = .error 4 := by unfold stepM; rw [if_neg h1, if_neg h2, hg]
        have eR : stepR l last here.path part rest hops = .error 4 := by
          unfold stepR
          rw [if_neg h1, if_neg h2, ← to_join hv, refG_get, hg]
          simp only
          split <;> rfl
        rw [eM, eR]; rfl
      | some x =>
        obtain ⟨n1, n2⟩ := names_to h hv hns (fun e => h1 (.inl e)) hg
        have hx := get_here hg
        have eM : stepM l last here part rest hops = if x.kind = 2 ∧ rest ≠ [] then .error 161 else if x.kind = 3 ∧ (rest ≠ [] ∨ last = true) then (if hops = 40 then .error 170 else .ok (if x.data.head? = some 47 then .root else here, cutP x.data ++ rest, hops + 1)) else .ok (x, rest, hops) := by
          unfold stepM; rw [if_neg h1, if_neg h2, hg]
        have eR : stepR l last here.path part rest hops = if x.kind = 1 then .ok (x.path, rest, hops, false) else if x.kind = 2 ∧ rest ≠ [] then .error 161 else if x.kind = 2 ∨ (rest = [] ∧ last = false) then .ok (x.path, rest, hops, true) else if hops = 40 then .error 170 else .ok (if x.data.head? = some 47 then [47] else here.path, cutP x.data ++ rest, hops + 1, false) := by
          unfold stepR
          rw [if_neg h1, if_neg h2, ← to_join hv, refG_get, hg]
          simp only
          rw [if_neg (by simp [n1, n2]), if_neg (by simp), ← hx.2]
        rcases hx.1.kinds h with k | k | k
        · rw [eM, eR]; simp [k, SameStep]
        · rw [eM, eR]
          by_cases hr : rest = []
          · simp [k, hr, SameStep]
          · simp [k, hr, SameStep]
        · by_cases hr : rest = [] ∧ last = false
          · rw [eM, eR]; simp [k, hr.1, hr.2, SameStep]
          · have hc : rest ≠ [] ∨ last = true := by
              by_cases hr2 : rest = []
              · right
                cases last
                · exact absurd ⟨hr2, rfl⟩ hr
                · rfl
              · exact .inl hr2
            have hr' : ¬ (x.kind = 2 ∨ (rest = [] ∧ last = false)) := by rintro (e | e); rw [k] at e; exact absurd e (by decide); exact hr e
            rw [if_neg (by rw [k]; simp), if_pos ⟨k, hc⟩] at eM
            rw [if_neg (by rw [k]; decide), if_neg (by rw [k]; simp), if_neg hr'] at eR
            rw [eM, eR]
            by_cases h40 : hops = 40
            · rw [if_pos h40, if_pos h40]; rfl
            · rw [if_neg h40, if_neg h40]
              refine ⟨?_, rfl, rfl, fun e => by cases e⟩
              show (if _ then _ else _) = _
              split <;> rfl
def goR (l : List It) (last : Bool) : Nat → Str → List Str → Nat → Except Int (Str × Nat)
  | _, at_, [], hops => .ok (at_, hops)
  | 0, _, _ :: _, _ => .error 0
  | f + 1, at_, part :: rest, hops => match stepR l last at_ part rest hops with
    | .error e => .error e
    | .ok q => if q.2.2.2 = true then .ok (q.1, q.2.2.1) else goR l last f q.1 q.2.1 q.2.2.1
def pathW : Except Int (It × Nat) → Except Int (Str × Nat)
  | .error e => .error e
  | .ok r => .ok (r.1.path, r.2)
theorem step_no {l : List It} {last : Bool} {here : It} {part : Str} {rest : List Str} {hops : Nat} {r : It × List Str × Nat} (h : stepM l last here part rest hops = .ok r) (hr : ∀ q ∈ rest, 47 ∉ q) : ∀ q ∈ r.2.1, 47 ∉ q := by
  unfold stepM at h
  split at h
  · cases h; exact hr
  · split at h
    · cases h; exact hr
    · split at h
      · cases h
      · split at h
        · cases h
        · split at h
          · split at h
            · cases h
            · cases h
              intro q hq
              rcases List.mem_append.1 hq with hq | hq
              · exact cutP_noslash _ q hq
              · exact hr q hq
          · cases h; exact hr
theorem go_same {l : List It} (h : TreeOk l) (last : Bool) : ∀ (f : Nat) (here : It) (rest : List Str) (hops : Nat), Stand l last here rest hops → (∀ q ∈ rest, 47 ∉ q) → goR l last f here.path rest hops = pathW (goM l last f here rest hops)
  | f, here, [], hops, _, _ => by rw [goM_end]; cases f <;> rfl
  | 0, _, _ :: _, _, _, _ => rfl
  | f + 1, here, part :: rest, hops, hs, hq => by
    have hsame := step_same h last hs.here part rest hops (hq part (by simp))
    have hq2 : ∀ q ∈ rest, 47 ∉ q := fun q hm => hq q (by simp [hm])
    unfold goR
    cases e1 : stepM l last here part rest hops with
    | error e =>
      rw [goM_no e1]
      cases e2 : stepR l last here.path part rest hops with
      | error e' => rw [e1, e2] at hsame; cases hsame; rfl
      | ok q => rw [e1, e2] at hsame; cases hsame
    | ok r =>
      rw [goM_go e1]
      cases e2 : stepR l last here.path part rest hops with
      | error e' => rw [e1, e2] at hsame; cases hsame
      | ok q =>
        rw [e1, e2] at hsame
        obtain ⟨h1, h2, h3, h4⟩ := hsame
        have hst := (hs.step h e1).1
        simp only
        by_cases h5 : q.2.2.2 = true
        · rw [if_pos h5, h4 h5, goM_end, h1, h3]; rfl
        · rw [if_neg h5, h1, h2, h3]
          exact go_same h last f r.1 r.2.1 r.2.2 hst (step_no e1 hq2)
end Go.Proofs.YtiakedoebecgpaaDoor

namespace Go.Proofs.YtiakedoebecgpaaDoor

theorem cutP_short : ∀ (s : Str) (q : Str), q ∈ cutP s → q.length ≤ s.length
  | [], q, h => by
    simp [cutP] at h
    subst h; simp
  | c :: s, q, h => by
    unfold cutP at h
    split at h
    · rcases List.mem_cons.1 h with e | e
      · subst e; simp
      · have := cutP_short s q e; simp; omega
    · cases hc : cutP s with
      | nil => exact absurd hc (cutP_ne s)
      | cons y r =>
        rw [hc] at h
        have h' : q ∈ (c :: y) :: r := h
        rcases List.mem_cons.1 h' with e | e
        · have := cutP_short s y (by rw [hc]; simp)
          rw [e]; simp; omega
        · have := cutP_short s q (by rw [hc]; simp [e]); simp; omega
def goesR (l : List It) (last : Bool) (at_ s : Str) : Except Int (Str × Nat) :=
  if validB at_ = false then .error 110 else if (refG l at_).2 = false then .error 4 else if (refG l at_).1.kind ≠ 1 then .error 161
  else goR l last 90000 (if s.head? = some 47 then [47] else at_) (cutP s) 0
theorem goes_lead {l : List It} (h : TreeOk l) (last : Bool) (at_ s : Str) : goesR l last at_ s = pathW (leadM l at_ s last) := by
  unfold goesR leadM
  split
  · rfl
  · rw [refG_get]
    cases hg : getI l at_ with
    | none => rfl
    | some x =>
      simp only
      rw [if_neg (by simp)]
      split
      · rfl
      · rename_i hk
        have hk1 : x.kind = 1 := by simpa using hk
        have hx := get_here hg
        have := go_same h last 90000 (if s.head? = some 47 then .root else x) (cutP s) 0 (begin_stand hg hk1 last s _) (cutP_noslash s)
        rw [← this]
        congr 1
        split
        · rfl
        · exact hx.2.symm
/-- What the loop keeps. -/
structure GoK (l : List It) (last : Bool) (at_ : Str) (rest : List Str) (hops f : Nat) : Prop where
  st : ∃ here, Stand l last here rest hops ∧ here.path = at_
  no : ∀ q ∈ rest, 47 ∉ q
  sh : ∀ q ∈ rest, q.length ≤ 2000000
  f : mM rest hops ≤ f
theorem GoK.valid {l : List It} (h : TreeOk l) {last : Bool} {at_ : Str} {rest : List Str} {hops f : Nat} (k : GoK l last at_ rest hops f) : validB at_ = true := by
  obtain ⟨here, hs, rfl⟩ := k.st
  exact hs.here.valid h
theorem step_short {l : List It} (hd : ∀ x ∈ l, x.data.length ≤ 2000000) {last : Bool} {at_ part : Str} {rest : List Str} {hops : Nat} {q : Str × List Str × Nat × Bool} (h : stepR l last at_ part rest hops = .ok q) (hr : ∀ y ∈ rest, y.length ≤ 2000000) : ∀ y ∈ q.2.1, y.length ≤ 2000000 := by
  have hG : (refG l (joinL (namesL at_ ++ [part]))).1.data.length ≤ 2000000 := by
    unfold refG
    split
    · simp
    · cases hf : l.find? (fun x => x.path == joinL (namesL at_ ++ [part])) with
      | none => simp [It.nil]
      | some x => exact hd x (List.mem_of_find?_eq_some hf)
  unfold stepR at h
  split at h
  · cases h; exact hr
  · split at h
    · cases h; exact hr
    · split at h
      · cases h
      · split at h
        · cases h
        · split at h
          · cases h; exact hr
          · split at h
            · cases h
            · split at h
              · cases h; exact hr
              · split at h
                · cases h
                · cases h
                  intro y hy
                  rcases List.mem_append.1 hy with hy | hy
                  · have := cutP_short _ y hy; omega
                  · exact hr y hy
theorem GoK.next {l : List It} (h : TreeOk l) (hd : ∀ x ∈ l, x.data.length ≤ 2000000) {last : Bool} {at_ part : Str} {rest : List Str} {hops f : Nat} (k : GoK l last at_ (part :: rest) hops (f + 1)) {q : Str × List Str × Nat × Bool} (hq : stepR l last at_ part rest hops = .ok q) :
    GoK l last q.1 q.2.1 q.2.2.1 f ∧ mM q.2.1 q.2.2.1 < mM (part :: rest) hops ∧ (q.2.2.2 = true → q.2.1 = []) ∧ q.2.2.1 ≤ 40 := by
  obtain ⟨here, hs, rfl⟩ := k.st
  have hsame := step_same h last hs.here part rest hops (k.no part (by simp))
  rw [hq] at hsame
  cases e1 : stepM l last here part rest hops with
  | error e => rw [e1] at hsame; cases hsame
  | ok r =>
    rw [e1] at hsame
    obtain ⟨h1, h2, h3, h4⟩ := hsame
    have hst := hs.step h e1
    have hn := step_no e1 (fun q hm => k.no q (by simp [hm]))
    have hf := k.f
    refine ⟨⟨⟨r.1, by rw [h2, h3]; exact hst.1, h1.symm⟩, by rw [h2]; exact hn, step_short hd hq (fun y hy => k.sh y (by simp [hy])), by rw [h2, h3]; omega⟩, by rw [h2, h3]; exact hst.2, fun e => by rw [h2]; exact h4 e, by rw [h3]; exact hst.1.hops⟩
end Go.Proofs.YtiakedoebecgpaaDoor

namespace Go.Proofs.YtiakedoebecgpaaDoor
open Go.RowKit Go.Shelf

theorem add_ofs (g o j : Nat) : (⟨g, o, none⟩ : Addr).add j = ⟨g, o + j, none⟩ := by
  unfold Addr.add
  by_cases hj0 : j = 0
  · simp [hj0]
  · simp [hj0]
theorem wp_append_strs {op : Oper} {a : Act} {w : World} {K : Act → World → Prop} {Q : Exit → Act → World → Prop} {ops : Array Oper} (hw : Region.wanted op (yielded ops a.tmps) = true) (s x : Operand)
    (ho : op.op = .call { callee := .builtin .append, args := #[s, x], argTypes := #[46, 46] }) (base : Nat) (v : Value) (L M : List Str) (hs : a.eval s = v) (hown : w.ownsRow base 9 1 v L.length (L.map encS)) (ad : Addr) (n2 c2 : Nat) (hx : a.eval x = .slice (some ad) n2 c2)
    (hr : RdS w (.slice (some ad) n2 c2) M) (hb : base ≤ w.heap.size) (hl : L.length + M.length ≤ 4000000)
    (h : ∀ v' w', w'.ownsRow base 9 1 v' (L ++ M).length ((L ++ M).map encS) → w.grownBy w' v.ownBlock → K (a.put op.dst v') w') : if Region.wanted op (yielded ops a.tmps) = true then op.wp Tryd.prog a w K Q else K (a.put op.dst undef) w := by
  rw [if_pos hw]
  obtain ⟨i0, hi, hz0, hz1, hz2⟩ := info_parts info9n
  obtain ⟨a', c', e, h1, h2, h3⟩ := hr
  cases e
  obtain ⟨v', w', hr, h2', h3', _⟩ := run_append_own_at (P := Tryd.prog) w base 46 op.type 9 i0 (.string ⟨#[]⟩) 1 16 Tryd.underlying46 hi hz0 hz1 hz2 rfl (by decide) v L.length (L.map encS) hown ad M.length c2 (M.map encS) (by simp) (fun j u hu => by
    have hj := (List.getElem?_eq_some_iff.1 hu).1
    rw [List.length_map] at hj
    obtain ⟨g, o, e, _, hc⟩ := h3 (by omega)
    cases e
    rw [List.getElem?_map] at hu
    obtain ⟨y, hy, rfl⟩ := Option.map_eq_some_iff.1 hu
    rw [add_ofs]
    exact hc j y hy) (by
    intro u hu
    obtain ⟨y, _, rfl⟩ := List.mem_map.1 hu
    rfl) (by unfold maxLen; omega) (by omega) hb
  unfold Oper.wp execOp
  simp only [ho, resolve, invoke, builtin, Sem.run_bind, Sem.run_pure, Result.andThen_ok, List.map_toArray, List.map_cons, List.map_nil, hs, hx, hr]
  refine h v' w' ?_ h3'
  rw [← List.map_append, ← List.length_append] at h2'
  exact h2'
theorem own_row_far {w : World} {B g n : Nat} {v : Value} {xs : List Value} (h : w.ownsRow B 9 1 v n xs) (hg : g < B) (cs : Array Value) : (w.setRow g cs).ownsRow B 9 1 v n xs := by
  obtain ⟨h1, hc⟩ := h
  rcases hc with hc | ⟨k, cap, cur, hv, hb, hk, r⟩
  · exact ⟨h1, .inl hc⟩
  · exact ⟨h1, .inr ⟨k, cap, cur, hv, hb, (setRow_other w g k cs (by omega)).trans hk, r⟩⟩
end Go.Proofs.YtiakedoebecgpaaDoor

namespace Go.Proofs.YtiakedoebecgpaaDoor
open Go.RowKit Go.Shelf

abbrev stpA (at_ : Str) (rv : Value) (hops : Nat) : Array Value := #[.string ⟨at_.toArray⟩, rv, .int .i64 (hops : Int)]
abbrev stpZ : Array Value := #[.string ⟨#[]⟩, .slice none 0 0, .int .i64 0]
theorem zero55s : (Tryd.prog.info? 55).map (·.zero) = some (some (.agg stpZ)) := by kernel_rfl
theorem info55 (cs : Array Value) (h : cs.size = 3) : (Tryd.prog.info? 55).map (·.size) = some cs.size := by rw [h]; kernel_rfl
theorem stp_one (x : Str) (a : Option Addr) (n c : Nat) (i : Int) : (#[.string ⟨x.toArray⟩, .slice a n c, .int .i64 i] : Array Value).all (·.oneCell') = true := by simp [Value.oneCell']
/-- What a step answers: an error, or the way behind it, and whether it has ended. -/
def StepQ (rv : Value) (R : Except Int (Str × List Str × Nat × Bool)) (w : World) (e : Ending) (w' : World) : Prop := Below w.heap.size w w' ∧ match R with
  | .error z => z ≠ 0 ∧ ∃ (y : ByteArray) (a : Option Addr) (n c : Nat) (k : Int), e = .returned (.tuple #[.agg #[.string y, .slice a n c, .int .i64 k], .bool false, .int .i64 z])
  | .ok q => ∃ v, e = .returned (.tuple #[.agg (stpA q.1 v q.2.2.1), .bool q.2.2.2, .int .i64 0]) ∧ RdS w' v q.2.1 ∧ ∀ g, v.ownBlock = some g → rv.ownBlock = some g ∨ w.heap.size ≤ g
theorem results_stp {P : Program} {fn : Func} {p q r : Tmp} {ty : TypeId} (h : fn.results = #[.cell p ty, .tmp q, .tmp r]) (tmps : Array Value) (w : World) (g : Nat) (hp : tmps.getD p undef = .pointer (some ⟨g, 0, none⟩)) (cs : Array Value) (hr : (loadVar ty ⟨g, 0, none⟩).run P w = .ok (.agg cs) w) :
    (results fn tmps).run P w = .ok (.tuple #[.agg cs, tmps.getD q undef, tmps.getD r undef]) w := by
  have e : tmps[p]?.getD undef = .pointer (some ⟨g, 0, none⟩) := by rw [← hp]; simp
  simp [results, h, e, asAddr, hr]
theorem end_stp {fn : Func} {p q r : Tmp} (h : fn.results = #[.cell p 55, .tmp q, .tmp r]) (tmps : Array Value) {w : World} {g : Nat} {cs : Array Value} (X : Box w g 55 cs) (h3 : cs.size = 3) (hp : tmps.getD p undef = .pointer (some ⟨g, 0, none⟩)) {u v : Value} (hu : tmps.getD q undef = u) (hq : tmps.getD r undef = v) :
    (results fn tmps).run Tryd.prog w = .ok (.tuple #[.agg cs, u, v]) w := by
  rw [← hq, ← hu]
  exact results_stp h tmps w g hp cs (run_loadVar_row _ g 55 55 cs (0, 0) _ X Tryd.underlying55 rfl (info55 _ h3))
theorem Box.frz {w : World} {g : Nat} {t : TypeId} {cs : Array Value} (h : Box w g t cs) (k : Nat) : w.frozen? ⟨g, k, none⟩ = false := frozen_of_row w g k cs t h
theorem Box.set3 {w : World} {g : Nat} {x0 x1 x2 : Value} (h : Box w g 55 #[x0, x1, x2]) (y0 y1 y2 : Value) : Box (((w.setCell ⟨g, 0, none⟩ y0).setCell ⟨g, 1, none⟩ y1).setCell ⟨g, 2, none⟩ y2) g 55 #[y0, y1, y2] := ((h.set (k := 0) y0).set (k := 1) y1).set (k := 2) y2
theorem bel3 {w w' : World} {B g : Nat} (h : Below B w w') (hg : B ≤ g) (y0 y1 y2 : Value) : Below B w (((w'.setCell ⟨g, 0, none⟩ y0).setCell ⟨g, 1, none⟩ y1).setCell ⟨g, 2, none⟩ y2) := ((h.setCell hg y0).setCell hg y1).setCell hg y2
theorem NamO.on {B : Nat} {w w' : World} {v : Value} {t : List Str} (h : NamO B w v t) (hb : Below w.heap.size w w') : NamO B w' v t := by
  rcases h with h | ⟨g, c, h1, h2, h3, h4, h5, h6, h7⟩
  · exact .inl h
  · exact .inr ⟨g, c, h1, h2, Nat.lt_of_lt_of_le h3 hb.size, h4, h5, fun j x hx => (hb.cell (p := ⟨g, _, none⟩) h3).trans (h6 j x hx), fun j hj => ⟨by rw [hb.cell (p := ⟨g, _, none⟩) h3]; exact (h7 j hj).1, (World.frozen?_of_block (a := ⟨g, 1 + t.length + j, none⟩) (hb.block g h3)).trans (h7 j hj).2⟩⟩
theorem RdS.tail {w : World} {g o n c : Nat} {p : Str} {r : List Str} (h : RdS w (.slice (some ⟨g, o, none⟩) (n + 1) c) (p :: r)) (hn : n = r.length) : RdS w (.slice (if c = 1 then some ⟨g, o, none⟩ else some ⟨g, o + 1, none⟩) n (c - 1)) r := by
  obtain ⟨a, cap, e, h1, h2, h3⟩ := h
  injection e with e1 e2 e3
  subst e3
  subst hn
  rw [List.length_cons] at h1
  refine ⟨_, c - 1, rfl, by omega, by omega, fun h0 => ?_⟩
  obtain ⟨g', o', e', hg, hc⟩ := h3 (by simp)
  rw [← e1] at e'
  injection e' with e'
  injection e' with ea eb
  subst ea; subst eb
  rw [if_neg (by omega)]
  refine ⟨g, o + 1, rfl, hg, fun j x hx => ?_⟩
  rw [Nat.add_assoc, Nat.add_comm 1 j]
  exact hc (j + 1) x (by rw [List.getElem?_cons_succ]; exact hx)
theorem str_nil (x : Str) (hx : x ≠ []) : ((⟨x.toArray⟩ : ByteArray).toList == []) = false := by rw [Lib.toList_data]; simp [hx]

theorem built55s (x : ByteArray) (a : Option Addr) (n c : Nat) (i : Int) : Tryd.prog.built 55 [(0, .string x), (1, .slice a n c), (2, .int .i64 i)] = some #[.string x, .slice a n c, .int .i64 i] := by kernel_rfl
theorem own_slc {w : World} {B n : Nat} {v : Value} {xs : List Value} (h : w.ownsRow B 9 1 v n xs) : ∃ a c, v = .slice a n c := by
  rcases h.2 with ⟨h1, h0⟩ | ⟨g, cap, cur, h1, _⟩
  · exact ⟨none, 0, by rw [h1, h0]⟩
  · exact ⟨_, _, h1⟩
theorem own_blk {w : World} {B n : Nat} {v : Value} {xs : List Value} (h : w.ownsRow B 9 1 v n xs) : ∀ q, v.ownBlock = some q → B ≤ q := by
  intro q hq
  rcases h.2 with ⟨rfl, _⟩ | ⟨g, cap, cur, rfl, hg, _⟩
  · simp [Value.ownBlock] at hq
  · simp [Value.ownBlock] at hq; omega
theorem wp_store_row_if {P : Program} {op : Oper} {a : Act} {w : World} {K : Act → World → Prop} {Q : Exit → Act → World → Prop} {ops : Array Oper} (hw : Region.wanted op (yielded ops a.tmps) = true) (ty : TypeId) (x y : Operand) (ho : op.op = .store ty x y) (g t : Nat) (old cells : Array Value) (hx : a.eval x = .pointer (some ⟨g, 0, none⟩)) (hy : a.eval y = .agg cells) (hg : Box w g t old) (hi : (P.info? ty).map (·.size) = some cells.size) (hsz : old.size = cells.size) (h1 : cells.all (·.oneCell') = true)
    (h : K (a.put op.dst undef) (w.setRow g cells)) : if Region.wanted op (yielded ops a.tmps) = true then op.wp P a w K Q else K (a.put op.dst undef) w := by
  rw [if_pos hw]
  exact Go.wp_store_row ty x y ho g cells hx hy t old hg hi hsz h1 h

set_option maxRecDepth 100000 in
set_option maxHeartbeats 16000000 in
theorem rstep_any (l : List It) (tv : Value) (at_ part : Str) (rest : List Str) (rv : Value) (hops : Nat) (last : Bool) (w : World) (hv : RdI w tv l) (hl : l.length ≤ 1000000) (hr : RdS w rv (part :: rest)) (hat : validB at_ = true) (hz : at_.length ≤ 2000000) (hp : part.length ≤ 2000000) (hrl : rest.length ≤ 1000000) (hh : hops ≤ 40) (hd : ∀ x ∈ l, x.data.length ≤ 2000000) :
    Calls Tryd.prog 51 #[.agg #[tv], .agg (stpA at_ rv hops), .bool last] w (StepQ rv (stepR l last at_ part rest hops) w) := by
  obtain ⟨R, hR⟩ : ∃ R, R = stepR l last at_ part rest hops := ⟨_, rfl⟩
  rw [← hR]
  have HR := Lib.hid hR
  obtain ⟨n, hn⟩ : ∃ n, n = rest.length := ⟨_, rfl⟩
  have hrr := hr
  obtain ⟨a, c, rfl, hlc, hcm, hc⟩ := hr
  obtain ⟨g, o, rfl, hg, hcells⟩ := hc (by simp)
  rw [List.length_cons, ← hn] at hlc hrr ⊢
  unfold maxLen at hcm
  have hpc := hcells 0 part rfl
  have htl := hrr.tail hn
  obtain ⟨w2, hw2⟩ : ∃ q, q = ((w.alloc (.cells #[tv] 24)).alloc (.cells (stpA at_ (.slice (some ⟨g, o, none⟩) (n + 1) c) hops) 55)).alloc (.cells stpZ 55) := ⟨_, rfl⟩
  have X3 : Hid (Box w2 w.heap.size 24 #[tv]) := Lib.hid (by rw [hw2]; exact (box_new.alloc _).alloc _)
  have X4 : Hid (Box w2 (w.heap.size + 1) 55 (stpA at_ (.slice (some ⟨g, o, none⟩) (n + 1) c) hops)) := Lib.hid (by rw [hw2]; have := (box_new (w := w.alloc (.cells #[tv] 24)) (t := 55) (cs := stpA at_ (.slice (some ⟨g, o, none⟩) (n + 1) c) hops)).alloc (.cells stpZ 55); simpa using this)
  have X6 : Hid (Box w2 (w.heap.size + 1 + 1) 55 stpZ) := Lib.hid (by rw [hw2]; have := box_new (w := (w.alloc (.cells #[tv] 24)).alloc (.cells (stpA at_ (.slice (some ⟨g, o, none⟩) (n + 1) c) hops) 55)) (t := 55) (cs := stpZ); simpa using this)
  have hb2 : Below w.heap.size w w2 := by rw [hw2]; exact (((Below.refl _ _).alloc (Nat.le_refl _) _).alloc (by simp) _).alloc (by simp; omega) _
  have B2 := Lib.hid hb2
  have hp2 : w2.cell? ⟨g, o, none⟩ = some (.string ⟨part.toArray⟩) := (hb2.cell (p := ⟨g, _, none⟩) hg).trans hpc
  have HT := Lib.hid htl
  have HV := Lib.hid hv
  have HN := Lib.hid hn
  have HD := Lib.hid hd
  have HA := Lib.hid hat
  clear hR hrr hcells hpc htl hc hb2 hv hn hd hat
  unfold stpA at hw2
  go_enter Tryd.func51, Tryd.ntmps51
  unfold stpA
  go_upto_region 1 with (with_reducible refine wpList_zero rfl 55 rfl stpZ zero55s ?_)
  rw [← hw2]
  clear hw2
  have d1 : w2.cell? ⟨w.heap.size + 1, 1, none⟩ = some (.slice (some ⟨g, o, none⟩) (n + 1) c) := X4.out.cell (k := 1) rfl
  have f1 := X4.out.frz 1
  go_upto_region 2 with fail
  go_cut [22] (fun _ wx => ∃ (a' : Addr) (c' : Nat), a'.block = g ∧ Hid (RdS w (.slice (some a') n c') rest) ∧ Hid (Box wx w.heap.size 24 #[tv]) ∧ Hid (Box wx (w.heap.size + 1) 55 (stpA at_ (.slice (some a') n c') hops)) ∧ Hid (Box wx (w.heap.size + 1 + 1) 55 stpZ) ∧ Hid (Below w.heap.size w wx))
  case first =>
    have n1 : (1 : Int) ≤ (n : Int) + 1 := by omega
    have n2 : (n : Int) + 1 ≤ (c : Int) := by omega
    have n3 : ((n : Int) + 1 - 1) = (n : Int) := by omega
    by_cases hc1 : c = 1
    · obtain rfl : n = 0 := by omega
      subst hc1
      rw [if_pos rfl] at HT
      go_wp2_with fail
      go_meet
      refine ⟨⟨g, o, none⟩, 0, rfl, HT, Lib.hid (X3.out.far (by simp) _), Lib.hid ?_, Lib.hid (X6.out.far (by simp) _), Lib.hid (B2.out.setCell (by simp) _)⟩
      have := X4.out.set (k := 1) (.slice (some ⟨g, o, none⟩) 0 0)
      exact this
    · rw [if_neg hc1] at HT
      go_wp2_with fail
      go_meet
      refine ⟨⟨g, o + 1, none⟩, c - 1, rfl, HT, Lib.hid (X3.out.far (by simp) _), Lib.hid ?_, Lib.hid (X6.out.far (by simp) _), Lib.hid (B2.out.setCell (by simp) _)⟩
      have := X4.out.set (k := 1) (.slice (some ⟨g, o + 1, none⟩) n (c - 1))
      exact this
  case rest =>
    clear X3 X4 X6 B2 hp2 d1 f1 HT hg
    obtain ⟨a', c', hag, HT, X3, X4, X6, B2⟩ := hcut
    have HBK : Hid (∀ q, (Value.slice (some a') n c').ownBlock = some q → (Value.slice (some ⟨g, o, none⟩) (n + 1) c).ownBlock = some q ∨ w.heap.size ≤ q) := Lib.hid (fun q hq => .inl (by simp only [Value.ownBlock] at hq ⊢; rw [← hag]; exact hq))
    clear hag
    have d0 : wc.cell? ⟨w.heap.size + 1, 0, none⟩ = some (.string ⟨at_.toArray⟩) := X4.out.cell (k := 0) rfl
    have d1 : wc.cell? ⟨w.heap.size + 1, 1, none⟩ = some (.slice (some a') n c') := X4.out.cell (k := 1) rfl
    have d2 : wc.cell? ⟨w.heap.size + 1, 2, none⟩ = some (.int .i64 (hops : Int)) := X4.out.cell (k := 2) rfl
    have e0 : wc.cell? ⟨w.heap.size + 1 + 1, 0, none⟩ = some (.string ⟨#[]⟩) := X6.out.cell (k := 0) rfl
    have h0 := X6.out.frz 0
    have e1 : wc.cell? ⟨w.heap.size + 1 + 1, 1, none⟩ = some (.slice none 0 0) := X6.out.cell (k := 1) rfl
    have h1 := X6.out.frz 1
    have e2 : wc.cell? ⟨w.heap.size + 1 + 1, 2, none⟩ = some (.int .i64 0) := X6.out.cell (k := 2) rfl
    have h2 := X6.out.frz 2
    by_cases hA : part = [] ∨ part = [46]
    · have HO : Hid (R = .ok (at_, rest, hops, false)) := Lib.hid (by rw [HR.out]; unfold stepR; rw [if_pos hA])
      rcases hA with rfl | rfl
      · go_wp2_with fail
        exact bodyPost_ret (end_stp rfl _ (X6.out.set3 _ _ _) rfl rfl rfl rfl) rfl ⟨bel3 B2.out (by omega) _ _ _, by rw [HO.out]; exact ⟨_, rfl, HT.out.below (bel3 B2.out (by omega) _ _ _), HBK.out⟩⟩
      · go_wp2_with fail
        exact bodyPost_ret (end_stp rfl _ (X6.out.set3 _ _ _) rfl rfl rfl rfl) rfl ⟨bel3 B2.out (by omega) _ _ _, by rw [HO.out]; exact ⟨_, rfl, HT.out.below (bel3 B2.out (by omega) _ _ _), HBK.out⟩⟩
    · have hA1 : part ≠ [] := fun e => hA (.inl e)
      have hA2 : part ≠ [46] := fun e => hA (.inr e)
      have t1 : (part == []) = false := by simp [hA1]
      have t2 : (part == [46]) = false := by simp [hA2]
      by_cases hB : part = [46, 46]
      · have HO : Hid (R = .ok (upL at_, rest, hops, false)) := Lib.hid (by rw [HR.out]; unfold stepR; rw [if_neg hA, if_pos hB])
        have t3 : (part == [46, 46]) = true := by simp [hB]
        go_wp2_with fail
        refine (rup_any ⟨at_.toArray⟩ hz _).mono ?_
        rintro e w3 ⟨rfl, hb3⟩
        have Z4 : Hid (Box w3 (w.heap.size + 1) 55 (stpA at_ (.slice (some a') n c') hops)) := Lib.hid (X4.out.on hb3)
        have Z6 : Hid (Box w3 (w.heap.size + 1 + 1) 55 stpZ) := Lib.hid (X6.out.on hb3)
        have ZB : Hid (Below w.heap.size w w3) := Lib.hid (bch B2.out hb3)
        have m0 := Z4.out.frz 0
        clear d0 d1 d2 e0 e1 e2 h0 h1 h2 X3 X4 X6 B2 hb3
        have d0 : w3.cell? ⟨w.heap.size + 1, 0, none⟩ = some (.string ⟨at_.toArray⟩) := Z4.out.cell (k := 0) rfl
        have d1 : w3.cell? ⟨w.heap.size + 1, 1, none⟩ = some (.slice (some a') n c') := Z4.out.cell (k := 1) rfl
        have d2 : w3.cell? ⟨w.heap.size + 1, 2, none⟩ = some (.int .i64 (hops : Int)) := Z4.out.cell (k := 2) rfl
        have e0 : w3.cell? ⟨w.heap.size + 1 + 1, 0, none⟩ = some (.string ⟨#[]⟩) := Z6.out.cell (k := 0) rfl
        have h0 := Z6.out.frz 0
        have e1 : w3.cell? ⟨w.heap.size + 1 + 1, 1, none⟩ = some (.slice none 0 0) := Z6.out.cell (k := 1) rfl
        have h1 := Z6.out.frz 1
        have e2 : w3.cell? ⟨w.heap.size + 1 + 1, 2, none⟩ = some (.int .i64 0) := Z6.out.cell (k := 2) rfl
        have h2 := Z6.out.frz 2
        go_wp2_with fail
        have ZZ : Hid (Box (w3.setCell ⟨w.heap.size + 1, 0, none⟩ (.string ⟨(upL at_).toArray⟩)) (w.heap.size + 1 + 1) 55 stpZ) := Lib.hid (Z6.out.far (by simp) _)
        have ZY : Hid (Below w.heap.size w (w3.setCell ⟨w.heap.size + 1, 0, none⟩ (.string ⟨(upL at_).toArray⟩))) := Lib.hid (ZB.out.setCell (by simp) _)
        exact bodyPost_ret (end_stp rfl _ (ZZ.out.set3 _ _ _) rfl rfl rfl rfl) rfl ⟨bel3 ZY.out (by omega) _ _ _, by rw [HO.out]; exact ⟨_, rfl, HT.out.below (bel3 ZY.out (by omega) _ _ _), HBK.out⟩⟩
      · have t3 : (part == [46, 46]) = false := by simp [hB]
        go_wp2_with fail
        refine (rnames_own ⟨at_.toArray⟩ hz HA.out _).mono ?_
        rintro e w3 ⟨nv, rfl, hrn, hb3, hno⟩
        obtain ⟨t, ht⟩ : ∃ t, t = namesL at_ := ⟨_, rfl⟩
        rw [show namesL (⟨at_.toArray⟩ : ByteArray).data.toList = t from ht.symm] at hrn hno
        have ht40 : t.length ≤ 40 := by rw [ht]; have := (valid_join at_ HA.out).2; unfold partsB at this; rw [Bool.and_eq_true, decide_eq_true_iff] at this; exact this.1
        obtain ⟨an, cn, rfl, _, _⟩ := hrn.slice
        have HRN := Lib.hid hrn
        have HNO := Lib.hid hno
        have HTN := Lib.hid ht
        have Z3 : Hid (Box w3 w.heap.size 24 #[tv]) := Lib.hid (X3.out.on hb3)
        have Z4 : Hid (Box w3 (w.heap.size + 1) 55 (stpA at_ (.slice (some a') n c') hops)) := Lib.hid (X4.out.on hb3)
        have Z6 : Hid (Box w3 (w.heap.size + 1 + 1) 55 stpZ) := Lib.hid (X6.out.on hb3)
        have ZB : Hid (Below w.heap.size w w3) := Lib.hid (bch B2.out hb3)
        have ZW : Hid (wc.heap.size ≤ w3.heap.size) := Lib.hid hb3.size
        have hwl := X6.out.lt
        clear d0 d1 d2 e0 e1 e2 h0 h1 h2 X3 X4 X6 hrn hno ht hb3
        have d0 : w3.cell? ⟨w.heap.size + 1, 0, none⟩ = some (.string ⟨at_.toArray⟩) := Z4.out.cell (k := 0) rfl
        have d1 : w3.cell? ⟨w.heap.size + 1, 1, none⟩ = some (.slice (some a') n c') := Z4.out.cell (k := 1) rfl
        have d2 : w3.cell? ⟨w.heap.size + 1, 2, none⟩ = some (.int .i64 (hops : Int)) := Z4.out.cell (k := 2) rfl
        have e0 : w3.cell? ⟨w.heap.size + 1 + 1, 0, none⟩ = some (.string ⟨#[]⟩) := Z6.out.cell (k := 0) rfl
        have h0 := Z6.out.frz 0
        have e1 : w3.cell? ⟨w.heap.size + 1 + 1, 1, none⟩ = some (.slice none 0 0) := Z6.out.cell (k := 1) rfl
        have h1 := Z6.out.frz 1
        have e2 : w3.cell? ⟨w.heap.size + 1 + 1, 2, none⟩ = some (.int .i64 0) := Z6.out.cell (k := 2) rfl
        have h2 := Z6.out.frz 2
        by_cases hC : nameB part = false ∨ t.length = 40
        · have HO : Hid (R = .error 4) := Lib.hid (by rw [HR.out]; unfold stepR; rw [if_neg hA, if_neg hB, if_pos (by rw [← HTN.out]; exact hC)])
          by_cases hnm : nameB part = false
          · go_wp2_with (go_at_call 81; refine (rname_any ⟨part.toArray⟩ (show part.length ≤ _ by omega) _).mono ?_; rintro e w' ⟨rfl, rfl⟩; rw [show nameB (⟨part.toArray⟩ : ByteArray).data.toList = false from hnm])
            exact bodyPost_ret (end_stp rfl _ (Z6.out.set3 _ _ _) rfl rfl rfl rfl) rfl ⟨bel3 ZB.out (by omega) _ _ _, by rw [HO.out]; exact ⟨by decide, _, _, _, _, _, rfl⟩⟩
          · have l40 : t.length = 40 := hC.resolve_left hnm
            have l41 : ((t.length : Int) == 40) = true := by rw [l40]; rfl
            go_wp2_with (go_at_call 81; refine (rname_any ⟨part.toArray⟩ (show part.length ≤ _ by omega) _).mono ?_; rintro e w' ⟨rfl, rfl⟩; rw [show nameB (⟨part.toArray⟩ : ByteArray).data.toList = true from (by simpa using hnm)])
            exact bodyPost_ret (end_stp rfl _ (Z6.out.set3 _ _ _) rfl rfl rfl rfl) rfl ⟨bel3 ZB.out (by omega) _ _ _, by rw [HO.out]; exact ⟨by decide, _, _, _, _, _, rfl⟩⟩
        · have hnm : nameB part = true := (by have h : ¬ nameB part = false := fun e => hC (.inl e); simpa using h)
          have l40 : ((t.length : Int) == 40) = false := by rw [beq_eq_false_iff_ne]; intro e; exact hC (.inr (by omega))
          have l42 : t.length < 40 := by have : t.length ≠ 40 := fun e => hC (.inr e); omega
          obtain ⟨J, hJ⟩ : ∃ J, J = joinL (t ++ [part]) := ⟨_, rfl⟩
          have HJ := Lib.hid hJ
          have hpb : partsB (t ++ [part]) = true := by
            have h1 := (parts_iff t).1 (by rw [HTN.out]; exact (valid_join at_ HA.out).2)
            exact (parts_iff _).2 ⟨by rw [List.length_append]; simp; omega, fun x hx => by
              rcases List.mem_append.1 hx with hx | hx
              · exact h1.2 x hx
              · rw [List.mem_singleton] at hx; rw [hx]; exact hnm⟩
          have HF := Lib.hid (joinL_len _ hpb)
          have HNA : Hid (NamO wc.heap.size (w3.alloc (.cells #[.string ⟨part.toArray⟩] 9)) (.slice an t.length cn) t) := Lib.hid (HNO.out.on ((Below.refl _ _).alloc (Nat.le_refl _) _))
          clear hJ hpb
          have hcp : (w3.alloc (.cells #[.string ⟨part.toArray⟩] 9)).cell? ⟨w3.heap.size, 0, none⟩ = some (encS part) := (box_new (w := w3) (t := 9) (cs := #[.string ⟨part.toArray⟩])).cell (k := 0) rfl
          have hle : wc.heap.size ≤ (w3.alloc (.cells #[.string ⟨part.toArray⟩] 9)).heap.size := Nat.le_trans ZW.out (by simp)
          have HCP := Lib.hid hcp
          obtain ⟨G, hG⟩ : ∃ G, G = refG l J := ⟨_, rfl⟩
          obtain ⟨gx, gb⟩ := G
          have HG := Lib.hid hG
          clear hG
          clear hcp
          go_upto_region 13 with (first
            | (go_at_call 81; refine (rname_any ⟨part.toArray⟩ (show part.length ≤ _ by omega) _).mono ?_; rintro e w' ⟨rfl, rfl⟩; rw [show nameB (⟨part.toArray⟩ : ByteArray).data.toList = true from hnm])
            | (at_builtin; refine wpList_append_name rfl (.tmp 54) (.tmp 56) rfl wc.heap.size _ t part rfl HNA.out ht40 w3.heap.size rfl HCP.out hle ?_; intro v5 w5 hr5 hb5; have HB5 : Hid (Below wc.heap.size w3 w5) := Lib.hid (((Below.refl _ _).alloc ZW.out _).trans hb5); obtain ⟨a5, c5, rfl, _, _⟩ := hr5.slice; have h9 := hr5; rw [List.length_append] at h9; have HR5 : Hid (RdS w5 (.slice a5 (t.length + 1) c5) (t ++ [part])) := Lib.hid h9; clear hr5 hb5 h9; have Y3 : Hid (Box w5 w.heap.size 24 #[tv]) := Lib.hid (Z3.out.below HB5.out (by omega)); have Y4 : Hid (Box w5 (w.heap.size + 1) 55 (stpA at_ (.slice (some a') n c') hops)) := Lib.hid (Z4.out.below HB5.out (by omega)); have Y6 : Hid (Box w5 (w.heap.size + 1 + 1) 55 stpZ) := Lib.hid (Z6.out.below HB5.out (by omega)); have YB : Hid (Below w.heap.size w w5) := Lib.hid (ZB.out.trans (HB5.out.mono (by omega))); have k0 : w5.cell? ⟨w.heap.size, 0, none⟩ = some tv := Y3.out.cell (k := 0) rfl)
            | (go_at_call 80; refine (rjoin_any (.slice a5 (t.length + 1) c5) (t ++ [part]) _ HR5.out (by rw [List.length_append]; simp; omega) HF.out).mono ?_; rintro e w' ⟨rfl, rfl⟩; rw [← HJ.out])
            | (go_at_call 47; refine (rget_any l _ ⟨J.toArray⟩ _ (HV.out.on YB.out) hl).mono ?_; rw [show refG l (⟨J.toArray⟩ : ByteArray).data.toList = (gx, gb) from HG.out.symm]; rintro e w6 ⟨rfl, hb6⟩; clear d0 d1 d2 e0 e1 e2 h0 h1 h2 k0; have U4 : Hid (Box w6 (w.heap.size + 1) 55 (stpA at_ (.slice (some a') n c') hops)) := Lib.hid (Y4.out.on hb6); have U6 : Hid (Box w6 (w.heap.size + 1 + 1) 55 stpZ) := Lib.hid (Y6.out.on hb6); have UB : Hid (Below w.heap.size w w6) := Lib.hid (bch YB.out hb6); have h13 : w.heap.size + 1 + 1 < w6.heap.size := U6.out.lt; have V4 : Hid (Box ((w6.alloc (.cells #[.string ⟨#[]⟩, .int .i64 0, .string ⟨#[]⟩] 35)).setRow w6.heap.size gx.arr) (w.heap.size + 1) 55 (stpA at_ (.slice (some a') n c') hops)) := Lib.hid ((U4.out.alloc _).far_row (by omega) _); have V6 : Hid (Box ((w6.alloc (.cells #[.string ⟨#[]⟩, .int .i64 0, .string ⟨#[]⟩] 35)).setRow w6.heap.size gx.arr) (w.heap.size + 1 + 1) 55 stpZ) := Lib.hid ((U6.out.alloc _).far_row (by omega) _); have V13 : Hid (Box ((w6.alloc (.cells #[.string ⟨#[]⟩, .int .i64 0, .string ⟨#[]⟩] 35)).setRow w6.heap.size gx.arr) w6.heap.size 35 gx.arr) := Lib.hid (box_new.row _); have VB : Hid (Below w.heap.size w ((w6.alloc (.cells #[.string ⟨#[]⟩, .int .i64 0, .string ⟨#[]⟩] 35)).setRow w6.heap.size gx.arr)) := Lib.hid (below_row (UB.out.alloc UB.out.size _) (by omega) _); have d0 : ((w6.alloc (.cells #[.string ⟨#[]⟩, .int .i64 0, .string ⟨#[]⟩] 35)).setRow w6.heap.size gx.arr).cell? ⟨w.heap.size + 1, 0, none⟩ = some (.string ⟨at_.toArray⟩) := V4.out.cell (k := 0) rfl; have d1 : ((w6.alloc (.cells #[.string ⟨#[]⟩, .int .i64 0, .string ⟨#[]⟩] 35)).setRow w6.heap.size gx.arr).cell? ⟨w.heap.size + 1, 1, none⟩ = some (.slice (some a') n c') := V4.out.cell (k := 1) rfl; have d2 : ((w6.alloc (.cells #[.string ⟨#[]⟩, .int .i64 0, .string ⟨#[]⟩] 35)).setRow w6.heap.size gx.arr).cell? ⟨w.heap.size + 1, 2, none⟩ = some (.int .i64 (hops : Int)) := V4.out.cell (k := 2) rfl; have e0 : ((w6.alloc (.cells #[.string ⟨#[]⟩, .int .i64 0, .string ⟨#[]⟩] 35)).setRow w6.heap.size gx.arr).cell? ⟨w.heap.size + 1 + 1, 0, none⟩ = some (.string ⟨#[]⟩) := V6.out.cell (k := 0) rfl; have h0 := V6.out.frz 0; have e1 : ((w6.alloc (.cells #[.string ⟨#[]⟩, .int .i64 0, .string ⟨#[]⟩] 35)).setRow w6.heap.size gx.arr).cell? ⟨w.heap.size + 1 + 1, 1, none⟩ = some (.slice none 0 0) := V6.out.cell (k := 1) rfl; have h1 := V6.out.frz 1; have e2 : ((w6.alloc (.cells #[.string ⟨#[]⟩, .int .i64 0, .string ⟨#[]⟩] 35)).setRow w6.heap.size gx.arr).cell? ⟨w.heap.size + 1 + 1, 2, none⟩ = some (.int .i64 0) := V6.out.cell (k := 2) rfl; have h2 := V6.out.frz 2; clear hb6)
            | (with_reducible refine wpList_zero rfl 35 rfl It.nil.arr zero35 ?_)
            | (refine wpList_store_row rfl 35 (.tmp 13) (.tmp 63) rfl w6.heap.size gx.arr rfl rfl 35 It.nil.arr box_new (info35 _) rfl (iarr_one _) ?_))
          obtain ⟨w7, hw7⟩ : ∃ q, q = ((w6.alloc (.cells #[.string ⟨#[]⟩, .int .i64 0, .string ⟨#[]⟩] 35)).setRow w6.heap.size gx.arr) := ⟨_, rfl⟩
          obtain ⟨b13, hb13⟩ : ∃ q, q = w6.heap.size := ⟨_, rfl⟩
          have L13 : Hid (w.heap.size + 1 + 1 < b13) := Lib.hid (by rw [hb13]; exact h13)
          rw [← hw7, ← hb13] at V13
          rw [← hw7] at V4 V6 VB
          rw [← hw7, ← hb13]
          clear d0 d1 d2 e0 e1 e2 h0 h1 h2 hw7 hb13 h13 U4 U6 UB Z3 Z4 Z6 ZB ZW HNA HNO HRN HCP hle hwl
          have hrn : rest = [] ↔ n = 0 := by rw [HN.out]; exact List.length_eq_zero_iff.symm
          have HRN2 := Lib.hid hrn
          have HNC : Hid (¬ (nameB part = false ∨ (namesL at_).length = 40)) := Lib.hid (by rw [← HTN.out]; exact hC)
          have HRJ : Hid (R = if (refG l J).2 = false then .error 4 else if (refG l J).1.kind = 1 then .ok (J, rest, hops, false) else if (refG l J).1.kind = 2 ∧ rest ≠ [] then .error 161 else if (refG l J).1.kind = 2 ∨ (rest = [] ∧ last = false) then .ok (J, rest, hops, true) else if hops = 40 then .error 170 else .ok (if (refG l J).1.data.head? = some 47 then [47] else at_, cutP (refG l J).1.data ++ rest, hops + 1, false)) := Lib.hid (by
            rw [HR.out]; unfold stepR; rw [if_neg hA, if_neg hB, if_neg HNC.out, ← HTN.out, ← HJ.out])
          have hG1 : (refG l J).1 = gx := by rw [← HG.out]
          have hG2 : (refG l J).2 = gb := by rw [← HG.out]
          rw [hG1, hG2] at HRJ
          clear hrn hA hA1 hA2 hB hC hnm l40 l42 HNC HR hG1 hG2
          have d0 : w7.cell? ⟨w.heap.size + 1, 0, none⟩ = some (.string ⟨at_.toArray⟩) := V4.out.cell (k := 0) rfl
          have d1 : w7.cell? ⟨w.heap.size + 1, 1, none⟩ = some (.slice (some a') n c') := V4.out.cell (k := 1) rfl
          have d2 : w7.cell? ⟨w.heap.size + 1, 2, none⟩ = some (.int .i64 (hops : Int)) := V4.out.cell (k := 2) rfl
          have e0 : w7.cell? ⟨w.heap.size + 1 + 1, 0, none⟩ = some (.string ⟨#[]⟩) := V6.out.cell (k := 0) rfl
          have h0 := V6.out.frz 0
          have e1 : w7.cell? ⟨w.heap.size + 1 + 1, 1, none⟩ = some (.slice none 0 0) := V6.out.cell (k := 1) rfl
          have h1 := V6.out.frz 1
          have e2 : w7.cell? ⟨w.heap.size + 1 + 1, 2, none⟩ = some (.int .i64 0) := V6.out.cell (k := 2) rfl
          have h2 := V6.out.frz 2
          have y1 : w7.cell? ⟨b13, 1, none⟩ = some (.int .i64 gx.kind) := V13.out.cell (k := 1) rfl
          have m0 := V4.out.frz 0
          cases gb with
          | false =>
            have HO : Hid (R = .error 4) := Lib.hid (by rw [HRJ.out, if_pos rfl])
            go_wp2_with fail
            exact bodyPost_ret (end_stp rfl _ (V6.out.set3 _ _ _) rfl rfl rfl rfl) rfl ⟨bel3 VB.out (by omega) _ _ _, by rw [HO.out]; exact ⟨by decide, _, _, _, _, _, rfl⟩⟩
          | true =>
            have HRK := Lib.hid (by have := HRJ.out; rw [if_neg (by decide)] at this; exact this)
            clear HRJ
            have ZZ : Hid (Box (w7.setCell ⟨w.heap.size + 1, 0, none⟩ (.string ⟨J.toArray⟩)) (w.heap.size + 1 + 1) 55 stpZ) := Lib.hid (V6.out.far (by simp) _)
            have ZY : Hid (Below w.heap.size w (w7.setCell ⟨w.heap.size + 1, 0, none⟩ (.string ⟨J.toArray⟩))) := Lib.hid (VB.out.setCell (by simp) _)
            by_cases hk1 : gx.kind = 1
            · have HO : Hid (R = .ok (J, rest, hops, false)) := Lib.hid (by rw [HRK.out, if_pos hk1])
              have q1 : (gx.kind == 1) = true := by simp [hk1]
              clear hk1
              go_wp2_with fail
              exact bodyPost_ret (end_stp rfl _ (ZZ.out.set3 _ _ _) rfl rfl rfl rfl) rfl ⟨bel3 ZY.out (by omega) _ _ _, by rw [HO.out]; exact ⟨_, rfl, HT.out.below (bel3 ZY.out (by omega) _ _ _), HBK.out⟩⟩
            · have q1 : (gx.kind == 1) = false := by simp [hk1]
              by_cases hk2 : gx.kind = 2
              · have q2 : (gx.kind == 2) = true := by simp [hk2]
                by_cases hn0 : n = 0
                · have HO : Hid (R = .ok (J, rest, hops, true)) := Lib.hid (by rw [HRK.out, if_neg hk1, if_neg (by rintro ⟨_, h⟩; exact h (HRN2.out.2 hn0)), if_pos (.inl hk2)])
                  have n4 : decide ((n : Int) > 0) = false := decide_eq_false (by omega)
                  have n5 : ¬ (0 : Int) < (n : Int) := by omega
                  clear hk1 hk2 hn0
                  go_wp2_with fail
                  exact bodyPost_ret (end_stp rfl _ (ZZ.out.set3 _ _ _) rfl rfl rfl rfl) rfl ⟨bel3 ZY.out (by omega) _ _ _, by rw [HO.out]; exact ⟨_, rfl, HT.out.below (bel3 ZY.out (by omega) _ _ _), HBK.out⟩⟩
                · have HO : Hid (R = .error 161) := Lib.hid (by rw [HRK.out, if_neg hk1, if_pos ⟨hk2, fun h => hn0 (HRN2.out.1 h)⟩])
                  have n4 : decide ((n : Int) > 0) = true := decide_eq_true (by omega)
                  have n5 : (0 : Int) < (n : Int) := by omega
                  clear hk1 hk2 hn0
                  go_wp2_with fail
                  exact bodyPost_ret (end_stp rfl _ (V6.out.set3 _ _ _) rfl rfl rfl rfl) rfl ⟨bel3 VB.out (by omega) _ _ _, by rw [HO.out]; exact ⟨by decide, _, _, _, _, _, rfl⟩⟩
              · have q2 : (gx.kind == 2) = false := by simp [hk2]
                by_cases hel : rest = [] ∧ last = false
                · obtain ⟨hr0, rfl⟩ := hel
                  have hn0 := HRN2.out.1 hr0
                  have HO : Hid (R = .ok (J, rest, hops, true)) := Lib.hid (by rw [HRK.out, if_neg hk1, if_neg (fun h => hk2 h.1), if_pos (.inr ⟨hr0, rfl⟩)])
                  have n4 : ((n : Int) == 0) = true := by simp [hn0]
                  clear hk1 hk2 hr0 hn0
                  go_wp2_with fail
                  exact bodyPost_ret (end_stp rfl _ (ZZ.out.set3 _ _ _) rfl rfl rfl rfl) rfl ⟨bel3 ZY.out (by omega) _ _ _, by rw [HO.out]; exact ⟨_, rfl, HT.out.below (bel3 ZY.out (by omega) _ _ _), HBK.out⟩⟩
                · have HRM := Lib.hid (by have := HRK.out; rw [if_neg hk1, if_neg (fun h => hk2 h.1), if_neg (by rintro (h | h); exact hk2 h; exact hel h)] at this; exact this)
                  clear HRK
                  by_cases h40 : hops = 40
                  · have HO : Hid (R = .error 170) := Lib.hid (by rw [HRM.out, if_pos h40])
                    have l41 : ((hops : Int) == 40) = true := by rw [h40]; rfl
                    by_cases hn0 : n = 0
                    · have n4 : ((n : Int) == 0) = true := by simp [hn0]
                      have hlt : last = true := by
                        cases last
                        · exact absurd ⟨HRN2.out.2 hn0, rfl⟩ hel
                        · rfl
                      subst hlt
                      clear hk1 hk2 hel h40 hn0
                      go_wp2_with fail
                      exact bodyPost_ret (end_stp rfl _ (V6.out.set3 _ _ _) rfl rfl rfl rfl) rfl ⟨bel3 VB.out (by omega) _ _ _, by rw [HO.out]; exact ⟨by decide, _, _, _, _, _, rfl⟩⟩
                    · have n4 : ((n : Int) == 0) = false := by rw [beq_eq_false_iff_ne]; omega
                      clear hk1 hk2 hel h40 hn0
                      go_wp2_with fail
                      exact bodyPost_ret (end_stp rfl _ (V6.out.set3 _ _ _) rfl rfl rfl rfl) rfl ⟨bel3 VB.out (by omega) _ _ _, by rw [HO.out]; exact ⟨by decide, _, _, _, _, _, rfl⟩⟩
                  · have HO := Lib.hid (by have := HRM.out; rw [if_neg h40] at this; exact this)
                    have l41 : ((hops : Int) == 40) = false := by rw [beq_eq_false_iff_ne]; omega
                    clear HRM
                    have y2 : w7.cell? ⟨b13, 2, none⟩ = some (.string ⟨gx.data.toArray⟩) := V13.out.cell (k := 2) rfl
                    have HXD : Hid (gx.data.length ≤ 2000000) := Lib.hid (by
                      have h9 := HG.out
                      unfold refG at h9
                      split at h9
                      · cases h9; simp
                      · cases hf : l.find? (fun x => x.path == J) with
                        | none => rw [hf] at h9; cases h9
                        | some x => rw [hf] at h9; cases h9; exact HD.out gx (List.mem_of_find?_eq_some hf))
                    obtain ⟨BG, hBG⟩ : ∃ BG : Str, BG = (if gx.data.head? = some 47 then [47] else at_) := ⟨_, rfl⟩
                    rw [← hBG] at HO
                    have HBG : Hid (∀ W : World, Calls Tryd.prog 49 #[.string ⟨at_.toArray⟩, .string ⟨gx.data.toArray⟩] W fun e w' => e = .returned (.string ⟨BG.toArray⟩) ∧ W = w') := Lib.hid (fun W => begins_at ⟨at_.toArray⟩ ⟨gx.data.toArray⟩ ⟨BG.toArray⟩ (by
                      rw [hBG]
                      show (if gx.data.head? = some 47 then (⟨#[47]⟩ : ByteArray) else ⟨at_.toArray⟩) = _
                      split <;> rfl) W)
                    clear hBG
                    by_cases hn0 : n = 0
                    · have n4 : ((n : Int) == 0) = true := by simp [hn0]
                      have hlt : last = true := by
                        cases last
                        · exact absurd ⟨HRN2.out.2 hn0, rfl⟩ hel
                        · rfl
                      subst hlt
                      clear hk1 hk2 hel hn0
                      go_upto_region 25 with fail
                      have kh : IntKind.i64.wrap ((hops : Int) + 1) = (hops : Int) + 1 := IntWalk.i64_in _ (by omega)
                      have hbl := built55s
                      have hS : Box w7.drew (w.heap.size + 1) 55 (stpA at_ (.slice (some a') n c') hops) ∧ Box w7.drew b13 35 gx.arr := ⟨V4.out, V13.out⟩
                      refine wp_region_held_drew (S := fun W => Box W (w.heap.size + 1) 55 (stpA at_ (.slice (some a') n c') hops) ∧ Box W b13 35 gx.arr) (by kernel_rfl) hS (fun hHeld => ?_)
                      clear hS d0 d1 d2 e0 e1 e2 h0 h1 h2 y1 y2 m0
                      refine wpAnyH_take (i := 0) (oi := { dst := some 109, op := Op.fieldAddr 55 (Operand.tmp 4) 0, type := 0, pos := "ref.go:48", after := #[], guard := none }) (v := ?_) rfl (by kernel_rfl) (by kernel_rfl) (by kernel_rfl) (fun _ _ _ h => h) (Or.inl ⟨by rfl, ?_⟩) hHeld ?_
                      rotate_left
                      · (intro w hSw; go_simp; try with_reducible rfl)
                      (try simp only [Act.put, List.setIfInBounds_toArray, List.set_cons_zero, List.set_cons_succ])
                      refine wpAnyH_take (i := 1) (oi := { dst := some 110, op := Op.load 9 (Operand.tmp 109), type := 9, pos := "ref.go:48", after := #[{ on := 0, ground := Ground.data }], guard := none }) (v := ?_) rfl (by kernel_rfl) (by kernel_rfl) (by kernel_rfl) (fun _ _ _ h => h) (Or.inl ⟨by rfl, ?_⟩) hHeld ?_
                      rotate_left
                      · (intro w hSw; have p0 := hSw.1.cell (k := 0) rfl; go_simp; try with_reducible rfl)
                      (try simp only [Act.put, List.setIfInBounds_toArray, List.set_cons_zero, List.set_cons_succ])
                      refine wpAnyH_take (i := 2) (oi := { dst := some 111, op := Op.fieldAddr 35 (Operand.tmp 13) 2, type := 0, pos := "ref.go:48", after := #[], guard := none }) (v := ?_) rfl (by kernel_rfl) (by kernel_rfl) (by kernel_rfl) (fun _ _ _ h => h) (Or.inl ⟨by rfl, ?_⟩) hHeld ?_
                      rotate_left
                      · (intro w hSw; go_simp; try with_reducible rfl)
                      (try simp only [Act.put, List.setIfInBounds_toArray, List.set_cons_zero, List.set_cons_succ])
                      refine wpAnyH_take (i := 3) (oi := { dst := some 112, op := Op.load 9 (Operand.tmp 111), type := 9, pos := "ref.go:48", after := #[{ on := 2, ground := Ground.data }], guard := none }) (v := ?_) rfl (by kernel_rfl) (by kernel_rfl) (by kernel_rfl) (fun _ _ _ h => h) (Or.inl ⟨by rfl, ?_⟩) hHeld ?_
                      rotate_left
                      · (intro w hSw; have p0 := hSw.2.cell (k := 2) rfl; go_simp; try with_reducible rfl)
                      (try simp only [Act.put, List.setIfInBounds_toArray, List.set_cons_zero, List.set_cons_succ])
                      refine wpAnyH_take (i := 5) (oi := { dst := some 114, op := Op.fieldAddr 35 (Operand.tmp 13) 2, type := 0, pos := "ref.go:48", after := #[], guard := none }) (v := ?_) rfl (by kernel_rfl) (by kernel_rfl) (by kernel_rfl) (fun _ _ _ h => h) (Or.inl ⟨by rfl, ?_⟩) hHeld ?_
                      rotate_left
                      · (intro w hSw; go_simp; try with_reducible rfl)
                      (try simp only [Act.put, List.setIfInBounds_toArray, List.set_cons_zero, List.set_cons_succ])
                      refine wpAnyH_take (i := 6) (oi := { dst := some 115, op := Op.load 9 (Operand.tmp 114), type := 9, pos := "ref.go:48", after := #[{ on := 5, ground := Ground.data }], guard := none }) (v := ?_) rfl (by kernel_rfl) (by kernel_rfl) (by kernel_rfl) (fun _ _ _ h => h) (Or.inl ⟨by rfl, ?_⟩) hHeld ?_
                      rotate_left
                      · (intro w hSw; have p0 := hSw.2.cell (k := 2) rfl; go_simp; try with_reducible rfl)
                      (try simp only [Act.put, List.setIfInBounds_toArray, List.set_cons_zero, List.set_cons_succ])
                      refine wpAnyH_take (i := 8) (oi := { dst := some 117, op := Op.fieldAddr 55 (Operand.tmp 4) 1, type := 0, pos := "ref.go:48", after := #[], guard := none }) (v := ?_) rfl (by kernel_rfl) (by kernel_rfl) (by kernel_rfl) (fun _ _ _ h => h) (Or.inl ⟨by rfl, ?_⟩) hHeld ?_
                      rotate_left
                      · (intro w hSw; go_simp; try with_reducible rfl)
                      (try simp only [Act.put, List.setIfInBounds_toArray, List.set_cons_zero, List.set_cons_succ])
                      refine wpAnyH_take (i := 9) (oi := { dst := some 118, op := Op.load 46 (Operand.tmp 117), type := 46, pos := "ref.go:48", after := #[{ on := 8, ground := Ground.data }], guard := none }) (v := ?_) rfl (by kernel_rfl) (by kernel_rfl) (by kernel_rfl) (fun _ _ _ h => h) (Or.inl ⟨by rfl, ?_⟩) hHeld ?_
                      rotate_left
                      · (intro w hSw; have p0 := hSw.1.cell (k := 1) rfl; go_simp; try with_reducible rfl)
                      (try simp only [Act.put, List.setIfInBounds_toArray, List.set_cons_zero, List.set_cons_succ])
                      refine wpAnyH_take (i := 11) (oi := { dst := some 120, op := Op.fieldAddr 55 (Operand.tmp 4) 2, type := 0, pos := "ref.go:48", after := #[], guard := none }) (v := ?_) rfl (by kernel_rfl) (by kernel_rfl) (by kernel_rfl) (fun _ _ _ h => h) (Or.inl ⟨by rfl, ?_⟩) hHeld ?_
                      rotate_left
                      · (intro w hSw; go_simp; try with_reducible rfl)
                      (try simp only [Act.put, List.setIfInBounds_toArray, List.set_cons_zero, List.set_cons_succ])
                      refine wpAnyH_take (i := 12) (oi := { dst := some 121, op := Op.load 3 (Operand.tmp 120), type := 3, pos := "ref.go:48", after := #[{ on := 11, ground := Ground.data }], guard := none }) (v := ?_) rfl (by kernel_rfl) (by kernel_rfl) (by kernel_rfl) (fun _ _ _ h => h) (Or.inl ⟨by rfl, ?_⟩) hHeld ?_
                      rotate_left
                      · (intro w hSw; have p0 := hSw.1.cell (k := 2) rfl; go_simp; try with_reducible rfl)
                      (try simp only [Act.put, List.setIfInBounds_toArray, List.set_cons_zero, List.set_cons_succ])
                      refine wpAnyH_take (i := 13) (oi := { dst := some 122, op := Op.binOp BinOp.add 3 (Operand.tmp 121) (Operand.const (Value.int IntKind.i64 1)) 3, type := 3, pos := "ref.go:48", after := #[{ on := 12, ground := Ground.data }], guard := none }) (v := ?_) rfl (by kernel_rfl) (by kernel_rfl) (by kernel_rfl) (fun _ _ _ h => h) (Or.inl ⟨by rfl, ?_⟩) hHeld ?_
                      rotate_left
                      · (intro w hSw; go_simp; try with_reducible rfl)
                      (try simp only [Act.put, List.setIfInBounds_toArray, List.set_cons_zero, List.set_cons_succ])
                      refine wpAnyH_ready (rs := [4]) (by kernel_rfl) (by simp) (AllReadyH.cons (o := { dst := some 113, op := Op.call { callee := Callee.value (Operand.func 49), args := #[Operand.tmp 110, Operand.tmp 112], argTypes := #[9, 9] }, type := 9, pos := "ref.go:48", after := #[{ on := 1, ground := Ground.data }, { on := 3, ground := Ground.data }], guard := none }) rfl (fun K hK => ?_) AllReadyH.nil)
                      · go_simp
                        go_wp2_with (go_at_call 49; refine (HBG.out _).mono ?_; rintro e w' ⟨rfl, rfl⟩)
                        refine hK.out _ _ hHeld (fun hHeld => ?_)
                        clear hK K
                        (try simp only [Act.put, List.setIfInBounds_toArray, List.set_cons_zero, List.set_cons_succ])
                        refine wpAnyH_ready (rs := [7]) (by kernel_rfl) (by simp) (AllReadyH.cons (o := { dst := some 116, op := Op.call { callee := Callee.value (Operand.func 50), args := #[Operand.tmp 115], argTypes := #[9] }, type := 46, pos := "ref.go:48", after := #[{ on := 6, ground := Ground.data }, { on := 4, ground := Ground.chain }], guard := none }) rfl (fun K hK => ?_) AllReadyH.nil)
                        · go_simp
                          go_wp2_with (go_at_call 50; refine (rcut_any ⟨gx.data.toArray⟩ HXD.out _).mono ?_; rintro e w8 ⟨v8, rfl, hown, hb⟩)
                          have HOW := Lib.hid hown
                          have HB8 := Lib.hid (bch VB.out (bch (below_drewN' (Below.refl _ _) 1) hb))
                          have U4 := Lib.hid ((show Box w7.drew _ 55 _ from V4.out).on hb)
                          have U13 := Lib.hid ((show Box w7.drew _ 35 _ from V13.out).on hb)
                          have U6 := Lib.hid ((show Box w7.drew _ 55 _ from V6.out).on hb)
                          have HS8 : Hid (w7.heap.size ≤ w8.heap.size) := Lib.hid hb.size
                          have HS7 := Lib.hid VB.out.size
                          clear hown hb
                          refine hK.out _ _ ⟨U4.out, U13.out⟩ (fun hHeld => ?_)
                          clear hK K
                          (try simp only [Act.put, List.setIfInBounds_toArray, List.set_cons_zero, List.set_cons_succ])
                          refine wpAnyH_ready (rs := [10]) (by kernel_rfl) (by simp) (AllReadyH.cons (o := { dst := some 119, op := Op.call { callee := Callee.builtin Builtin.append, args := #[Operand.tmp 116, Operand.tmp 118], argTypes := #[46, 46] }, type := 46, pos := "ref.go:48", after := #[{ on := 7, ground := Ground.data }, { on := 9, ground := Ground.data }, { on := 7, ground := Ground.chain }], guard := none }) rfl (fun K hK => ?_) AllReadyH.nil)
                          · refine wp_append_strs (by rfl) (.tmp 116) (.tmp 118) rfl w7.drew.heap.size v8 (cutP gx.data) rest rfl HOW.out a' n c' rfl (HT.out.below HB8.out) HS8.out (by have := cutP_len gx.data; have := HXD.out; omega) ?_
                            intro v9 w9 hr9 hg9
                            obtain ⟨aw, cw, rfl⟩ := own_slc HOW.out
                            have hb9 : Below w7.heap.size w8 w9 := (Below.refl _ _).grown hg9 HS8.out (own_blk HOW.out)
                            have Z4 := Lib.hid (U4.out.below hb9 V4.out.lt)
                            have Z13 := Lib.hid (U13.out.below hb9 V13.out.lt)
                            have Z6 := Lib.hid (U6.out.below hb9 V6.out.lt)
                            obtain ⟨a9, c9, rfl⟩ := own_slc hr9
                            have HR9 := Lib.hid hr9
                            have HB9 := Lib.hid (HB8.out.trans (hb9.mono HS7.out))
                            clear hr9 hg9 hb9
                            refine hK.out _ _ ⟨Z4.out, Z13.out⟩ (fun hHeld => ?_)
                            clear hK K
                            (try simp only [Act.put, List.setIfInBounds_toArray, List.set_cons_zero, List.set_cons_succ])
                            refine wpAnyH_take (i := 14) (oi := { dst := some 123, op := Op.build 55 #[(0, Operand.tmp 113), (1, Operand.tmp 119), (2, Operand.tmp 122)], type := 55, pos := "ref.go:48", after := #[{ on := 4, ground := Ground.data }, { on := 10, ground := Ground.data }, { on := 13, ground := Ground.data }], guard := none }) (v := ?_) rfl (by kernel_rfl) (by kernel_rfl) (by kernel_rfl) (fun _ _ _ h => h) (Or.inl ⟨by rfl, ?_⟩) hHeld ?_
                            rotate_left
                            · (intro w hSw; go_simp; try with_reducible rfl)
                            (try simp only [Act.put, List.setIfInBounds_toArray, List.set_cons_zero, List.set_cons_succ])
                            refine wpAnyH_ready (rs := [15]) (by kernel_rfl) (by simp) (AllReadyH.cons (o := { dst := none, op := Op.store 55 (Operand.tmp 6) (Operand.tmp 123), type := 0, pos := "ref.go:48", after := #[{ on := 14, ground := Ground.data }, { on := 10, ground := Ground.chain }, { on := 0, ground := Ground.phase }, { on := 1, ground := Ground.phase }, { on := 2, ground := Ground.phase }, { on := 3, ground := Ground.phase }, { on := 4, ground := Ground.phase }, { on := 5, ground := Ground.phase }, { on := 6, ground := Ground.phase }, { on := 7, ground := Ground.phase }, { on := 8, ground := Ground.phase }, { on := 9, ground := Ground.phase }, { on := 10, ground := Ground.phase }, { on := 11, ground := Ground.phase }, { on := 12, ground := Ground.phase }, { on := 13, ground := Ground.phase }, { on := 14, ground := Ground.phase }], guard := none }) rfl (fun K hK => ?_) AllReadyH.nil)
                            · refine wp_store_row_if (by rfl) 55 (.tmp 6) (.tmp 123) rfl (w.heap.size + 1 + 1) 55 stpZ #[.string ⟨BG.toArray⟩, .slice a9 ((cutP gx.data).length + rest.length) c9, .int .i64 ((hops : Int) + 1)] rfl rfl Z6.out (info55 _ rfl) rfl (stp_one _ _ _ _ _) ?_
                              have F6 := Lib.hid (Z6.out.row #[.string ⟨BG.toArray⟩, .slice a9 ((cutP gx.data).length + rest.length) c9, .int .i64 ((hops : Int) + 1)])
                              have FB : Hid (Below w.heap.size w (w9.setRow (w.heap.size + 1 + 1) #[.string ⟨BG.toArray⟩, .slice a9 ((cutP gx.data).length + rest.length) c9, .int .i64 ((hops : Int) + 1)])) := Lib.hid (below_row HB9.out (by omega) _)
                              have FR3 := Lib.hid (RdS.of_own (own_row_far HR9.out (show w.heap.size + 1 + 1 < w7.drew.heap.size from V6.out.lt) #[.string ⟨BG.toArray⟩, .slice a9 ((cutP gx.data).length + rest.length) c9, .int .i64 ((hops : Int) + 1)]))
                              rw [List.length_append] at FR3
                              refine hK.out _ _ ⟨Z4.out.far_row (by omega) _, Z13.out.far_row (by have := L13.out; omega) _⟩ (fun hHeld => ?_)
                              clear hK K
                              (try simp only [Act.put, List.setIfInBounds_toArray, List.set_cons_zero, List.set_cons_succ])
                              refine wpAnyH_take (i := 16) (oi := { dst := some 7, op := Op.assign (Operand.const (Value.bool false)), type := 4, pos := "ref.go:48", after := #[{ on := 15, ground := Ground.chain }, { on := 0, ground := Ground.phase }, { on := 1, ground := Ground.phase }, { on := 2, ground := Ground.phase }, { on := 3, ground := Ground.phase }, { on := 4, ground := Ground.phase }, { on := 5, ground := Ground.phase }, { on := 6, ground := Ground.phase }, { on := 7, ground := Ground.phase }, { on := 8, ground := Ground.phase }, { on := 9, ground := Ground.phase }, { on := 10, ground := Ground.phase }, { on := 11, ground := Ground.phase }, { on := 12, ground := Ground.phase }, { on := 13, ground := Ground.phase }, { on := 14, ground := Ground.phase }, { on := 15, ground := Ground.phase }], guard := none }) (v := ?_) rfl (by kernel_rfl) (by kernel_rfl) (by kernel_rfl) (fun _ _ _ h => h) (Or.inl ⟨by rfl, ?_⟩) hHeld ?_
                              rotate_left
                              · (intro w hSw; go_simp; try with_reducible rfl)
                              (try simp only [Act.put, List.setIfInBounds_toArray, List.set_cons_zero, List.set_cons_succ])
                              refine wpAnyH_take (i := 17) (oi := { dst := some 8, op := Op.assign (Operand.const (Value.int IntKind.i64 0)), type := 29, pos := "ref.go:48", after := #[{ on := 16, ground := Ground.chain }, { on := 0, ground := Ground.phase }, { on := 1, ground := Ground.phase }, { on := 2, ground := Ground.phase }, { on := 3, ground := Ground.phase }, { on := 4, ground := Ground.phase }, { on := 5, ground := Ground.phase }, { on := 6, ground := Ground.phase }, { on := 7, ground := Ground.phase }, { on := 8, ground := Ground.phase }, { on := 9, ground := Ground.phase }, { on := 10, ground := Ground.phase }, { on := 11, ground := Ground.phase }, { on := 12, ground := Ground.phase }, { on := 13, ground := Ground.phase }, { on := 14, ground := Ground.phase }, { on := 15, ground := Ground.phase }, { on := 16, ground := Ground.phase }], guard := none }) (v := ?_) rfl (by kernel_rfl) (by kernel_rfl) (by kernel_rfl) (fun _ _ _ h => h) (Or.inl ⟨by rfl, ?_⟩) hHeld ?_
                              rotate_left
                              · (intro w hSw; go_simp; try with_reducible rfl)
                              (try simp only [Act.put, List.setIfInBounds_toArray, List.set_cons_zero, List.set_cons_succ])
                              refine wpAnyH_done (by kernel_rfl) ?_ _
                              go_wp2_with fail
                              exact bodyPost_ret (end_stp rfl _ F6.out rfl rfl rfl rfl) rfl ⟨FB.out, by rw [HO.out]; exact ⟨_, rfl, FR3.out, fun q hq => .inr (Nat.le_trans VB.out.size (own_blk HR9.out q (by rw [List.length_append]; exact hq)))⟩⟩
                    · have n4 : ((n : Int) == 0) = false := by rw [beq_eq_false_iff_ne]; omega
                      clear hk1 hk2 hel hn0
                      go_upto_region 25 with fail
                      have kh : IntKind.i64.wrap ((hops : Int) + 1) = (hops : Int) + 1 := IntWalk.i64_in _ (by omega)
                      have hbl := built55s
                      have hS : Box w7.drew (w.heap.size + 1) 55 (stpA at_ (.slice (some a') n c') hops) ∧ Box w7.drew b13 35 gx.arr := ⟨V4.out, V13.out⟩
                      refine wp_region_held_drew (S := fun W => Box W (w.heap.size + 1) 55 (stpA at_ (.slice (some a') n c') hops) ∧ Box W b13 35 gx.arr) (by kernel_rfl) hS (fun hHeld => ?_)
                      clear hS d0 d1 d2 e0 e1 e2 h0 h1 h2 y1 y2 m0
                      refine wpAnyH_take (i := 0) (oi := { dst := some 109, op := Op.fieldAddr 55 (Operand.tmp 4) 0, type := 0, pos := "ref.go:48", after := #[], guard := none }) (v := ?_) rfl (by kernel_rfl) (by kernel_rfl) (by kernel_rfl) (fun _ _ _ h => h) (Or.inl ⟨by rfl, ?_⟩) hHeld ?_
                      rotate_left
                      · (intro w hSw; go_simp; try with_reducible rfl)
                      (try simp only [Act.put, List.setIfInBounds_toArray, List.set_cons_zero, List.set_cons_succ])
                      refine wpAnyH_take (i := 1) (oi := { dst := some 110, op := Op.load 9 (Operand.tmp 109), type := 9, pos := "ref.go:48", after := #[{ on := 0, ground := Ground.data }], guard := none }) (v := ?_) rfl (by kernel_rfl) (by kernel_rfl) (by kernel_rfl) (fun _ _ _ h => h) (Or.inl ⟨by rfl, ?_⟩) hHeld ?_
                      rotate_left
                      · (intro w hSw; have p0 := hSw.1.cell (k := 0) rfl; go_simp; try with_reducible rfl)
                      (try simp only [Act.put, List.setIfInBounds_toArray, List.set_cons_zero, List.set_cons_succ])
                      refine wpAnyH_take (i := 2) (oi := { dst := some 111, op := Op.fieldAddr 35 (Operand.tmp 13) 2, type := 0, pos := "ref.go:48", after := #[], guard := none }) (v := ?_) rfl (by kernel_rfl) (by kernel_rfl) (by kernel_rfl) (fun _ _ _ h => h) (Or.inl ⟨by rfl, ?_⟩) hHeld ?_
                      rotate_left
                      · (intro w hSw; go_simp; try with_reducible rfl)
                      (try simp only [Act.put, List.setIfInBounds_toArray, List.set_cons_zero, List.set_cons_succ])
                      refine wpAnyH_take (i := 3) (oi := { dst := some 112, op := Op.load 9 (Operand.tmp 111), type := 9, pos := "ref.go:48", after := #[{ on := 2, ground := Ground.data }], guard := none }) (v := ?_) rfl (by kernel_rfl) (by kernel_rfl) (by kernel_rfl) (fun _ _ _ h => h) (Or.inl ⟨by rfl, ?_⟩) hHeld ?_
                      rotate_left
                      · (intro w hSw; have p0 := hSw.2.cell (k := 2) rfl; go_simp; try with_reducible rfl)
                      (try simp only [Act.put, List.setIfInBounds_toArray, List.set_cons_zero, List.set_cons_succ])
                      refine wpAnyH_take (i := 5) (oi := { dst := some 114, op := Op.fieldAddr 35 (Operand.tmp 13) 2, type := 0, pos := "ref.go:48", after := #[], guard := none }) (v := ?_) rfl (by kernel_rfl) (by kernel_rfl) (by kernel_rfl) (fun _ _ _ h => h) (Or.inl ⟨by rfl, ?_⟩) hHeld ?_
                      rotate_left
                      · (intro w hSw; go_simp; try with_reducible rfl)
                      (try simp only [Act.put, List.setIfInBounds_toArray, List.set_cons_zero, List.set_cons_succ])
                      refine wpAnyH_take (i := 6) (oi := { dst := some 115, op := Op.load 9 (Operand.tmp 114), type := 9, pos := "ref.go:48", after := #[{ on := 5, ground := Ground.data }], guard := none }) (v := ?_) rfl (by kernel_rfl) (by kernel_rfl) (by kernel_rfl) (fun _ _ _ h => h) (Or.inl ⟨by rfl, ?_⟩) hHeld ?_
                      rotate_left
                      · (intro w hSw; have p0 := hSw.2.cell (k := 2) rfl; go_simp; try with_reducible rfl)
                      (try simp only [Act.put, List.setIfInBounds_toArray, List.set_cons_zero, List.set_cons_succ])
                      refine wpAnyH_take (i := 8) (oi := { dst := some 117, op := Op.fieldAddr 55 (Operand.tmp 4) 1, type := 0, pos := "ref.go:48", after := #[], guard := none }) (v := ?_) rfl (by kernel_rfl) (by kernel_rfl) (by kernel_rfl) (fun _ _ _ h => h) (Or.inl ⟨by rfl, ?_⟩) hHeld ?_
                      rotate_left
                      · (intro w hSw; go_simp; try with_reducible rfl)
                      (try simp only [Act.put, List.setIfInBounds_toArray, List.set_cons_zero, List.set_cons_succ])
                      refine wpAnyH_take (i := 9) (oi := { dst := some 118, op := Op.load 46 (Operand.tmp 117), type := 46, pos := "ref.go:48", after := #[{ on := 8, ground := Ground.data }], guard := none }) (v := ?_) rfl (by kernel_rfl) (by kernel_rfl) (by kernel_rfl) (fun _ _ _ h => h) (Or.inl ⟨by rfl, ?_⟩) hHeld ?_
                      rotate_left
                      · (intro w hSw; have p0 := hSw.1.cell (k := 1) rfl; go_simp; try with_reducible rfl)
                      (try simp only [Act.put, List.setIfInBounds_toArray, List.set_cons_zero, List.set_cons_succ])
                      refine wpAnyH_take (i := 11) (oi := { dst := some 120, op := Op.fieldAddr 55 (Operand.tmp 4) 2, type := 0, pos := "ref.go:48", after := #[], guard := none }) (v := ?_) rfl (by kernel_rfl) (by kernel_rfl) (by kernel_rfl) (fun _ _ _ h => h) (Or.inl ⟨by rfl, ?_⟩) hHeld ?_
                      rotate_left
                      · (intro w hSw; go_simp; try with_reducible rfl)
                      (try simp only [Act.put, List.setIfInBounds_toArray, List.set_cons_zero, List.set_cons_succ])
                      refine wpAnyH_take (i := 12) (oi := { dst := some 121, op := Op.load 3 (Operand.tmp 120), type := 3, pos := "ref.go:48", after := #[{ on := 11, ground := Ground.data }], guard := none }) (v := ?_) rfl (by kernel_rfl) (by kernel_rfl) (by kernel_rfl) (fun _ _ _ h => h) (Or.inl ⟨by rfl, ?_⟩) hHeld ?_
                      rotate_left
                      · (intro w hSw; have p0 := hSw.1.cell (k := 2) rfl; go_simp; try with_reducible rfl)
                      (try simp only [Act.put, List.setIfInBounds_toArray, List.set_cons_zero, List.set_cons_succ])
                      refine wpAnyH_take (i := 13) (oi := { dst := some 122, op := Op.binOp BinOp.add 3 (Operand.tmp 121) (Operand.const (Value.int IntKind.i64 1)) 3, type := 3, pos := "ref.go:48", after := #[{ on := 12, ground := Ground.data }], guard := none }) (v := ?_) rfl (by kernel_rfl) (by kernel_rfl) (by kernel_rfl) (fun _ _ _ h => h) (Or.inl ⟨by rfl, ?_⟩) hHeld ?_
                      rotate_left
                      · (intro w hSw; go_simp; try with_reducible rfl)
                      (try simp only [Act.put, List.setIfInBounds_toArray, List.set_cons_zero, List.set_cons_succ])
                      refine wpAnyH_ready (rs := [4]) (by kernel_rfl) (by simp) (AllReadyH.cons (o := { dst := some 113, op := Op.call { callee := Callee.value (Operand.func 49), args := #[Operand.tmp 110, Operand.tmp 112], argTypes := #[9, 9] }, type := 9, pos := "ref.go:48", after := #[{ on := 1, ground := Ground.data }, { on := 3, ground := Ground.data }], guard := none }) rfl (fun K hK => ?_) AllReadyH.nil)
                      · go_simp
                        go_wp2_with (go_at_call 49; refine (HBG.out _).mono ?_; rintro e w' ⟨rfl, rfl⟩)
                        refine hK.out _ _ hHeld (fun hHeld => ?_)
                        clear hK K
                        (try simp only [Act.put, List.setIfInBounds_toArray, List.set_cons_zero, List.set_cons_succ])
                        refine wpAnyH_ready (rs := [7]) (by kernel_rfl) (by simp) (AllReadyH.cons (o := { dst := some 116, op := Op.call { callee := Callee.value (Operand.func 50), args := #[Operand.tmp 115], argTypes := #[9] }, type := 46, pos := "ref.go:48", after := #[{ on := 6, ground := Ground.data }, { on := 4, ground := Ground.chain }], guard := none }) rfl (fun K hK => ?_) AllReadyH.nil)
                        · go_simp
                          go_wp2_with (go_at_call 50; refine (rcut_any ⟨gx.data.toArray⟩ HXD.out _).mono ?_; rintro e w8 ⟨v8, rfl, hown, hb⟩)
                          have HOW := Lib.hid hown
                          have HB8 := Lib.hid (bch VB.out (bch (below_drewN' (Below.refl _ _) 1) hb))
                          have U4 := Lib.hid ((show Box w7.drew _ 55 _ from V4.out).on hb)
                          have U13 := Lib.hid ((show Box w7.drew _ 35 _ from V13.out).on hb)
                          have U6 := Lib.hid ((show Box w7.drew _ 55 _ from V6.out).on hb)
                          have HS8 : Hid (w7.heap.size ≤ w8.heap.size) := Lib.hid hb.size
                          have HS7 := Lib.hid VB.out.size
                          clear hown hb
                          refine hK.out _ _ ⟨U4.out, U13.out⟩ (fun hHeld => ?_)
                          clear hK K
                          (try simp only [Act.put, List.setIfInBounds_toArray, List.set_cons_zero, List.set_cons_succ])
                          refine wpAnyH_ready (rs := [10]) (by kernel_rfl) (by simp) (AllReadyH.cons (o := { dst := some 119, op := Op.call { callee := Callee.builtin Builtin.append, args := #[Operand.tmp 116, Operand.tmp 118], argTypes := #[46, 46] }, type := 46, pos := "ref.go:48", after := #[{ on := 7, ground := Ground.data }, { on := 9, ground := Ground.data }, { on := 7, ground := Ground.chain }], guard := none }) rfl (fun K hK => ?_) AllReadyH.nil)
                          · refine wp_append_strs (by rfl) (.tmp 116) (.tmp 118) rfl w7.drew.heap.size v8 (cutP gx.data) rest rfl HOW.out a' n c' rfl (HT.out.below HB8.out) HS8.out (by have := cutP_len gx.data; have := HXD.out; omega) ?_
                            intro v9 w9 hr9 hg9
                            obtain ⟨aw, cw, rfl⟩ := own_slc HOW.out
                            have hb9 : Below w7.heap.size w8 w9 := (Below.refl _ _).grown hg9 HS8.out (own_blk HOW.out)
                            have Z4 := Lib.hid (U4.out.below hb9 V4.out.lt)
                            have Z13 := Lib.hid (U13.out.below hb9 V13.out.lt)
                            have Z6 := Lib.hid (U6.out.below hb9 V6.out.lt)
                            obtain ⟨a9, c9, rfl⟩ := own_slc hr9
                            have HR9 := Lib.hid hr9
                            have HB9 := Lib.hid (HB8.out.trans (hb9.mono HS7.out))
                            clear hr9 hg9 hb9
                            refine hK.out _ _ ⟨Z4.out, Z13.out⟩ (fun hHeld => ?_)
                            clear hK K
                            (try simp only [Act.put, List.setIfInBounds_toArray, List.set_cons_zero, List.set_cons_succ])
                            refine wpAnyH_take (i := 14) (oi := { dst := some 123, op := Op.build 55 #[(0, Operand.tmp 113), (1, Operand.tmp 119), (2, Operand.tmp 122)], type := 55, pos := "ref.go:48", after := #[{ on := 4, ground := Ground.data }, { on := 10, ground := Ground.data }, { on := 13, ground := Ground.data }], guard := none }) (v := ?_) rfl (by kernel_rfl) (by kernel_rfl) (by kernel_rfl) (fun _ _ _ h => h) (Or.inl ⟨by rfl, ?_⟩) hHeld ?_
                            rotate_left
                            · (intro w hSw; go_simp; try with_reducible rfl)
                            (try simp only [Act.put, List.setIfInBounds_toArray, List.set_cons_zero, List.set_cons_succ])
                            refine wpAnyH_ready (rs := [15]) (by kernel_rfl) (by simp) (AllReadyH.cons (o := { dst := none, op := Op.store 55 (Operand.tmp 6) (Operand.tmp 123), type := 0, pos := "ref.go:48", after := #[{ on := 14, ground := Ground.data }, { on := 10, ground := Ground.chain }, { on := 0, ground := Ground.phase }, { on := 1, ground := Ground.phase }, { on := 2, ground := Ground.phase }, { on := 3, ground := Ground.phase }, { on := 4, ground := Ground.phase }, { on := 5, ground := Ground.phase }, { on := 6, ground := Ground.phase }, { on := 7, ground := Ground.phase }, { on := 8, ground := Ground.phase }, { on := 9, ground := Ground.phase }, { on := 10, ground := Ground.phase }, { on := 11, ground := Ground.phase }, { on := 12, ground := Ground.phase }, { on := 13, ground := Ground.phase }, { on := 14, ground := Ground.phase }], guard := none }) rfl (fun K hK => ?_) AllReadyH.nil)
                            · refine wp_store_row_if (by rfl) 55 (.tmp 6) (.tmp 123) rfl (w.heap.size + 1 + 1) 55 stpZ #[.string ⟨BG.toArray⟩, .slice a9 ((cutP gx.data).length + rest.length) c9, .int .i64 ((hops : Int) + 1)] rfl rfl Z6.out (info55 _ rfl) rfl (stp_one _ _ _ _ _) ?_
                              have F6 := Lib.hid (Z6.out.row #[.string ⟨BG.toArray⟩, .slice a9 ((cutP gx.data).length + rest.length) c9, .int .i64 ((hops : Int) + 1)])
                              have FB : Hid (Below w.heap.size w (w9.setRow (w.heap.size + 1 + 1) #[.string ⟨BG.toArray⟩, .slice a9 ((cutP gx.data).length + rest.length) c9, .int .i64 ((hops : Int) + 1)])) := Lib.hid (below_row HB9.out (by omega) _)
                              have FR3 := Lib.hid (RdS.of_own (own_row_far HR9.out (show w.heap.size + 1 + 1 < w7.drew.heap.size from V6.out.lt) #[.string ⟨BG.toArray⟩, .slice a9 ((cutP gx.data).length + rest.length) c9, .int .i64 ((hops : Int) + 1)]))
                              rw [List.length_append] at FR3
                              refine hK.out _ _ ⟨Z4.out.far_row (by omega) _, Z13.out.far_row (by have := L13.out; omega) _⟩ (fun hHeld => ?_)
                              clear hK K
                              (try simp only [Act.put, List.setIfInBounds_toArray, List.set_cons_zero, List.set_cons_succ])
                              refine wpAnyH_take (i := 16) (oi := { dst := some 7, op := Op.assign (Operand.const (Value.bool false)), type := 4, pos := "ref.go:48", after := #[{ on := 15, ground := Ground.chain }, { on := 0, ground := Ground.phase }, { on := 1, ground := Ground.phase }, { on := 2, ground := Ground.phase }, { on := 3, ground := Ground.phase }, { on := 4, ground := Ground.phase }, { on := 5, ground := Ground.phase }, { on := 6, ground := Ground.phase }, { on := 7, ground := Ground.phase }, { on := 8, ground := Ground.phase }, { on := 9, ground := Ground.phase }, { on := 10, ground := Ground.phase }, { on := 11, ground := Ground.phase }, { on := 12, ground := Ground.phase }, { on := 13, ground := Ground.phase }, { on := 14, ground := Ground.phase }, { on := 15, ground := Ground.phase }], guard := none }) (v := ?_) rfl (by kernel_rfl) (by kernel_rfl) (by kernel_rfl) (fun _ _ _ h => h) (Or.inl ⟨by rfl, ?_⟩) hHeld ?_
                              rotate_left
                              · (intro w hSw; go_simp; try with_reducible rfl)
                              (try simp only [Act.put, List.setIfInBounds_toArray, List.set_cons_zero, List.set_cons_succ])
                              refine wpAnyH_take (i := 17) (oi := { dst := some 8, op := Op.assign (Operand.const (Value.int IntKind.i64 0)), type := 29, pos := "ref.go:48", after := #[{ on := 16, ground := Ground.chain }, { on := 0, ground := Ground.phase }, { on := 1, ground := Ground.phase }, { on := 2, ground := Ground.phase }, { on := 3, ground := Ground.phase }, { on := 4, ground := Ground.phase }, { on := 5, ground := Ground.phase }, { on := 6, ground := Ground.phase }, { on := 7, ground := Ground.phase }, { on := 8, ground := Ground.phase }, { on := 9, ground := Ground.phase }, { on := 10, ground := Ground.phase }, { on := 11, ground := Ground.phase }, { on := 12, ground := Ground.phase }, { on := 13, ground := Ground.phase }, { on := 14, ground := Ground.phase }, { on := 15, ground := Ground.phase }, { on := 16, ground := Ground.phase }], guard := none }) (v := ?_) rfl (by kernel_rfl) (by kernel_rfl) (by kernel_rfl) (fun _ _ _ h => h) (Or.inl ⟨by rfl, ?_⟩) hHeld ?_
                              rotate_left
                              · (intro w hSw; go_simp; try with_reducible rfl)
                              (try simp only [Act.put, List.setIfInBounds_toArray, List.set_cons_zero, List.set_cons_succ])
                              refine wpAnyH_done (by kernel_rfl) ?_ _
                              go_wp2_with fail
                              exact bodyPost_ret (end_stp rfl _ F6.out rfl rfl rfl rfl) rfl ⟨FB.out, by rw [HO.out]; exact ⟨_, rfl, FR3.out, fun q hq => .inr (Nat.le_trans VB.out.size (own_blk HR9.out q (by rw [List.length_append]; exact hq)))⟩⟩
end Go.Proofs.YtiakedoebecgpaaDoor

namespace Go.Proofs.YtiakedoebecgpaaDoor
open Go.RowKit Go.Shelf

def GoesQ (R : Except Int (Str × Nat)) (w : World) (e : Ending) (w' : World) : Prop := Below w.heap.size w w' ∧ match R with
  | .error z => z ≠ 0 ∧ e = .returned (.tuple #[.agg stpZ, .int .i64 z])
  | .ok q => ∃ (a : Option Addr) (n c : Nat), e = .returned (.tuple #[.agg (stpA q.1 (.slice a n c) q.2), .int .i64 0])
theorem end_way2 {fn : Func} {p q : Tmp} (h : fn.results = #[.cell p 55, .tmp q]) (tmps : Array Value) {w : World} {g : Nat} {cs : Array Value} (X : Box w g 55 cs) (h3 : cs.size = 3) (hp : tmps.getD p undef = .pointer (some ⟨g, 0, none⟩)) {v : Value} (hq : tmps.getD q undef = v) :
    (results fn tmps).run Tryd.prog w = .ok (.tuple #[.agg cs, v]) w := by
  rw [← hq]
  exact results_two h tmps w g hp cs (run_loadVar_row _ g 55 55 cs (0, 0) _ X Tryd.underlying55 rfl (info55 _ h3))
theorem built55z : Tryd.prog.built 55 [] = some stpZ := by kernel_rfl
theorem built55b (x : ByteArray) (a : Option Addr) (n c : Nat) : Tryd.prog.built 55 [(0, .string x), (1, .slice a n c)] = some #[.string x, .slice a n c, .int .i64 0] := by kernel_rfl
theorem RdS.far_row {w : World} {g : Nat} {v : Value} {l : List Str} (h : RdS w v l) (hg : ∀ q, v.ownBlock = some q → q ≠ g) (cs : Array Value) : RdS (w.setRow g cs) v l := by
  obtain ⟨a, c, rfl, h1, h2, h3⟩ := h
  refine ⟨a, c, rfl, h1, h2, fun h0 => ?_⟩
  obtain ⟨q, o, rfl, hq, hc⟩ := h3 h0
  have hne : q ≠ g := hg q rfl
  refine ⟨q, o, rfl, by simpa using hq, fun j x hx => ?_⟩
  rw [← hc j x hx]
  exact World.cell?_of_block (a := ⟨q, o + j, none⟩) (setRow_other w g q cs hne)
theorem stpZ_one : (stpZ : Array Value).all (·.oneCell') = true := by simp [Value.oneCell']
theorem goR_ok {l : List It} {last : Bool} {f : Nat} {at_ part : Str} {rest : List Str} {hops : Nat} {q : Str × List Str × Nat × Bool} (h : stepR l last at_ part rest hops = .ok q) : goR l last (f + 1) at_ (part :: rest) hops = if q.2.2.2 = true then .ok (q.1, q.2.2.1) else goR l last f q.1 q.2.1 q.2.2.1 := by
  simp only [goR, h]
def wayLen (w : World) (b : Nat) : Nat := match w.cell? ⟨b, 1, none⟩ with
  | some (.slice _ n _) => n
  | _ => 0
def wayHop (w : World) (b : Nat) : Nat := match w.cell? ⟨b, 2, none⟩ with
  | some (.int _ z) => z.toNat
  | _ => 0
theorem way_len {w : World} {b n c hops : Nat} {at_ : Str} {a : Option Addr} (X : Box w b 55 (stpA at_ (.slice a n c) hops)) : wayLen w b = n ∧ wayHop w b = hops := by
  have h1 : w.cell? ⟨b, 1, none⟩ = some (.slice a n c) := X.cell (k := 1) rfl
  have h2 : w.cell? ⟨b, 2, none⟩ = some (.int .i64 (hops : Int)) := X.cell (k := 2) rfl
  unfold wayLen wayHop
  rw [h1, h2]
  exact ⟨rfl, by simp⟩

set_option maxRecDepth 100000 in
set_option maxHeartbeats 8000000 in
theorem rgoes_any (l : List It) (tv : Value) (at_ s : Str) (last : Bool) (w : World) (hv : RdI w tv l) (hl : l.length ≤ 1000000) (h : TreeOk l) (hz : at_.length ≤ 2000000) (hs : s.length ≤ 2000) (hd : ∀ x ∈ l, x.data.length ≤ 2000000) :
    Calls Tryd.prog 26 #[.agg #[tv], .string ⟨at_.toArray⟩, .string ⟨s.toArray⟩, .bool last] w (GoesQ (goesR l last at_ s) w) := by
  obtain ⟨R, hR⟩ : ∃ R, R = goesR l last at_ s := ⟨_, rfl⟩
  rw [← hR]
  have HR := Lib.hid hR
  obtain ⟨w1, hw1⟩ : ∃ q, q = (w.alloc (.cells #[tv] 24)).alloc (.cells stpZ 55) := ⟨_, rfl⟩
  obtain ⟨b4, hb4⟩ : ∃ q, q = w.heap.size := ⟨_, rfl⟩
  have X4 : Hid (Box w1 b4 24 #[tv]) := Lib.hid (by rw [hw1, hb4]; exact box_new.alloc _)
  have X8 : Hid (Box w1 (b4 + 1) 55 stpZ) := Lib.hid (by rw [hw1, hb4]; have := box_new (w := w.alloc (.cells #[tv] 24)) (t := 55) (cs := stpZ); simpa using this)
  have B1 : Hid (Below w.heap.size w w1) := Lib.hid (by rw [hw1]; exact bch (below_new _ _) (below_new _ _))
  have L4 : Hid (w.heap.size ≤ b4) := Lib.hid (by omega)
  have HV := Lib.hid hv
  have HT := Lib.hid h
  have HD := Lib.hid hd
  have HLL := Lib.hid hl
  obtain ⟨gx, gb, hG⟩ : ∃ gx gb, refG l at_ = (gx, gb) := ⟨_, _, rfl⟩
  have HG := Lib.hid hG
  obtain ⟨vb, hvb⟩ : ∃ b, b = validB at_ := ⟨_, rfl⟩
  have HVB := Lib.hid hvb
  have HRI : Hid (∀ W : World, Calls Tryd.prog 48 #[.string ⟨at_.toArray⟩] W fun e w' => e = .returned (.bool vb) ∧ Below W.heap.size W w') := Lib.hid (fun W => by rw [hvb]; exact rright_any ⟨at_.toArray⟩ hz W)
  have HGE : Hid (∀ W : World, Below w.heap.size w W → Calls Tryd.prog 47 #[.agg #[tv], .string ⟨at_.toArray⟩] W fun e w' => e = .returned (.tuple #[.agg gx.arr, .bool gb]) ∧ Below W.heap.size W w') := Lib.hid (fun W hW => by
    have := rget_any l tv ⟨at_.toArray⟩ W (HV.out.on hW) HLL.out
    rw [show refG l (⟨at_.toArray⟩ : ByteArray).data.toList = (gx, gb) from hG] at this
    exact this)
  have k0 : w1.cell? ⟨b4, 0, none⟩ = some tv := X4.out.cell (k := 0) rfl
  clear hR hv h hd hl hG hvb
  go_enter Tryd.func26, Tryd.ntmps26
  go_upto_region 1 with (with_reducible refine wpList_zero rfl 55 rfl stpZ zero55s ?_)
  rw [← hw1, ← hb4]
  clear hw1 hb4
  go_upto_region 2 with (first
    | (go_at_call 47; refine (HGE.out _ B1.out).mono ?_; rintro e w2 ⟨rfl, hb⟩; have Y4 := Lib.hid (X4.out.on hb); have Y8 := Lib.hid (X8.out.on hb); have B2 := Lib.hid (bch B1.out hb); clear hb k0)
    | (with_reducible refine wpList_zero rfl 35 rfl It.nil.arr zero35 ?_)
    | (refine wpList_store_row rfl 35 (.tmp 10) (.tmp 20) rfl w2.heap.size gx.arr rfl rfl 35 It.nil.arr box_new (info35 _) rfl (iarr_one _) ?_))
  obtain ⟨w3, hw3⟩ : ∃ q, q = (w2.alloc (.cells #[.string ⟨#[]⟩, .int .i64 0, .string ⟨#[]⟩] 35)).setRow w2.heap.size gx.arr := ⟨_, rfl⟩
  obtain ⟨b10, hb10⟩ : ∃ q, q = w2.heap.size := ⟨_, rfl⟩
  have hlt : b4 + 1 < b10 := by rw [hb10]; exact Y8.out.lt
  have Z4 : Hid (Box w3 b4 24 #[tv]) := Lib.hid (by rw [hw3]; exact (Y4.out.alloc _).far_row (by have := Y4.out.lt; omega) _)
  have Z8 : Hid (Box w3 (b4 + 1) 55 stpZ) := Lib.hid (by rw [hw3]; exact (Y8.out.alloc _).far_row (by have := Y8.out.lt; omega) _)
  have Z10 : Hid (Box w3 b10 35 gx.arr) := Lib.hid (by rw [hw3, hb10]; exact box_new.row _)
  have B3 : Hid (Below w.heap.size w w3) := Lib.hid (by rw [hw3]; exact below_row (B2.out.alloc B2.out.size _) (by have := B2.out.size; omega) _)
  rw [← hw3, ← hb10]
  clear hw3 hb10 Y4 Y8 B2 X4 X8 B1
  cases vb with
  | false =>
    have HO : Hid (R = .error 110) := Lib.hid (by rw [HR.out]; unfold goesR; rw [if_pos HVB.out.symm])
    go_upto_region 3 with (go_at_call 48; refine (HRI.out _).mono ?_; rintro e w4 ⟨rfl, hb⟩; have Y8 := Lib.hid (Z8.out.on hb); have B4 := Lib.hid (bch B3.out hb); clear hb)
    go_wp2_with (first
      | (with_reducible refine wpList_zero rfl 55 rfl stpZ zero55s ?_)
      | (refine wpList_store_row rfl 55 (.tmp 8) (.tmp 26) rfl (b4 + 1) stpZ rfl rfl 55 _ Y8.out (info55 _ rfl) rfl stpZ_one ?_))
    exact bodyPost_ret (end_way2 rfl _ (Y8.out.row stpZ) rfl rfl rfl) rfl ⟨below_row B4.out (by have := L4.out; omega) _, by rw [HO.out]; exact ⟨by decide, rfl⟩⟩
  | true =>
    have HRJ : Hid (R = if gb = false then .error 4 else if gx.kind ≠ 1 then .error 161 else goR l last 90000 (if s.head? = some 47 then [47] else at_) (cutP s) 0) := Lib.hid (by
      rw [HR.out]; unfold goesR; rw [if_neg (by rw [← HVB.out]; simp), HG.out])
    clear HR
    go_upto_region 4 with (go_at_call 48; refine (HRI.out _).mono ?_; rintro e w4 ⟨rfl, hb⟩; have V4 := Lib.hid (Z4.out.on hb); have V8 := Lib.hid (Z8.out.on hb); have V10 := Lib.hid (Z10.out.on hb); have B4 := Lib.hid (bch B3.out hb); clear hb)
    clear Z4 Z8 Z10 B3
    cases gb with
    | false =>
      have HO : Hid (R = .error 4) := Lib.hid (by rw [HRJ.out, if_pos rfl])
      go_wp2_with (first
        | (with_reducible refine wpList_zero rfl 55 rfl stpZ zero55s ?_)
        | (refine wpList_store_row rfl 55 (.tmp 8) (.tmp 30) rfl (b4 + 1) stpZ rfl rfl 55 _ V8.out (info55 _ rfl) rfl stpZ_one ?_))
      exact bodyPost_ret (end_way2 rfl _ (V8.out.row stpZ) rfl rfl rfl) rfl ⟨below_row B4.out (by have := L4.out; omega) _, by rw [HO.out]; exact ⟨by decide, rfl⟩⟩
    | true =>
      have y1 : w4.cell? ⟨b10, 1, none⟩ = some (.int .i64 gx.kind) := V10.out.cell (k := 1) rfl
      by_cases hk : gx.kind = 1
      · have q1 : (gx.kind != 1) = false := by simp [hk]
        obtain ⟨BG, hBG⟩ : ∃ BG : Str, BG = (if s.head? = some 47 then [47] else at_) := ⟨_, rfl⟩
        have HTG : Hid (R = goR l last 90000 BG (cutP s) 0) := Lib.hid (by rw [HRJ.out, if_neg (by decide), if_neg (by simp [hk]), hBG])
        have HBG : Hid (∀ W : World, Calls Tryd.prog 49 #[.string ⟨at_.toArray⟩, .string ⟨s.toArray⟩] W fun e w' => e = .returned (.string ⟨BG.toArray⟩) ∧ W = w') := Lib.hid (fun W => begins_at ⟨at_.toArray⟩ ⟨s.toArray⟩ ⟨BG.toArray⟩ (by
          rw [hBG]
          show (if s.head? = some 47 then (⟨#[47]⟩ : ByteArray) else ⟨at_.toArray⟩) = _
          split <;> rfl) W)
        have HGK : Hid (GoK l last BG (cutP s) 0 90000) := Lib.hid (by
          have hg : getI l at_ = some gx := by
            have := HG.out
            rw [refG_get] at this
            cases e : getI l at_ with
            | none => rw [e] at this; cases this
            | some x => rw [e] at this; cases this; rfl
          refine ⟨⟨_, begin_stand hg hk last s _, ?_⟩, cutP_noslash s, fun q hq => by have := cutP_short s q hq; omega, by have := cutP_len s; unfold mM; omega⟩
          rw [hBG]
          split
          · rfl
          · exact (get_here hg).2)
        have hbl := built55b
        clear hBG HRJ hk
        go_wp2_with (first
          | (go_at_call 49; refine (HBG.out _).mono ?_; rintro e w' ⟨rfl, rfl⟩)
          | (go_at_call 50; refine (rcut_any ⟨s.toArray⟩ (show s.length ≤ 2000000 by omega) _).mono ?_; rintro e w5 ⟨v5, rfl, ho, hb⟩; have HO5 := Lib.hid ho; obtain ⟨a5, c5, rfl⟩ := own_slc ho; have U4 := Lib.hid (V4.out.on hb); have U8 := Lib.hid (V8.out.on hb); have B5 := Lib.hid (bch B4.out hb); clear ho hb y1))
        clear hbl
        obtain ⟨w6, hw6⟩ : ∃ q, q = w5.alloc (.cells #[.string ⟨BG.toArray⟩, .slice a5 (cutP s).length c5, .int .i64 0] 55) := ⟨_, rfl⟩
        obtain ⟨b12, hb12⟩ : ∃ q, q = w5.heap.size := ⟨_, rfl⟩
        have L12 : Hid (b4 + 1 < b12) := Lib.hid (by rw [hb12]; exact U8.out.lt)
        have T4 : Hid (Box w6 b4 24 #[tv]) := Lib.hid (by rw [hw6]; exact U4.out.alloc _)
        have T8 : Hid (Box w6 (b4 + 1) 55 stpZ) := Lib.hid (by rw [hw6]; exact U8.out.alloc _)
        have T12 : Hid (Box w6 b12 55 (stpA BG (.slice a5 (cutP s).length c5) 0)) := Lib.hid (by rw [hw6, hb12]; exact box_new)
        have B6 : Hid (Below w.heap.size w w6) := Lib.hid (by rw [hw6]; exact bch B5.out (below_new _ _))
        have HR6 : Hid (RdS w6 (.slice a5 (cutP s).length c5) (cutP s)) := Lib.hid (by rw [hw6]; exact (RdS.of_own HO5.out).below (below_new _ _))
        have HNB : Hid (∀ q, (Value.slice a5 (cutP s).length c5).ownBlock = some q → q ≠ b12) := Lib.hid (fun q hq => by have := (World.ownsRow.lt HO5.out q hq).2; omega)
        rw [← hw6, ← hb12]
        clear hw6 hb12 U4 U8 HO5 B5 V4 V8 V10 B4 q1
        go_loopw [45] (fun _ W => ∃ (p : Str) (rest : List Str) (hops f : Nat) (a : Option Addr) (c : Nat), Hid (Box W b12 55 (stpA p (.slice a rest.length c) hops)) ∧ Hid (RdS W (.slice a rest.length c) rest) ∧ Hid (∀ q, (Value.slice a rest.length c).ownBlock = some q → q ≠ b12) ∧ Hid (GoK l last p rest hops f) ∧ Hid (R = goR l last f p rest hops) ∧ f ≤ 90000 ∧ hops ≤ 40 ∧ Hid (Box W b4 24 #[tv]) ∧ Hid (Box W (b4 + 1) 55 stpZ) ∧ Hid (Below w.heap.size w W)) (fun _ W => wayLen W b12 + (40 - wayHop W b12) * 2001)
        case atStart => exact ⟨BG, cutP s, 0, 90000, a5, c5, T12, HR6, HNB, HGK, HTG, Nat.le_refl _, Nat.zero_le _, T4, T8, B6⟩
        case round =>
          clear T4 T8 T12 B6 HR6 HGK HTG HBG HNB
          obtain ⟨p, rest, hops, f, a, c, X12, HRS, HNB, HK, HTG, hf, hh, X4, X8, HB⟩ := hrel
          have HMW := Lib.hid (way_len X12.out)
          have k0 : wr.cell? ⟨b4, 0, none⟩ = some tv := X4.out.cell (k := 0) rfl
          have d0 : wr.cell? ⟨b12, 0, none⟩ = some (.string ⟨p.toArray⟩) := X12.out.cell (k := 0) rfl
          have d2 : wr.cell? ⟨b12, 2, none⟩ = some (.int .i64 (hops : Int)) := X12.out.cell (k := 2) rfl
          cases rest with
          | nil =>
            have d1 : wr.cell? ⟨b12, 1, none⟩ = some (.slice a 0 c) := X12.out.cell (k := 1) rfl
            have HO : Hid (R = .ok (p, hops)) := Lib.hid (by rw [HTG.out]; cases f <;> rfl)
            go_wp2_with (refine wpList_store_row rfl 55 (.tmp 8) (.tmp 60) rfl (b4 + 1) (stpA p (.slice a 0 c) hops) rfl rfl 55 _ X8.out (info55 _ rfl) rfl (stp_one _ _ _ _ _) ?_)
            exact bodyPost_ret (end_way2 rfl _ (X8.out.row (stpA p (.slice a 0 c) hops)) rfl rfl rfl) rfl ⟨below_row HB.out (by have := L4.out; omega) _, by rw [HO.out]; exact ⟨_, _, _, rfl⟩⟩
          | cons part rest =>
            obtain ⟨n, hn⟩ : ∃ n, n = rest.length := ⟨_, rfl⟩
            have d1 : wr.cell? ⟨b12, 1, none⟩ = some (.slice a (n + 1) c) := by rw [hn]; exact X12.out.cell (k := 1) rfl
            have HRS2 : Hid (RdS wr (.slice a (n + 1) c) (part :: rest)) := Lib.hid (by rw [hn]; exact HRS.out)
            have n1 : decide ((n : Int) + 1 > 0) = true := decide_eq_true (by omega)
            have n2 : (0 : Int) < (n : Int) + 1 := by omega
            have hmf := HK.out.f
            have hm1 : mM (part :: rest) hops = rest.length + 1 + (40 - hops) * 2001 := rfl
            obtain ⟨f, rfl⟩ : ∃ g, f = g + 1 := ⟨f - 1, by omega⟩
            have HPV := Lib.hid (HK.out.valid HT.out)
            have HPZ : Hid (p.length ≤ 2000000) := Lib.hid (by have := valid_len _ HPV.out; omega)
            have HPP := Lib.hid (HK.out.sh part (by simp))
            have HRL : Hid (rest.length ≤ 1000000) := Lib.hid (by omega)
            have HN := Lib.hid hn
            clear hmf hm1 hn
            cases hst : stepR l last p part rest hops with
            | error z =>
              have HST := Lib.hid hst
              have HO : Hid (R = .error z) := Lib.hid (by rw [HTG.out]; unfold goR; rw [hst])
              clear hst
              go_upto_region 11 with (first
                | (go_at_call 51; refine (rstep_any l tv p part rest (.slice a (n + 1) c) hops last wr (HV.out.on HB.out) HLL.out HRS2.out HPV.out HPZ.out HPP.out HRL.out hh HD.out).mono ?_; rw [HST.out]; rintro e w7 ⟨hb, hzz, y, a', n', c', k', rfl⟩; have HZ := Lib.hid hzz; have U8 := Lib.hid (X8.out.on hb); have UB := Lib.hid (bch HB.out hb); clear hb hzz d0 d1 d2 k0)
                | (with_reducible refine wpList_zero rfl 55 rfl stpZ zero55s ?_)
                | (refine wpList_store_row rfl 55 (.tmp 13) (.tmp 51) rfl w7.heap.size #[.string y, .slice a' n' c', .int .i64 k'] rfl rfl 55 stpZ box_new (info55 _ rfl) rfl (by simp [Value.oneCell']) ?_))
              have tz : (z != 0) = true := bne_iff_ne.2 HZ.out
              have V8 : Hid (Box ((w7.alloc (.cells stpZ 55)).setRow w7.heap.size #[.string y, .slice a' n' c', .int .i64 k']) (b4 + 1) 55 stpZ) := Lib.hid ((U8.out.alloc _).far_row (by have := U8.out.lt; omega) _)
              have VB : Hid (Below w.heap.size w ((w7.alloc (.cells stpZ 55)).setRow w7.heap.size #[.string y, .slice a' n' c', .int .i64 k'])) := Lib.hid (below_row (UB.out.alloc UB.out.size _) UB.out.size _)
              go_wp2_with (first
                | (with_reducible refine wpList_zero rfl 55 rfl stpZ zero55s ?_)
                | (refine wpList_store_row rfl 55 (.tmp 8) (.tmp 56) rfl (b4 + 1) stpZ rfl rfl 55 _ V8.out (info55 _ rfl) rfl stpZ_one ?_))
              exact bodyPost_ret (end_way2 rfl _ (V8.out.row stpZ) rfl rfl rfl) rfl ⟨below_row VB.out (by have := L4.out; omega) _, by rw [HO.out]; exact ⟨HZ.out, rfl⟩⟩
            | ok q =>
              obtain ⟨hk2, hlt2, hen, hh2⟩ := HK.out.next HT.out HD.out hst
              obtain ⟨p2, rest2, hops2, ended⟩ := q
              have HST := Lib.hid hst
              have HTG2 : Hid (R = if ended = true then .ok (p2, hops2) else goR l last f p2 rest2 hops2) := Lib.hid (by rw [HTG.out, goR_ok hst])
              have HK2 : Hid (GoK l last p2 rest2 hops2 f) := Lib.hid hk2
              have HLT : Hid (mM rest2 hops2 < mM (part :: rest) hops) := Lib.hid hlt2
              have hh3 : hops2 ≤ 40 := hh2
              clear hst hk2 hlt2 hen hh2 HTG
              go_upto_region 11 with (first
                | (go_at_call 51; refine (rstep_any l tv p part rest (.slice a (n + 1) c) hops last wr (HV.out.on HB.out) HLL.out HRS2.out HPV.out HPZ.out HPP.out HRL.out hh HD.out).mono ?_; rw [HST.out]; rintro e w7 ⟨hb, v2, rfl, hr2, hob⟩; obtain ⟨a2, c2, rfl, _, _⟩ := hr2.slice; have HN2 : Hid (∀ q, (Value.slice a2 rest2.length c2).ownBlock = some q → q ≠ b12) := Lib.hid (fun q hq => by rcases hob q hq with h1 | h1; exact HNB.out q (by rw [List.length_cons, ← HN.out]; exact h1); have := X12.out.lt; omega); clear hob; have UR := Lib.hid hr2; have U4 := Lib.hid (X4.out.on hb); have U8 := Lib.hid (X8.out.on hb); have U12 : Hid (Box w7 b12 55 (stpA p (.slice a (n + 1) c) hops)) := Lib.hid (by rw [HN.out]; exact X12.out.on hb); have UB := Lib.hid (bch HB.out hb); clear hb hr2 d0 d1 d2 k0)
                | (with_reducible refine wpList_zero rfl 55 rfl stpZ zero55s ?_)
                | (refine wpList_store_row rfl 55 (.tmp 13) (.tmp 51) rfl w7.heap.size (stpA p2 (.slice a2 rest2.length c2) hops2) rfl rfl 55 stpZ box_new (info55 _ rfl) rfl (stp_one _ _ _ _ _) ?_))
              obtain ⟨w8, hw8⟩ : ∃ q, q = ((w7.alloc (.cells stpZ 55)).setRow w7.heap.size (stpA p2 (.slice a2 rest2.length c2) hops2)) := ⟨_, rfl⟩
              obtain ⟨b13, hb13⟩ : ∃ q, q = w7.heap.size := ⟨_, rfl⟩
              have V4 : Hid (Box w8 b4 24 #[tv]) := Lib.hid (by rw [hw8]; exact (U4.out.alloc _).far_row (by have := U4.out.lt; omega) _)
              have V8 : Hid (Box w8 (b4 + 1) 55 stpZ) := Lib.hid (by rw [hw8]; exact (U8.out.alloc _).far_row (by have := U8.out.lt; omega) _)
              have V12 : Hid (Box w8 b12 55 (stpA p (.slice a (n + 1) c) hops)) := Lib.hid (by rw [hw8]; exact (U12.out.alloc _).far_row (by have := U12.out.lt; omega) _)
              have V13 : Hid (Box w8 b13 55 (stpA p2 (.slice a2 rest2.length c2) hops2)) := Lib.hid (by rw [hw8, hb13]; exact box_new.row _)
              have VB : Hid (Below w.heap.size w w8) := Lib.hid (by rw [hw8]; exact below_row (UB.out.alloc UB.out.size _) UB.out.size _)
              have VR : Hid (RdS w8 (.slice a2 rest2.length c2) rest2) := Lib.hid (by rw [hw8]; exact UR.out.below (below_row (below_new _ _) (Nat.le_refl _) _))
              rw [← hw8, ← hb13]
              clear hw8 hb13 U4 U8 U12 UB UR
              have e0 : w8.cell? ⟨b13, 0, none⟩ = some (.string ⟨p2.toArray⟩) := V13.out.cell (k := 0) rfl
              have e1 : w8.cell? ⟨b13, 1, none⟩ = some (.slice a2 rest2.length c2) := V13.out.cell (k := 1) rfl
              have e2 : w8.cell? ⟨b13, 2, none⟩ = some (.int .i64 (hops2 : Int)) := V13.out.cell (k := 2) rfl
              go_upto_region 14 with (refine wpList_store_row rfl 55 (.tmp 12) (.tmp 58) rfl b12 (stpA p2 (.slice a2 rest2.length c2) hops2) rfl rfl 55 _ V12.out (info55 _ rfl) rfl (stp_one _ _ _ _ _) ?_)
              obtain ⟨w9, hw9⟩ : ∃ q, q = w8.setRow b12 (stpA p2 (.slice a2 rest2.length c2) hops2) := ⟨_, rfl⟩
              have T4 : Hid (Box w9 b4 24 #[tv]) := Lib.hid (by rw [hw9]; exact V4.out.far_row (by have := L12.out; omega) _)
              have T8 : Hid (Box w9 (b4 + 1) 55 stpZ) := Lib.hid (by rw [hw9]; exact V8.out.far_row (by have := L12.out; omega) _)
              have T12 : Hid (Box w9 b12 55 (stpA p2 (.slice a2 rest2.length c2) hops2)) := Lib.hid (by rw [hw9]; exact V12.out.row _)
              have TB : Hid (Below w.heap.size w w9) := Lib.hid (by rw [hw9]; exact below_row VB.out (by have := L12.out; have := L4.out; omega) _)
              have TR : Hid (RdS w9 (.slice a2 rest2.length c2) rest2) := Lib.hid (by rw [hw9]; exact VR.out.far_row HN2.out _)
              rw [← hw9]
              clear hw9 V4 V8 V12 V13 VB VR e0 e1 e2
              have d0 : w9.cell? ⟨b12, 0, none⟩ = some (.string ⟨p2.toArray⟩) := T12.out.cell (k := 0) rfl
              have d1 : w9.cell? ⟨b12, 1, none⟩ = some (.slice a2 rest2.length c2) := T12.out.cell (k := 1) rfl
              have d2 : w9.cell? ⟨b12, 2, none⟩ = some (.int .i64 (hops2 : Int)) := T12.out.cell (k := 2) rfl
              cases ended with
              | true =>
                have HO : Hid (R = .ok (p2, hops2)) := Lib.hid (by rw [HTG2.out, if_pos rfl])
                go_wp2_with (refine wpList_store_row rfl 55 (.tmp 8) (.tmp 60) rfl (b4 + 1) (stpA p2 (.slice a2 rest2.length c2) hops2) rfl rfl 55 _ T8.out (info55 _ rfl) rfl (stp_one _ _ _ _ _) ?_)
                exact bodyPost_ret (end_way2 rfl _ (T8.out.row (stpA p2 (.slice a2 rest2.length c2) hops2)) rfl rfl rfl) rfl ⟨below_row TB.out (by have := L4.out; omega) _, by rw [HO.out]; exact ⟨_, _, _, rfl⟩⟩
              | false =>
                have HO : Hid (R = goR l last f p2 rest2 hops2) := Lib.hid (by rw [HTG2.out, if_neg (by decide)])
                have HMN := Lib.hid (way_len T12.out)
                go_wp2_with fail
                go_roundw
                case rel => exact ⟨p2, rest2, hops2, f, a2, c2, T12, TR, HN2, HK2, HO, by omega, hh3, T4, T8, TB⟩
                case measure =>
                  rw [HMN.out.1, HMN.out.2, HMW.out.1, HMW.out.2]
                  exact HLT.out
      · have q1 : (gx.kind != 1) = true := by simp [hk]
        have HO : Hid (R = .error 161) := Lib.hid (by rw [HRJ.out, if_neg (by decide), if_pos hk])
        clear hk
        go_wp2_with (first
          | (with_reducible refine wpList_zero rfl 55 rfl stpZ zero55s ?_)
          | (refine wpList_store_row rfl 55 (.tmp 8) (.tmp 35) rfl (b4 + 1) stpZ rfl rfl 55 _ V8.out (info55 _ rfl) rfl stpZ_one ?_))
        exact bodyPost_ret (end_way2 rfl _ (V8.out.row stpZ) rfl rfl rfl) rfl ⟨below_row B4.out (by have := L4.out; omega) _, by rw [HO.out]; exact ⟨by decide, rfl⟩⟩
end Go.Proofs.YtiakedoebecgpaaDoor

namespace Go.Proofs.YtiakedoebecgpaaDoor
open Go.RowKit Go.Shelf

/-- Goes, by where a text leads. -/
def GoesL (M : Except Int (It × Nat)) (w : World) (e : Ending) (w' : World) : Prop := Below w.heap.size w w' ∧ match M with
  | .error z => z ≠ 0 ∧ e = .returned (.tuple #[.agg stpZ, .int .i64 z])
  | .ok r => ∃ (a : Option Addr) (n c : Nat), e = .returned (.tuple #[.agg (stpA r.1.path (.slice a n c) r.2), .int .i64 0])
theorem rgoesl_any (l : List It) (tv : Value) (at_ s : Str) (last : Bool) (w : World) (hv : RdI w tv l) (hl : l.length ≤ 1000000) (h : TreeOk l) (hz : at_.length ≤ 2000000) (hs : s.length ≤ 2000) (hd : ∀ x ∈ l, x.data.length ≤ 2000000) :
    Calls Tryd.prog 26 #[.agg #[tv], .string ⟨at_.toArray⟩, .string ⟨s.toArray⟩, .bool last] w (GoesL (leadM l at_ s last) w) :=
  (rgoes_any l tv at_ s last w hv hl h hz hs hd).mono (by
    rintro e w' ⟨hb, hq⟩
    refine ⟨hb, ?_⟩
    rw [goes_lead h] at hq
    cases hm : leadM l at_ s last with
    | error z => rw [hm] at hq; exact hq
    | ok r => rw [hm] at hq; exact hq)
theorem lead_here {l : List It} (h : TreeOk l) {at_ s : Str} {last : Bool} {x : It} {n : Nat} (hm : leadM l at_ s last = .ok (x, n)) : Here l x := by
  unfold leadM at hm
  split at hm
  · cases hm
  · cases hg : getI l at_ with
    | none => rw [hg] at hm; cases hm
    | some y =>
      rw [hg] at hm
      simp only at hm
      split at hm
      · cases hm
      · rename_i hk
        exact (go_stands h 90000 (begin_stand hg (by simpa using hk) last s (cutP s)) hm).1
/-- Resolve, by where a text leads. -/
def ResL (M : Except Int (It × Nat)) (w : World) (e : Ending) (w' : World) : Prop := Below w.heap.size w w' ∧ match M with
  | .error z => z ≠ 0 ∧ e = .returned (.tuple #[.agg It.nil.arr, .int .i64 z])
  | .ok r => e = .returned (.tuple #[.agg r.1.arr, .int .i64 0])

set_option maxRecDepth 100000 in
set_option maxHeartbeats 8000000 in
theorem rres_any (l : List It) (tv : Value) (at_ s : Str) (last : Bool) (w : World) (hv : RdI w tv l) (hl : l.length ≤ 1000000) (h : TreeOk l) (hz : at_.length ≤ 2000000) (hs : s.length ≤ 2000) (hd : ∀ x ∈ l, x.data.length ≤ 2000000) :
    Calls Tryd.prog 24 #[.agg #[tv], .string ⟨at_.toArray⟩, .string ⟨s.toArray⟩, .bool last] w (ResL (leadM l at_ s last) w) := by
  obtain ⟨w1, hw1⟩ : ∃ q, q = (w.alloc (.cells #[tv] 24)).alloc (.cells #[.string ⟨#[]⟩, .int .i64 0, .string ⟨#[]⟩] 35) := ⟨_, rfl⟩
  obtain ⟨b4, hb4⟩ : ∃ q, q = w.heap.size := ⟨_, rfl⟩
  have X4 : Hid (Box w1 b4 24 #[tv]) := Lib.hid (by rw [hw1, hb4]; exact box_new.alloc _)
  have X8 : Hid (Box w1 (b4 + 1) 35 It.nil.arr) := Lib.hid (by rw [hw1, hb4, show w.heap.size + 1 = (w.alloc (.cells #[tv] 24)).heap.size from by simp]; exact box_new)
  have B1 : Hid (Below w.heap.size w w1) := Lib.hid (by rw [hw1]; exact bch (below_new _ _) (below_new _ _))
  have L4 : Hid (w.heap.size ≤ b4) := Lib.hid (by omega)
  have HV := Lib.hid hv
  have HT := Lib.hid h
  have HLL := Lib.hid hl
  have HGO := Lib.hid (rgoesl_any l tv at_ s last w1 (hv.on B1.out) hl h hz hs hd)
  have k0 : w1.cell? ⟨b4, 0, none⟩ = some tv := X4.out.cell (k := 0) rfl
  clear hv h hd hl
  go_enter Tryd.func24, Tryd.ntmps24
  go_upto_region 1 with fail
  rw [← hw1, ← hb4]
  clear hw1 hb4
  cases hm : leadM l at_ s last with
  | error z =>
    rw [hm] at HGO
    have HM := Lib.hid hm
    clear hm
    go_upto_region 2 with (first
      | (go_at_call 26; refine HGO.out.mono ?_; rintro e w2 ⟨hb, hzz, rfl⟩; have HZ := Lib.hid hzz; have Y8 := Lib.hid (X8.out.on hb); have B2 := Lib.hid (bch B1.out hb); clear hb hzz k0)
      | (with_reducible refine wpList_zero rfl 55 rfl stpZ zero55s ?_)
      | (refine wpList_store_row rfl 55 (.tmp 10) (.tmp 20) rfl w2.heap.size stpZ rfl rfl 55 stpZ box_new (info55 _ rfl) rfl stpZ_one ?_))
    have tz : (z != 0) = true := bne_iff_ne.2 HZ.out
    have V8 : Hid (Box ((w2.alloc (.cells stpZ 55)).setRow w2.heap.size stpZ) (b4 + 1) 35 It.nil.arr) := Lib.hid ((Y8.out.alloc _).far_row (by have := Y8.out.lt; omega) _)
    have VB : Hid (Below w.heap.size w ((w2.alloc (.cells stpZ 55)).setRow w2.heap.size stpZ)) := Lib.hid (below_row (B2.out.alloc B2.out.size _) B2.out.size _)
    go_wp2_with (first
      | (with_reducible refine wpList_zero rfl 35 rfl It.nil.arr zero35 ?_)
      | (refine wpList_store_row rfl 35 (.tmp 8) (.tmp 24) rfl (b4 + 1) It.nil.arr rfl rfl 35 _ V8.out (info35 _) rfl (iarr_one _) ?_))
    exact bodyPost_ret (end_item rfl _ (V8.out.row It.nil.arr) rfl rfl) rfl ⟨below_row VB.out (by have := L4.out; omega) _, by rw [HM.out]; exact ⟨HZ.out, rfl⟩⟩
  | ok r =>
    obtain ⟨x, hops⟩ := r
    have HG : Hid (refG l x.path = (x, true)) := Lib.hid (by rw [refG_get, (lead_here HT.out hm).get HT.out])
    have HGE : Hid (∀ W : World, Below w.heap.size w W → Calls Tryd.prog 47 #[.agg #[tv], .string ⟨x.path.toArray⟩] W fun e w' => e = .returned (.tuple #[.agg x.arr, .bool true]) ∧ Below W.heap.size W w') := Lib.hid (fun W hW => by
      have := rget_any l tv ⟨x.path.toArray⟩ W (HV.out.on hW) HLL.out
      rw [show refG l (⟨x.path.toArray⟩ : ByteArray).data.toList = (x, true) from HG.out] at this
      exact this)
    rw [hm] at HGO
    have HM := Lib.hid hm
    clear hm
    go_upto_region 2 with (first
      | (go_at_call 26; refine HGO.out.mono ?_; rintro e w2 ⟨hb, a2, n2, c2, rfl⟩; have Y4 := Lib.hid (X4.out.on hb); have Y8 := Lib.hid (X8.out.on hb); have B2 := Lib.hid (bch B1.out hb); clear hb k0)
      | (with_reducible refine wpList_zero rfl 55 rfl stpZ zero55s ?_)
      | (refine wpList_store_row rfl 55 (.tmp 10) (.tmp 20) rfl w2.heap.size (stpA x.path (.slice a2 n2 c2) hops) rfl rfl 55 stpZ box_new (info55 _ rfl) rfl (stp_one _ _ _ _ _) ?_))
    obtain ⟨w3, hw3⟩ : ∃ q, q = ((w2.alloc (.cells stpZ 55)).setRow w2.heap.size (stpA x.path (.slice a2 n2 c2) hops)) := ⟨_, rfl⟩
    obtain ⟨b10, hb10⟩ : ∃ q, q = w2.heap.size := ⟨_, rfl⟩
    have V4 : Hid (Box w3 b4 24 #[tv]) := Lib.hid (by rw [hw3]; exact (Y4.out.alloc _).far_row (by have := Y4.out.lt; omega) _)
    have V8 : Hid (Box w3 (b4 + 1) 35 It.nil.arr) := Lib.hid (by rw [hw3]; exact (Y8.out.alloc _).far_row (by have := Y8.out.lt; omega) _)
    have V10 : Hid (Box w3 b10 55 (stpA x.path (.slice a2 n2 c2) hops)) := Lib.hid (by rw [hw3, hb10]; exact box_new.row _)
    have VB : Hid (Below w.heap.size w w3) := Lib.hid (by rw [hw3]; exact below_row (B2.out.alloc B2.out.size _) B2.out.size _)
    rw [← hw3, ← hb10]
    clear hw3 hb10 Y4 Y8 B2
    have k0 : w3.cell? ⟨b4, 0, none⟩ = some tv := V4.out.cell (k := 0) rfl
    have d0 : w3.cell? ⟨b10, 0, none⟩ = some (.string ⟨x.path.toArray⟩) := V10.out.cell (k := 0) rfl
    go_upto_region 5 with (first
      | (go_at_call 47; refine (HGE.out _ VB.out).mono ?_; rintro e w4 ⟨rfl, hb⟩; have U8 := Lib.hid (V8.out.on hb); have UB := Lib.hid (bch VB.out hb); clear hb k0 d0)
      | (with_reducible refine wpList_zero rfl 35 rfl It.nil.arr zero35 ?_)
      | (refine wpList_store_row rfl 35 (.tmp 12) (.tmp 31) rfl w4.heap.size x.arr rfl rfl 35 It.nil.arr box_new (info35 _) rfl (iarr_one _) ?_))
    have T8 : Hid (Box ((w4.alloc (.cells #[.string ⟨#[]⟩, .int .i64 0, .string ⟨#[]⟩] 35)).setRow w4.heap.size x.arr) (b4 + 1) 35 It.nil.arr) := Lib.hid ((U8.out.alloc _).far_row (by have := U8.out.lt; omega) _)
    have TB : Hid (Below w.heap.size w ((w4.alloc (.cells #[.string ⟨#[]⟩, .int .i64 0, .string ⟨#[]⟩] 35)).setRow w4.heap.size x.arr)) := Lib.hid (below_row (UB.out.alloc UB.out.size _) UB.out.size _)
    have T12 : Hid (Box ((w4.alloc (.cells #[.string ⟨#[]⟩, .int .i64 0, .string ⟨#[]⟩] 35)).setRow w4.heap.size x.arr) w4.heap.size 35 x.arr) := Lib.hid (box_new.row _)
    obtain ⟨w5, hw5⟩ : ∃ q, q = ((w4.alloc (.cells #[.string ⟨#[]⟩, .int .i64 0, .string ⟨#[]⟩] 35)).setRow w4.heap.size x.arr) := ⟨_, rfl⟩
    rw [← hw5] at T8 TB T12 ⊢
    clear hw5
    obtain ⟨d0, d1, d2⟩ := T12.out.it
    go_wp2_with (first
      | (refine wpList_load_row rfl 35 (.tmp 12) rfl w4.heap.size rfl 35 x.arr (0, 0) _ T12.out Tryd.underlying35 rfl (info35 _) ?_)
      | (refine wpList_store_row rfl 35 (.tmp 8) (.tmp 33) rfl (b4 + 1) x.arr rfl rfl 35 _ T8.out (info35 _) rfl (iarr_one _) ?_))
    exact bodyPost_ret (end_item rfl _ (T8.out.row x.arr) rfl rfl) rfl ⟨below_row TB.out (by have := L4.out; omega) _, by rw [HM.out]; rfl⟩
end Go.Proofs.YtiakedoebecgpaaDoor

namespace Go.Proofs.YtiakedoebecgpaaDoor
open Go.RowKit Go.Shelf

def LkQ (R : Except Int (Nat × It)) (w : World) (e : Ending) (w' : World) : Prop := Below w.heap.size w w' ∧ match R with
  | .error _ => e = .returned (.tuple #[.int .i64 (-1), .agg It.nil.arr])
  | .ok r => e = .returned (.tuple #[.int .i64 r.1, .agg r.2.arr])
def errM : Except Int (It × Nat) → Int
  | .error z => z
  | .ok _ => 0
def itM : Except Int (It × Nat) → It
  | .error _ => .nil
  | .ok r => r.1
theorem ResL.flat {M : Except Int (It × Nat)} {w w' : World} {e : Ending} (h : ResL M w e w') : e = .returned (.tuple #[.agg (itM M).arr, .int .i64 (errM M)]) ∧ Below w.heap.size w w' ∧ (∀ z, M = .error z → z ≠ 0) := by
  obtain ⟨hb, hq⟩ := h
  cases M with
  | error z => exact ⟨hq.2, hb, fun y hy => by cases hy; exact hq.1⟩
  | ok r => exact ⟨hq, hb, fun y hy => by cases hy⟩
theorem results_low {P : Program} {fn : Func} {p q : Tmp} {ty : TypeId} (h : fn.results = #[.tmp p, .cell q ty]) (tmps : Array Value) (w : World) (g : Nat) (hp : tmps.getD q undef = .pointer (some ⟨g, 0, none⟩)) (cs : Array Value) (hr : (loadVar ty ⟨g, 0, none⟩).run P w = .ok (.agg cs) w) :
    (results fn tmps).run P w = .ok (.tuple #[tmps.getD p undef, .agg cs]) w := by
  have e : tmps[q]?.getD undef = .pointer (some ⟨g, 0, none⟩) := by rw [← hp]; simp
  simp [results, h, e, asAddr, hr]
theorem end_low {fn : Func} {p q : Tmp} (h : fn.results = #[.tmp p, .cell q 35]) (tmps : Array Value) {w : World} {g : Nat} {y : It} (X : Box w g 35 y.arr) (hp : tmps.getD q undef = .pointer (some ⟨g, 0, none⟩)) {u : Value} (hu : tmps.getD p undef = u) :
    (results fn tmps).run Tryd.prog w = .ok (.tuple #[u, .agg y.arr]) w := by
  rw [← hu]
  exact results_low h tmps w g hp y.arr (run_loadVar_row _ g 35 35 y.arr (0, 0) _ X Tryd.underlying35 rfl (info35 _))

set_option maxRecDepth 100000 in
set_option maxHeartbeats 8000000 in
theorem rlook_any (l : List It) (tv : Value) (ds : List Str) (dv : Value) (s : Str) (w : World) (hv : RdI w tv l) (hl : l.length ≤ 1000000) (h : TreeOk l) (hs : s.length ≤ 2000) (hi : ∀ x ∈ l, x.data.length ≤ 2000000) (hd : RdS w dv ds) (hdl : ds.length ≤ 1000000) (hds : ∀ x ∈ ds, x.length ≤ 2000000) :
    Calls Tryd.prog 28 #[.agg #[tv], dv, .string ⟨s.toArray⟩] w (LkQ (lookF l s ds 0) w) := by
  obtain ⟨w1, hw1⟩ : ∃ z, z = (w.alloc (.cells #[tv] 24)).alloc (.cells #[.string ⟨#[]⟩, .int .i64 0, .string ⟨#[]⟩] 35) := ⟨_, rfl⟩
  obtain ⟨b3, hb3⟩ : ∃ z, z = w.heap.size := ⟨_, rfl⟩
  have X3 : Hid (Box w1 b3 24 #[tv]) := Lib.hid (by rw [hw1, hb3]; exact box_new.alloc _)
  have X7 : Hid (Box w1 (b3 + 1) 35 It.nil.arr) := Lib.hid (by rw [hw1, hb3, show w.heap.size + 1 = (w.alloc (.cells #[tv] 24)).heap.size from by simp]; exact box_new)
  have HB1 : Hid (Below w.heap.size w w1) := Lib.hid (by rw [hw1]; exact bch (below_new _ _) (below_new _ _))
  have L3 : Hid (w.heap.size ≤ b3 + 1) := Lib.hid (by omega)
  have HV := Lib.hid hv
  have HT := Lib.hid h
  have HI := Lib.hid hi
  have HLL := Lib.hid hl
  have HDS := Lib.hid hds
  have HDL := Lib.hid hdl
  have HSL := Lib.hid hs
  obtain ⟨R, hR⟩ : ∃ R, R = lookF l s ds 0 := ⟨_, rfl⟩
  rw [← hR]
  have HR := Lib.hid hR
  have HD0 := Lib.hid hd
  have HD1 := Lib.hid (hd.below HB1.out)
  have hdi : (ds.length : Int) ≤ 1000000 := by omega
  obtain ⟨da, dc, hdv, hdc, hdm, _⟩ := id hd
  subst hdv
  clear hR hv h hi hl hds hdl hs hd
  go_enter Tryd.func28, Tryd.ntmps28
  go_upto_region 1 with fail
  rw [← hw1, ← hb3]
  clear hw1 hb3
  go_wp2_with fail
  go_loopw [8, 9, 10, 11, 14, 15, 16, 17, 18, 19, 20, 21, 22, 23, 24, 25, 26, 27, 30] (fun _ _ _ _ i _ _ _ _ _ _ _ _ _ _ _ _ _ _ W => ∃ k : Nat, k ≤ ds.length ∧ i = .int .i64 k ∧ Hid (lookF l s (ds.drop k) k = R) ∧ Hid (Box W b3 24 #[tv]) ∧ Hid (Box W (b3 + 1) 35 It.nil.arr) ∧ Hid (Below w.heap.size w W) ∧ Hid (RdS W (.slice da ds.length dc) ds)) (fun _ _ _ _ i _ _ _ _ _ _ _ _ _ _ _ _ _ _ _ => ds.length - (Lib.intOf i).toNat)
  case atStart => exact ⟨0, Nat.zero_le _, rfl, Lib.hid (by rw [List.drop_zero]; exact HR.out.symm), X3, X7, HB1, HD1⟩
  case round =>
    clear X3 X7 HB1 HD1
    obtain ⟨k, hk, rfl, HK, Y3, Y7, HB, HD⟩ := hrel
    obtain ⟨wq, hwq⟩ : ∃ q, q = wr := ⟨_, rfl⟩
    rw [← hwq] at Y3 Y7 HB HD ⊢
    clear hwq
    by_cases hlt : k < ds.length
    · obtain ⟨x, hx⟩ : ∃ x, ds[k]? = some x := ⟨_, List.getElem?_eq_getElem hlt⟩
      obtain ⟨da', dc', e, _, _, hcell⟩ := HD.out
      cases e
      obtain ⟨gg, o, rfl, hgg, hc⟩ := hcell (by omega)
      have q0 : wq.cell? ⟨gg, o + k, none⟩ = some (.string ⟨x.toArray⟩) := hc k x hx
      have k0 : wq.cell? ⟨b3, 0, none⟩ = some tv := Y3.out.cell (k := 0) rfl
      have hdrop : ds.drop k = x :: ds.drop (k + 1) := by
        rw [List.drop_eq_getElem_cons hlt]
        have := List.getElem?_eq_getElem hlt
        rw [hx] at this
        cases this; rfl
      have HK2 : Hid ((match leadM l x s true with
        | .ok r => .ok (k, r.1)
        | .error _ => lookF l s (ds.drop (k + 1)) (k + 1)) = R) := Lib.hid (by have := HK.out; rw [hdrop] at this; exact this)
      have k1 : (k : Int) < (ds.length : Int) := by omega
      have k2 : (0 : Int) ≤ (k : Int) := by omega
      have k4 : IntKind.i64.wrap ((k : Int) + 1) = (k : Int) + 1 := IntWalk.i64_in _ (by omega)
      have HCL : Hid (Calls Tryd.prog 24 #[.agg #[tv], .string ⟨x.toArray⟩, .string ⟨s.toArray⟩, .bool true] wq (ResL (leadM l x s true) wq)) := Lib.hid (rres_any l tv x s true wq (HV.out.on HB.out) HLL.out HT.out (HDS.out x (List.mem_of_getElem? hx)) HSL.out HI.out)
      clear hx hc hcell hdrop HK
      go_upto_region 4 with fail
      go_upto_region 5 with (first
        | (go_at_call 24; refine HCL.out.mono ?_; intro e w2 hq; obtain ⟨rfl, hb, hz⟩ := hq.flat; have HZ := Lib.hid hz; have U3 := Lib.hid (Y3.out.on hb); have U7 := Lib.hid (Y7.out.on hb); have B2 := Lib.hid (bch HB.out hb); have D2 := Lib.hid (HD.out.below hb); clear hb hq hz k0 q0)
        | (with_reducible refine wpList_zero rfl 35 rfl It.nil.arr zero35 ?_)
        | (refine wpList_store_row rfl 35 (.tmp 10) (.tmp 24) rfl w2.heap.size (itM (leadM l x s true)).arr rfl rfl 35 It.nil.arr box_new (info35 _) rfl (iarr_one _) ?_))
      obtain ⟨M, hM⟩ : ∃ M, M = leadM l x s true := ⟨_, rfl⟩
      have HK3 := HK2.out
      rw [← hM] at HZ HK3 ⊢
      have HK4 := Lib.hid HK3
      obtain ⟨y, hy⟩ : ∃ y, y = itM M := ⟨_, rfl⟩
      have HY := Lib.hid hy
      obtain ⟨E, hE⟩ : ∃ E, E = errM M := ⟨_, rfl⟩
      have HE := Lib.hid hE
      rw [← hy, ← hE]
      obtain ⟨w3, hw3⟩ : ∃ q, q = ((w2.alloc (.cells #[.string ⟨#[]⟩, .int .i64 0, .string ⟨#[]⟩] 35)).setRow w2.heap.size y.arr) := ⟨_, rfl⟩
      obtain ⟨b10, hb10⟩ : ∃ q, q = w2.heap.size := ⟨_, rfl⟩
      have V3 : Hid (Box w3 b3 24 #[tv]) := Lib.hid (by rw [hw3]; exact (U3.out.alloc _).far_row (by have := U3.out.lt; omega) _)
      have V7 : Hid (Box w3 (b3 + 1) 35 It.nil.arr) := Lib.hid (by rw [hw3]; exact (U7.out.alloc _).far_row (by have := U7.out.lt; omega) _)
      have V10 : Hid (Box w3 b10 35 y.arr) := Lib.hid (by rw [hw3, hb10]; exact box_new.row _)
      have VB : Hid (Below w.heap.size w w3) := Lib.hid (by rw [hw3]; exact below_row (B2.out.alloc B2.out.size _) B2.out.size _)
      have VD : Hid (RdS w3 (.slice (some ⟨gg, o, none⟩) ds.length dc) ds) := Lib.hid (HD0.out.below VB.out)
      rw [← hw3, ← hb10]
      clear hw3 hb10 U3 U7 B2 D2 HK2 HK3 HCL Y3 Y7 HB HD hM hy hE
      cases M with
      | error z =>
        have hz : E ≠ 0 := by rw [HE.out]; exact HZ.out z rfl
        have t1 : (E == 0) = false := by simp [hz]
        clear hz
        go_wp2_with fail
        go_roundw
        case rel => exact ⟨k + 1, hlt, by go_num, HK4, V3, V7, VB, VD⟩
        case measure => simp [Lib.intOf]; omega
      | ok r =>
        have hz : E = 0 := HE.out
        subst hz
        have HK5 : Hid (R = .ok (k, r.1)) := Lib.hid HK4.out.symm
        go_upto_region 6 with fail
        have c0 : w3.cell? ⟨b10, 0, none⟩ = some (.string ⟨y.path.toArray⟩) := V10.out.cell (k := 0) rfl
        have c1 : w3.cell? ⟨b10, 1, none⟩ = some (.int .i64 y.kind) := V10.out.cell (k := 1) rfl
        have c2 : w3.cell? ⟨b10, 2, none⟩ = some (.string ⟨y.data.toArray⟩) := V10.out.cell (k := 2) rfl
        have d0 : w3.cell? ⟨b3 + 1, 0, none⟩ = some (.string ⟨#[]⟩) := V7.out.cell (k := 0) rfl
        have d1 : w3.cell? ⟨b3 + 1, 1, none⟩ = some (.int .i64 0) := V7.out.cell (k := 1) rfl
        have d2 : w3.cell? ⟨b3 + 1, 2, none⟩ = some (.string ⟨#[]⟩) := V7.out.cell (k := 2) rfl
        have f0 : w3.frozen? ⟨b3 + 1, 0, none⟩ = false := Option.some.inj (V7.out.free (k := 0))
        have f1 : w3.frozen? ⟨b3 + 1, 1, none⟩ = false := Option.some.inj (V7.out.free (k := 1))
        have f2 : w3.frozen? ⟨b3 + 1, 2, none⟩ = false := Option.some.inj (V7.out.free (k := 2))
        go_region
        have X7 : Hid (Box ((((w3.setCell ⟨b3 + 1, 0, none⟩ (.string ⟨y.path.toArray⟩)).setCell ⟨b3 + 1, 1, none⟩ (.int .i64 y.kind)).setCell ⟨b3 + 1, 2, none⟩ (.string ⟨y.data.toArray⟩)).drew) (b3 + 1) 35 y.arr) := Lib.hid (((V7.out.set (k := 0) (.string ⟨y.path.toArray⟩)).set (k := 1) (.int .i64 y.kind)).set (k := 2) (.string ⟨y.data.toArray⟩)).drew
        have HB7' : Hid (Below w.heap.size w ((((w3.setCell ⟨b3 + 1, 0, none⟩ (.string ⟨y.path.toArray⟩)).setCell ⟨b3 + 1, 1, none⟩ (.int .i64 y.kind)).setCell ⟨b3 + 1, 2, none⟩ (.string ⟨y.data.toArray⟩)).drew)) := Lib.hid (((VB.out.setCell (p := ⟨b3 + 1, 0, none⟩) L3.out _).setCell (p := ⟨b3 + 1, 1, none⟩) L3.out _).setCell (p := ⟨b3 + 1, 2, none⟩) L3.out _).drew
        clear d0 d1 d2 f0 f1 f2 c0 c1 c2
        go_wp2_with fail
        exact bodyPost_ret (end_low rfl _ X7.out rfl rfl) rfl ⟨HB7'.out, by rw [HK5.out]; show _ = Ending.returned (.tuple #[.int .i64 k, .agg r.1.arr]); rw [show r.1 = y from HY.out.symm]; rfl⟩
    · have k1 : ¬ ((k : Int) < (ds.length : Int)) := by omega
      have hkn : k = ds.length := by omega
      subst hkn
      have HK5 : Hid (R = .error 4) := Lib.hid (by
        have := HK.out
        rw [List.drop_length] at this
        rw [← this]; rfl)
      go_wp2_with (first
        | (with_reducible refine wpList_zero rfl 35 rfl It.nil.arr zero35 ?_)
        | (refine wpList_store_row rfl 35 (.tmp 7) (.tmp 31) rfl (b3 + 1) It.nil.arr rfl rfl 35 _ Y7.out (info35 _) rfl (iarr_one _) ?_))
      exact bodyPost_ret (end_low rfl _ (Y7.out.row _) rfl rfl) rfl ⟨below_row HB.out L3.out _, by rw [HK5.out]; rfl⟩
end Go.Proofs.YtiakedoebecgpaaDoor

namespace Go.Proofs.YtiakedoebecgpaaDoor
open Go.RowKit Go.Shelf

theorem lookF_ok {l : List It} {s : Str} : ∀ {ds : List Str} {k i : Nat} {x : It}, lookF l s ds k = .ok (i, x) → k ≤ i ∧ i - k < ds.length ∧ (∀ j d, ds[j]? = some d → j + k < i → ∃ z, leadM l d s true = .error z) ∧ ∀ d, ds[i - k]? = some d → ∃ n, leadM l d s true = .ok (x, n)
  | [], k, i, x, h => by cases h
  | d0 :: ds, k, i, x, h => by
    unfold lookF at h
    cases e : leadM l d0 s true with
    | ok r =>
      rw [e] at h
      simp only [Except.ok.injEq, Prod.mk.injEq] at h
      obtain ⟨rfl, rfl⟩ := h
      refine ⟨Nat.le_refl _, by simp, fun j d hj hlt => by omega, fun d hd => ?_⟩
      rw [Nat.sub_self] at hd
      cases hd
      exact ⟨r.2, e⟩
    | error z =>
      rw [e] at h
      obtain ⟨h1, h2, h3, h4⟩ := lookF_ok h
      refine ⟨by omega, by rw [List.length_cons]; omega, fun j d hj hlt => ?_, fun d hd => ?_⟩
      · cases j with
        | zero => cases hj; exact ⟨z, e⟩
        | succ j => exact h3 j d hj (by omega)
      · rw [show i - k = (i - (k + 1)) + 1 by omega] at hd
        exact h4 d hd
theorem lookF_err {l : List It} {s : Str} : ∀ {ds : List Str} {k : Nat} {z : Int}, lookF l s ds k = .error z → z = 4 ∧ ∀ d ∈ ds, ∃ y, leadM l d s true = .error y
  | [], k, z, h => by cases h; exact ⟨rfl, fun d hd => by cases hd⟩
  | d0 :: ds, k, z, h => by
    unfold lookF at h
    cases e : leadM l d0 s true with
    | ok r => rw [e] at h; cases h
    | error y =>
      rw [e] at h
      obtain ⟨h1, h2⟩ := lookF_err h
      refine ⟨h1, fun d hd => ?_⟩
      rcases List.mem_cons.1 hd with rfl | hd
      · exact ⟨y, e⟩
      · exact h2 d hd
/-- The first place, one further on. -/
def oneOn : Except Int (Nat × It) → Except Int (Nat × It)
  | .ok r => .ok (r.1 + 1, r.2)
  | .error z => .error z
theorem lookF_succ (l : List It) (s : Str) : ∀ (ds : List Str) (k : Nat), lookF l s ds (k + 1) = oneOn (lookF l s ds k)
  | [], _ => rfl
  | d0 :: ds, k => by
    unfold lookF
    cases e : leadM l d0 s true with
    | ok r => rfl
    | error z => exact lookF_succ l s ds (k + 1)
def noPath : Str := [110, 111, 32, 112, 97, 116, 104]
theorem noPath_bad : validB noPath = false := by decide
theorem look_more (l : List It) (ds : List Str) (s : Str) : lookM l (noPath :: ds) s = oneOn (lookM l ds s) := by
  unfold lookM
  split
  · rfl
  · split
    · rfl
    · rw [← lookF_succ]
      have : leadM l noPath s true = .error 110 := by
        unfold leadM
        rw [if_pos noPath_bad]
      rw [lookF, this]
/-- What a round of the law finds. -/
def RoundOk (E I : Int) (y : It) (k : Nat) (r : Except Int (It × Nat)) : Prop :=
  (E ≠ 0 ∧ I = -1 ∧ ∃ z, r = .error z) ∨ (E = 0 ∧ (k : Int) < I ∧ ∃ z, r = .error z) ∨ (E = 0 ∧ (k : Int) = I ∧ ∃ n, r = .ok (y, n)) ∨ (E = 0 ∧ I < (k : Int))
theorem look_rounds {l : List It} {ds : List Str} {s : Str} {R : Except Int (Nat × It)} (h : lookM l ds s = R) (hR : R = .error 4 ∨ ∃ r, R = .ok r) :
    ∀ k d, ds[k]? = some d → RoundOk (errL R) (placeL R) (itL R) k (walkM l d s true) := by
  intro k d hd
  have hw : lookM l ds s = lookF l s ds 0 ∧ walkM l d s true = leadM l d s true := by
    unfold lookM at h ⊢
    unfold walkM
    cases hv : validT l with
    | false => rw [hv, if_pos rfl] at h; rcases hR with h4 | ⟨r, h4⟩ <;> rw [h4] at h <;> cases h
    | true =>
      rw [hv, if_neg (by decide)] at h
      by_cases hs : 2000 < s.length
      · rw [if_pos hs] at h; rcases hR with h4 | ⟨r, h4⟩ <;> rw [h4] at h <;> cases h
      · rw [if_neg (by decide), if_neg hs, if_neg (by decide), if_neg hs]; exact ⟨rfl, rfl⟩
  rw [hw.2]
  rw [hw.1] at h
  rcases hR with rfl | ⟨⟨i, x⟩, rfl⟩
  · exact .inl ⟨by decide, rfl, (lookF_err h).2 d (List.mem_of_getElem? hd)⟩
  · obtain ⟨-, h2, h3, h4⟩ := lookF_ok h
    rcases Nat.lt_trichotomy k i with hlt | rfl | hgt
    · exact .inr (.inl ⟨rfl, by show (k : Int) < (i : Int); omega, h3 k d hd (by omega)⟩)
    · exact .inr (.inr (.inl ⟨rfl, rfl, h4 d (by rw [Nat.sub_zero]; exact hd)⟩))
    · exact .inr (.inr (.inr ⟨rfl, by show (i : Int) < (k : Int); omega⟩))
theorem look_place {l : List It} {ds : List Str} {s : Str} {i : Nat} {x : It} (h : lookM l ds s = .ok (i, x)) : i < ds.length := by
  unfold lookM at h
  split at h
  · cases h
  · split at h
    · cases h
    · have := (lookF_ok h).2.1; omega
theorem look_ne {l : List It} {ds : List Str} {s : Str} {z : Int} (h : lookM l ds s = .error z) : z ≠ 0 := by
  unfold lookM at h
  split at h
  · cases h; decide
  · split at h
    · cases h; decide
    · rw [(lookF_err h).1]; decide

theorem txt_of (ds : List Str) : txt (ds.map fun x => (⟨x.toArray⟩ : ByteArray)) = ds := by
  unfold txt
  rw [List.map_map]
  induction ds with
  | nil => rfl
  | cons d ds ih => rw [List.map_cons, ih]; simp
theorem cut7_any (ds : List Str) (dv : Value) (w : World) (hd : RdS w dv ds) (hs : ∀ x ∈ ds, x.length ≤ 140737488355328) :
    Calls Tryd.prog 22 #[dv] w fun e w' => ∃ v, e = .returned v ∧ w'.ownsRow w.heap.size 9 1 v (fewL ds).length ((fewL ds).map encS) ∧ Below w.heap.size w w' := by
  obtain ⟨a, cap, rfl, h1, h2, h3⟩ := hd
  rcases Nat.eq_zero_or_pos ds.length with h0 | h0
  · have : ds = [] := List.eq_nil_of_length_eq_zero h0
    subst this
    exact few_none a cap h2 w
  · obtain ⟨g, o, rfl, hg, hc⟩ := h3 h0
    have hl : (ds.map fun x => (⟨x.toArray⟩ : ByteArray)).length = ds.length := List.length_map _
    have := few_loop g o ds.length cap (ds.map fun x => (⟨x.toArray⟩ : ByteArray)) w h0 (by rw [hl]; exact Nat.le_refl _) h1 (fun s hs' => by
      obtain ⟨x, hx, rfl⟩ := List.mem_map.1 hs'
      have := hs x hx
      show x.toArray.size ≤ maxLen
      unfold maxLen
      rw [List.size_toArray]; omega) (fun j hj => by
      rw [hl] at hj
      have e : ds[j]? = some ds[j] := List.getElem?_eq_getElem hj
      rw [hc j _ e, List.getD_eq_getElem?_getD, List.getElem?_map, e]
      rfl)
    rw [List.take_of_length_le (by rw [hl]; exact Nat.le_refl _), txt_of] at this
    exact this
theorem rdS_own {w : World} {B : Nat} {v : Value} {l : List Str} (h : w.ownsRow B 9 1 v l.length (l.map encS)) : RdS w v l := by
  obtain ⟨a, c, h1, h2, h3, h4⟩ := RdF.of_own h
  refine ⟨a, c, h1, h2, h3, fun h0 => ?_⟩
  obtain ⟨g, o, e, hg, hc⟩ := h4 h0
  exact ⟨g, o, e, hg, fun j x hj => hc j _ (by rw [List.getElem?_map, hj]; rfl)⟩
end Go.Proofs.YtiakedoebecgpaaDoor

namespace Go.Proofs.YtiakedoebecgpaaDoor
open Go.ChangeShapes Go.WideShapes Go.ChangeAt Go.RowKit Go.Joins
open Go.ChangeMaps (open_string shut_string)

theorem bulk_part {H : Type} {d : DataW H} {l : List (DataW H)} (h : d ∈ l) : Rows.uptoBulk d ≤ Rows.uptoBulkAll l := by
  induction l with
  | nil => cases h
  | cons x r ih =>
    simp only [Rows.uptoBulkAll]
    rcases List.mem_cons.1 h with rfl | h
    · omega
    · have := ih h; omega
set_option maxRecDepth 100000 in
/-- An argument that is a slice of items. -/
theorem argIb_of {H : Type} {enc : TypeId × Value → H} {W : World} {base fuel : Nat} {hd : Bool} {v : Value} {d : DataW H} {p : List MemPlace}
    (hf : DataW.trod enc Tryd.prog W base (fun _ => true) hd fuel 22 [v] = some (d, p)) (hlt : ∀ x ∈ p, x.block < W.heap.size) : ∃ l, RdI W v l ∧ ∀ x ∈ l, x.path.length ≤ Rows.uptoBulk d ∧ x.data.length ≤ Rows.uptoBulk d := by
  rcases Go.Deep.open_slice Tryd.underlying22 hf with ⟨hcs, _⟩ | ⟨a, len, cap, m, n, D, Pl, hcs, _, hl, hm, hmm, hx, hi⟩
  · simp at hcs
    subst hcs
    exact ⟨[], RdF.nil W, fun x hx => by cases hx⟩
  · simp at hcs
    subst hcs
    simp only [if_true] at hmm
    subst hmm
    simp only [Prod.mk.injEq] at hx
    obtain ⟨hd0, rfl⟩ := hx
    have key : ∀ i : Nat, ∃ b : It, i < m → (∀ (j : Nat), j < 3 → W.cell? ((a.add (i * 3)).add j) = b.cells[j]?) ∧ D i = .agg [.lit (.string b.path), .lit (.int .i64 b.kind), .lit (.string b.data)] := by
      intro i
      by_cases him : i < m
      · obtain ⟨cs', hc, ht⟩ := hi i him
        rw [cells35] at hc
        obtain ⟨_, hcl, hat⟩ := World.cells?_some hc
        obtain ⟨b, rfl, hD⟩ := it_of ht
        exact ⟨b, fun _ => ⟨fun j hj => hat j (by omega), hD⟩⟩
      · exact ⟨It.nil, fun h => absurd h him⟩
    obtain ⟨F, hF⟩ := Classical.axiomOfChoice key
    refine ⟨(List.range len).map F, ⟨some a, m, by simp, by simpa using hl, hm, fun h0 => ?_⟩, fun x hx => ?_⟩
    · have h0' : 0 < len := by simpa using h0
      obtain ⟨g, o, spot⟩ := a
      have hspot : spot = none := by
        have e := (hF 0 (by omega)).1 0 (by omega)
        have := World.cell?_spot (v := .string ⟨(F 0).path.toArray⟩) (e.trans rfl)
        simpa [Addr.add] using this
      subst hspot
      refine ⟨g, o, rfl, hlt (.cell g o) (List.mem_append_left _ (MemPlace.mem_row.2 ⟨0, by rw [cells35]; omega, by simp⟩)), fun j u hu => ?_⟩
      obtain ⟨q, r, hr, rfl⟩ : ∃ q r, r < 3 ∧ j = q * 3 + r := ⟨j / 3, j % 3, by omega, by omega⟩
      rw [flat3 _ q r hr, List.getElem?_map] at hu
      obtain ⟨b, hb, hbu⟩ := Option.bind_eq_some_iff.1 hu
      obtain ⟨i, hi1, rfl⟩ := Option.map_eq_some_iff.1 hb
      have hql : q < len := by simpa using (List.getElem?_eq_some_iff.1 hi1).1
      have e : i = q := by
        have := (List.getElem?_eq_some_iff.1 hi1).2
        simpa using this.symm
      subst e
      have hk := (hF i (by omega)).1 r hr
      rw [addr_add, addr_add, Nat.add_assoc] at hk
      rw [hk]
      exact hbu
    · obtain ⟨i, hi1, rfl⟩ := List.mem_map.1 hx
      have hil : i < len := List.mem_range.1 hi1
      have hD := (hF i (by omega)).2
      have h1 := bulk_part (d := D i) (List.mem_map.2 ⟨i, hi1, rfl⟩ : D i ∈ (List.range len).map D)
      rw [hD] at h1
      rw [hd0]
      simp only [Rows.uptoBulk, Rows.uptoBulkAll] at h1 ⊢
      constructor <;> omega
set_option maxRecDepth 100000 in
/-- An argument that is a tree. -/
theorem argTb_of {H : Type} {enc : TypeId × Value → H} {W : World} {base fuel : Nat} {hd : Bool} {cs : Array Value} {d : DataW H} {p : List MemPlace}
    (hf : DataW.trod enc Tryd.prog W base (fun _ => true) hd fuel 24 cs.toList = some (d, p)) (hlt : ∀ x ∈ p, x.block < W.heap.size) : ∃ x l, cs = #[x] ∧ RdI W x l ∧ ∀ y ∈ l, y.path.length ≤ Rows.uptoBulk d ∧ y.data.length ≤ Rows.uptoBulk d := by
  obtain ⟨y0, n, hx, hl, t0⟩ := trod_struct1 Tryd.underlying24 hf
  rw [cells24] at hl
  rw [cells22] at t0
  obtain ⟨x, hcx⟩ : ∃ x, cs.toList = [x] := by
    match h : cs.toList, hl with
    | [x], _ => exact ⟨x, rfl⟩
  rw [hcx] at t0
  simp at t0
  simp only [Prod.mk.injEq] at hx
  obtain ⟨hd0, rfl⟩ := hx
  obtain ⟨l, h, hw⟩ := argIb_of (d := y0.1) (p := y0.2) t0 hlt
  refine ⟨x, l, Array.ext' hcx, h, fun y hy => ?_⟩
  rw [hd0]
  have := hw y hy
  simp only [Rows.uptoBulk, Rows.uptoBulkAll]
  omega
end Go.Proofs.YtiakedoebecgpaaDoor

namespace Go.Proofs.YtiakedoebecgpaaDoor
open Go.ChangeShapes Go.WideShapes Go.ChangeAt Go.RowKit

theorem argR_of {H : Type} {enc : TypeId × Value → H} {W : World} {base fuel : Nat} {hd : Bool} {a0 : Option Addr} {len cap : Nat} {d : DataW H} {p : List MemPlace}
    (hf : DataW.trod enc Tryd.prog W base (fun _ => true) hd fuel 46 [.slice a0 len cap] = some (d, p)) (hlt : ∀ x ∈ p, x.block < W.heap.size) : ∃ l, RdS W (.slice a0 len cap) l ∧ ∀ x ∈ l, x.length ∈ d.weights Tryd.prog 46 := by
  rcases open_strings Tryd.underlying46 Tryd.underlying9 cells9 hf with ⟨hcs, _⟩ | ⟨a, len', cap', ss, hcs, _, hl, hm, hz, hx, hcell, _⟩
  · simp at hcs
    obtain ⟨rfl, rfl, rfl⟩ := hcs
    exact ⟨[], RdS.nil W, fun x hx => by cases hx⟩
  · simp at hcs
    obtain ⟨rfl, rfl, rfl⟩ := hcs
    simp only [Prod.mk.injEq] at hx
    obtain ⟨hd0, rfl⟩ := hx
    simp only [if_true] at hz
    have hlen : ((ss.take len).map fun s => s.data.toList).length = len := by simp; omega
    refine ⟨(ss.take len).map fun s => s.data.toList, ⟨some a, cap, by rw [hlen], by rw [hlen]; exact hl, hm, fun h0 => ?_⟩, fun x hx => ?_⟩
    · rw [hlen] at h0
      obtain ⟨g, o, spot⟩ := a
      have hspot : spot = none := by
        have := World.cell?_spot (hcell 0 (by omega))
        simpa [Addr.add] using this
      subst hspot
      refine ⟨g, o, rfl, hlt (.cell g o) (MemPlace.mem_row.2 ⟨0, by omega, by simp⟩), fun j x hs => ?_⟩
      rw [List.getElem?_map] at hs
      obtain ⟨s, hs2, hsx⟩ := Option.map_eq_some_iff.1 hs
      subst hsx
      rw [List.getElem?_take] at hs2
      split at hs2
      · have hjl := (List.getElem?_eq_some_iff.1 hs2).1
        have := hcell j hjl
        rw [addr_add] at this
        rw [this]
        unfold encS
        rw [ba_toArray]
        simp [List.getD, hs2]
      · cases hs2
    · obtain ⟨s, hs, rfl⟩ := List.mem_map.1 hx
      rw [hd0]
      simp only [DataW.weights, Tryd.underlying46, List.mem_cons, List.mem_append]
      exact .inr (.inl (weights_all (d := .lit (.string s.data.toList)) (List.mem_map.2 ⟨s, hs, rfl⟩) _ (by simp [DataW.weights])))
end Go.Proofs.YtiakedoebecgpaaDoor
