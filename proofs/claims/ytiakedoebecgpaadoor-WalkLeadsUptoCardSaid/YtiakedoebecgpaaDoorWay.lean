/- Proved here: join, and the methods add and drop of a way: what becomes of the way, and what stays as it was. -/
import Derived.Test.YtiakedoebecgpaaDoorPath4
import Derived.Deep.AppendLies
namespace Go.Proofs.YtiakedoebecgpaaDoor
open Go.RowKit Go.Shelf

theorem strs_at (l : List Str) (j : Nat) (x : ByteArray) (h : (l.map fun s => (⟨s.toArray⟩ : ByteArray))[j]? = some x) : (l.map encS)[j]? = some (.string x) := by
  rw [List.getElem?_map] at h ⊢
  cases e : l[j]? with
  | none => rw [e] at h; cases h
  | some s => rw [e] at h; cases h; rfl

/-- strings.Join of what a slice of the call's own holds. -/
theorem sjoin_own (l : List Str) (base : Nat) (v : Value) (w : World) (hown : w.ownsRow base 9 1 v l.length (l.map encS)) (hn : l.length ≤ 140737488355328) (hlen : (Lib.join l [47]).length ≤ 140737488355328) :
    Calls Tryd.prog 90 #[v, .string ⟨#[47]⟩] w fun e w' => e = .returned (.string ⟨(Lib.join l [47]).toArray⟩) ∧ Below w.heap.size w w' := by
  have hmap : (l.map fun s => (⟨s.toArray⟩ : ByteArray)).map (·.data.toList) = l := by
    rw [List.map_map]; exact (List.map_congr_left (fun _ _ => rfl)).trans (List.map_id l)
  by_cases h0 : l = []
  · subst h0
    rcases hown.2 with ⟨rfl, _⟩ | ⟨g, cap, cur, rfl, _⟩
    · exact (Tryd.strings_Join_none none 0 ⟨#[47]⟩ w).mono fun _ _ ⟨he, hw⟩ => ⟨he, hw ▸ Below.refl _ _⟩
    · exact (Tryd.strings_Join_none (some ⟨g, 0, none⟩) cap ⟨#[47]⟩ w).mono fun _ _ ⟨he, hw⟩ => ⟨he, hw ▸ Below.refl _ _⟩
  · have hpos : 0 < l.length := List.length_pos_iff.2 h0
    obtain ⟨g, cap, rfl, _, hlt⟩ := hown.form hpos
    have hc := hown.cells (g := g) rfl
    have hcap : l.length ≤ cap := by
      rcases hown.2 with ⟨h, _⟩ | ⟨g', cap', cur, hv, _, _, hnc, _⟩
      · cases h
      · injection hv with _ _ h3; omega
    have := Tryd.strings_Join g 0 cap (l.map fun s => (⟨s.toArray⟩ : ByteArray)) ⟨#[47]⟩ w
      (fun j x hx => by
        have h1 := hc j _ (strs_at l j x hx)
        have e : (⟨g, 0, none⟩ : Addr).add j = ⟨g, 0 + j, none⟩ := by
          unfold Addr.add
          by_cases hj : j = 0
          · simp [hj]
          · simp [hj]
        rw [e] at h1
        exact h1) hlt (by simpa using hn) (by simpa using hcap) (by rw [hmap]; exact hlen)
    rw [hmap, List.length_map] at this
    exact this

set_option maxHeartbeats 400000 in
theorem join_any (l : List Str) (base : Nat) (v : Value) (w : World) (hown : w.ownsRow base 9 1 v l.length (l.map encS)) (hn : l.length ≤ 140737488355328) (hlen : (Lib.join l [47]).length ≤ 1000000) :
    Calls Tryd.prog 60 #[v] w fun e w' => e = .returned (.string ⟨(joinL l).toArray⟩) ∧ Below w.heap.size w w' := by
  have HO := Lib.hid hown
  clear hown
  go_enter Tryd.func60, Tryd.ntmps60
  go_wp2_with (go_at_call 90; refine (sjoin_own l base v _ HO.out hn (by omega)).mono ?_; rintro e w' ⟨rfl, hb⟩)

  go_ret
  exact ⟨rfl, hb⟩

/-! ### A path that goes on, behind a pointer -/
def Way (w : World) (base Bw : Nat) (l : List Str) : Prop := ∃ v, Boxed w Bw 102 v ∧ w.ownsRow base 9 1 v l.length (l.map encS)
/-- Whatever box is neither the way's own nor one of texts holds what it held. -/
def KeepBox (Bw : Nat) (w w' : World) : Prop := ∀ k t u, k ≠ Bw → t ≠ 9 → Boxed w k t u → Boxed w' k t u
/-- What a step of the way leaves as it was. -/
structure Step (base Bw : Nat) (w w' : World) : Prop where
  below : Below base w w'
  others : KeepsOthers w w'
  box : KeepBox Bw w w'

theorem keeps_below {W W' : World} (h : Below W.heap.size W W') : KeepsOthers W W' :=
  ⟨h.size, fun k _ hk _ => (h.block k (Array.getElem?_eq_some_iff.1 hk).1).trans hk⟩
theorem Step.of_below {base Bw : Nat} {w w' : World} (h : Below w.heap.size w w') (hb : base ≤ w.heap.size) : Step base Bw w w' :=
  ⟨h.mono hb, keeps_below h, fun _ _ _ _ _ hk => boxed_below hk h hk.lt⟩
theorem Step.trans {base Bw : Nat} {a b c : World} (h : Step base Bw a b) (k : Step base Bw b c) : Step base Bw a c :=
  ⟨h.below.trans k.below, h.others.trans k.others, fun i t u hi ht hb => k.box i t u hi ht (h.box i t u hi ht hb)⟩
theorem Step.refl (base Bw : Nat) (w : World) : Step base Bw w w := ⟨Below.refl _ _, KeepsOthers.refl _, fun _ _ _ _ _ h => h⟩
theorem owns_below {w w' : World} {base n : Nat} {v : Value} {t : TypeId} {xs : List Value} (h : w.ownsRow base t 1 v n xs) (hb : Below w.heap.size w w') : w'.ownsRow base t 1 v n xs := by
  obtain ⟨h1, h2⟩ := h
  refine ⟨h1, ?_⟩
  rcases h2 with h2 | ⟨g, cap, cur, hv, hg, hh, r⟩
  · exact .inl h2
  · exact .inr ⟨g, cap, cur, hv, hg, (hb.block g (Array.getElem?_eq_some_iff.1 hh).1).trans hh, r⟩
theorem Way.below {w w' : World} {base Bw : Nat} {l : List Str} (h : Way w base Bw l) (hb : Below w.heap.size w w') : Way w' base Bw l := by
  obtain ⟨v, h1, h2⟩ := h
  exact ⟨v, boxed_below h1 hb h1.lt, owns_below h2 hb⟩

/-- 'out = append(out, x)' into the way's box: what is left as it was. -/
theorem Step.appended {W w1 : World} {base Bw : Nat} {v v' : Value} {k m : Nat} {xs ys : List Value} {tmp : Obj}
    (hv : Boxed W Bw 102 v) (hrow : W.ownsRow base 9 1 v k xs) (hn₀ : base ≤ W.heap.size) (hB : base ≤ Bw)
    (hown' : w1.ownsRow base 9 1 v' m ys) (hgrow : (W.alloc tmp).grownBy w1 v.ownBlock) : Step base Bw W (w1.setCell ⟨Bw, 0, none⟩ v') := by
  obtain ⟨_, _, _, h4, h5⟩ := hv.appended (by decide) hrow hn₀ hB hown' hgrow
  refine ⟨h5, h4, fun i t u hi ht hk => ?_⟩
  have h1 : Boxed w1 i t u := (hk.alloc tmp).kept hgrow (hk.not_row ht hrow)
  exact h1.other hi _

set_option maxHeartbeats 1000000 in
theorem add_full (base Bw : Nat) (l : List Str) (x : Str) (w : World) (hW : Way w base Bw l) (hl : l.length = 40) :
    Calls Tryd.prog 58 #[.pointer (some ⟨Bw, 0, none⟩), .string ⟨x.toArray⟩] w fun e w' => e = .returned (.bool false) ∧ Below w.heap.size w w' := by
  obtain ⟨v, hv, hrow⟩ := hW
  have hc := hv.cell
  obtain ⟨g, cap, rfl, _, _⟩ := hrow.form (by omega)
  rw [hl] at hc
  clear hv hrow
  go_enter Tryd.func58, Tryd.ntmps58
  go_wp2_with fail
  go_ret
  exact ⟨rfl, Below.refl _ _⟩

theorem own_len {w : World} {base n : Nat} {v : Value} {xs : List Value} (h : w.ownsRow base 9 1 v n xs) : ∃ a cap, v = .slice a n cap := by
  rcases h.2 with ⟨rfl, rfl⟩ | ⟨g, cap, cur, rfl, _⟩
  · exact ⟨none, 0, rfl⟩
  · exact ⟨_, cap, rfl⟩

set_option maxHeartbeats 1000000 in
theorem add_bad (base Bw : Nat) (l : List Str) (x : Str) (w : World) (hW : Way w base Bw l) (hl : l.length < 40) (hx : nameB x = false) :
    Calls Tryd.prog 58 #[.pointer (some ⟨Bw, 0, none⟩), .string ⟨x.toArray⟩] w fun e w' => e = .returned (.bool false) ∧ Below w.heap.size w w' := by
  obtain ⟨v, hv, hrow⟩ := hW
  have hc := hv.cell
  obtain ⟨a, cap, rfl⟩ := own_len hrow
  have HX := Lib.hid hx
  have hq : ((l.length : Int) == 40) = false := by rw [beq_eq_false_iff_ne]; omega
  clear hv hrow hx
  go_enter Tryd.func58, Tryd.ntmps58
  go_wp2_with (go_at_call 89; refine (namel_any x _).mono ?_; rintro e w' ⟨rfl, hb⟩; rw [HX.out])
  go_ret
  exact ⟨rfl, hb⟩

set_option maxHeartbeats 1000000 in
theorem add_good (base Bw : Nat) (l : List Str) (x : Str) (w : World) (hW : Way w base Bw l) (hB : base ≤ Bw) (hbs : base ≤ w.heap.size) (hl : l.length < 40) (hx : nameB x = true) :
    Calls Tryd.prog 58 #[.pointer (some ⟨Bw, 0, none⟩), .string ⟨x.toArray⟩] w fun e w' => e = .returned (.bool true) ∧ Way w' base Bw (l ++ [x]) ∧ Step base Bw w w' := by
  obtain ⟨v, hv, hrow⟩ := hW
  have hc := hv.cell
  obtain ⟨a, cap, rfl⟩ := own_len hrow
  have HX := Lib.hid hx
  have hq : ((l.length : Int) == 40) = false := by rw [beq_eq_false_iff_ne]; omega
  obtain ⟨i0, hi, hz0, hz1, hz2⟩ := info_parts info9
  clear hx
  go_enter Tryd.func58, Tryd.ntmps58
  go_wp2_with (first | (go_at_call 89; refine (namel_any x _).mono ?_; rintro e w1 ⟨rfl, hb⟩; rw [HX.out]; have hv1 := boxed_below hv hb hv.lt; have hr1 := owns_below hrow hb; have hc1 := hv1.cell; have hsz := hb.size) | (at_builtin; refine wpList_append_own _ rfl _ _ 46 rfl base 9 i0 (.string ⟨#[]⟩) 1 16 Tryd.underlying46 hi hz0 hz1 hz2 rfl (by decide) _ _ _ rfl (hr1.alloc _) ⟨w1.heap.size, 0, none⟩ 1 1 [.string ⟨x.toArray⟩] rfl rfl ?c1 ?c2 ?c3 ?c4 ?c5 ?_))
  case c1 => exact cell_one_new _ _ _
  case c2 => simp [Value.oneCell']
  case c3 => unfold maxLen; omega
  case c4 => omega
  case c5 => simp; omega
  intro v' w2 hown' hgrow _
  obtain ⟨g', cap', rfl⟩ := ownsRow_succ hown'
  have hst := Step.appended hv1 hr1 (by omega) hB hown' hgrow
  obtain ⟨ha1, ha2, hr2, _, _⟩ := hv1.appended (by decide) hr1 (by omega) hB hown' hgrow
  have hc2 := ha1.cell
  have hf2 := ha1.frozen
  have HF := Lib.hid (And.intro hst (And.intro ha2 hr2))
  clear hst ha2 hr2 ha1 hown' hgrow hv1 hr1 hc1 hc hv hrow
  go_wp2
  go_ret
  obtain ⟨hst, ha2, hr2⟩ := HF.out
  exact ⟨rfl, ⟨_, ha2, by simpa [encS] using hr2⟩, (Step.of_below hb hbs).trans hst⟩

theorem dropLast_map (l : List Str) : l.dropLast.map encS = (l.map encS).dropLast := by rw [List.map_dropLast]

set_option maxHeartbeats 1000000 in
theorem drop_nil (Bw : Nat) (w : World) (hv : Boxed w Bw 102 (.slice none 0 0)) :
    Calls Tryd.prog 59 #[.pointer (some ⟨Bw, 0, none⟩)] w fun e w' => e = .returned (.tuple #[]) ∧ w' = (w.setCell ⟨Bw, 0, none⟩ (.slice none 0 0)).drew := by
  have hc := hv.cell
  have hf := hv.frozen
  clear hv
  go_enter Tryd.func59, Tryd.ntmps59
  go_region
  go_end0
  exact ⟨rfl, rfl⟩
set_option maxHeartbeats 1000000 in
theorem drop_zero (Bw g cap : Nat) (w : World) (hv : Boxed w Bw 102 (.slice (some ⟨g, 0, none⟩) 0 cap)) :
    Calls Tryd.prog 59 #[.pointer (some ⟨Bw, 0, none⟩)] w fun e w' => e = .returned (.tuple #[]) ∧ w' = (w.setCell ⟨Bw, 0, none⟩ (.slice (some ⟨g, 0, none⟩) 0 cap)).drew := by
  have hc := hv.cell
  have hf := hv.frozen
  clear hv
  go_enter Tryd.func59, Tryd.ntmps59
  go_region
  go_end0
  exact ⟨rfl, rfl⟩
set_option maxHeartbeats 1000000 in
theorem drop_succ (Bw g cap m : Nat) (hm : m < 1000) (hcap : m + 1 ≤ cap) (w : World) (hv : Boxed w Bw 102 (.slice (some ⟨g, 0, none⟩) (m + 1) cap)) :
    Calls Tryd.prog 59 #[.pointer (some ⟨Bw, 0, none⟩)] w fun e w' => e = .returned (.tuple #[]) ∧ w' = (w.setCell ⟨Bw, 0, none⟩ (.slice (some ⟨g, 0, none⟩) m cap)).drew := by
  have hc := hv.cell
  have hf := hv.frozen
  have c1 : (0 : Int) ≤ (m : Int) := by omega
  have c2 : (m : Int) ≤ (cap : Int) := by omega
  have c3 : (m : Int) < 1000 := by omega
  have c4 : max (0 : Int) (m : Int) = m := by omega
  clear hv
  go_enter Tryd.func59, Tryd.ntmps59
  go_region
  go_end0
  exact ⟨rfl, rfl⟩
end Go.Proofs.YtiakedoebecgpaaDoor
