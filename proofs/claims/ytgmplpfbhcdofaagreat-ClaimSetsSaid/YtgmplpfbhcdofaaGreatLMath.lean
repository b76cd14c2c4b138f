/- Proved here: plain words on leaves: which rows of them may be. -/
import Derived.Test.YtgmplpfbhcdofaaGreatLRow
namespace Go.Proofs.YtgmplpfbhcdofaaGreat
open Go.RowKit Go.Shelf

/-- A leaf may be, whatever stands beside it. -/
def validLf (x : Lf) : Bool := !(x.p == [47]) && (decide (x.p.length ≤ 60) && (Pt.validB x.p && (if x.dir = true then x.d == [] else decide (x.d.length ≤ 200))))
/-- The leaf of a path. -/
def findL (l : List Lf) (p : Bs) : Lf × Bool := match l.find? (fun x => x.p == p) with
  | some x => (x, true)
  | none => (.nil, false)
def upIn (u : Bs) (l : List Lf) : Bool := u == [47] || ((findL l u).2 && (findL l u).1.dir)
/-- It stands at the root, or in a directory. -/
def inDirB (x : Lf) (l : List Lf) : Bool := upIn (Pt.upL x.p) l
/-- Each stands behind the one ahead of it. -/
def Rise (l : List Lf) : Prop := ∀ (i : Nat) (a b : Lf), l[i]? = some a → l[i + 1]? = some b → Pt.cmpL a.p b.p < 0
open Classical in
noncomputable def riseB (l : List Lf) : Bool := decide (Rise l)
def OkLs (l : List Lf) : Prop := l.length ≤ 16 ∧ (∀ x ∈ l, validLf x = true ∧ inDirB x l = true) ∧ Rise l
open Classical in
noncomputable def okLs (l : List Lf) : Bool := decide (OkLs l)
open Classical in
theorem okLs_iff (l : List Lf) : okLs l = true ↔ OkLs l := by unfold okLs; exact decide_eq_true_iff
open Classical in
theorem riseB_iff (l : List Lf) : riseB l = true ↔ Rise l := by unfold riseB; exact decide_eq_true_iff
open Classical in
theorem okLs_no {l : List Lf} (h : ¬ OkLs l) : okLs l = false := by unfold okLs; exact decide_eq_false h
theorem okLs_short {l : List Lf} (h : okLs l = true) : l.length ≤ 16 := ((okLs_iff l).1 h).1
theorem validLf_iff (x : Lf) : validLf x = true ↔ x.p ≠ [47] ∧ x.p.length ≤ 60 ∧ Pt.validB x.p = true ∧ (x.dir = true → x.d = []) ∧ (x.dir = false → x.d.length ≤ 200) := by
  unfold validLf
  cases x.dir <;> simp
theorem validLf_data {x : Lf} (h : validLf x = true) : x.d.length ≤ 200 := by
  obtain ⟨_, _, _, h4, h5⟩ := (validLf_iff x).1 h
  cases hd : x.dir with
  | true => rw [h4 hd]; simp
  | false => exact h5 hd
theorem okLs_path {l : List Lf} (h : okLs l = true) {x : Lf} (hx : x ∈ l) : x.p.length ≤ 60 := ((validLf_iff x).1 (((okLs_iff l).1 h).2.1 x hx).1).2.1
theorem okLs_data {l : List Lf} (h : okLs l = true) {x : Lf} (hx : x ∈ l) : x.d.length ≤ 200 := validLf_data (((okLs_iff l).1 h).2.1 x hx).1
end Go.Proofs.YtgmplpfbhcdofaaGreat
