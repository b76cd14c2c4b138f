/- Proved: whatever TreeMay of puncheonlaw06 is called with, the call returns true, and all read behind it as they read before (the statement Rows.TreeMayUptoCardSaid). Condition: what came in holds at most 1048576 values and letters (the statement's own); the tables stand as the program's text lays them (the card ties them). | slices.SortFunc of items, laid at this program's numbers: one table of numbers, a field a fact. | Proved here, of every program: no step of the machine takes back a draw; so a call of whatever contract ends with at least as many draws as it began with. | Proved here, of lists alone: what a tree of items is, in any order; what the reference puts together is that tree, or none. | Proved here: Of of puncheonref06, for every row of at most 2001 items. | Proved here: slices.SortFunc of items by the order of paths: the same items, in order. | Proved here: Of of package tree, for every row of items. | Proved here: TreeMay of puncheonlaw06 returns true, for every two trees and row of items of paths of at most two million letters each, wherever the tables stand. -/
import Derived.Shelf.SlLaysF0
import Derived.Test.YtjbbnecegomkcaaGreatDoorProg
import Derived.Calls
import Derived.StepT
import Derived.Test.YtjbbnecegomkcaaGreatDoorMRa
import Derived.Test.YtjbbnecegomkcaaGreatDoorMRb
import Derived.Test.YtjbbnecegomkcaaGreatDoorOIns
import Derived.Shelf.SlSortCmp.WholeK
import Derived.Test.YtjbbnecegomkcaaGreatDoorMRv
import Derived.Deep.DeepCutAuto
namespace Go.Proofs
open Go.Shelf
def Tryz.sortItems_ren : Go.Shelf.Ren := ⟨fun | 6 => 42 | 15 => 65 | 14 => 64 | 28 => 95 | 29 => 96 | 20 => 87 | 21 => 88 | 22 => 89 | 23 => 90 | 24 => 91 | 25 => 92 | 26 => 93 | 27 => 94 | 46 => 115 | 47 => 116 | 48 => 117 | 49 => 118 | 50 => 119 | 57 => 128 | n => n, fun | 22 => 22 | 24 => 33 | 25 => 66 | 3 => 3 | 39 => 60 | 0 => 0 | 53 => 118 | 55 => 120 | 4 => 4 | 46 => 112 | 45 => 111 | 50 => 98 | 5 => 5 | 9 => 9 | 66 => 130 | 70 => 134 | 76 => 143 | 77 => 144 | n => n, fun | n => n⟩
theorem Tryz.sortItems : Go.Proofs.SlLaysF0.n6 Tryz.prog Tryz.sortItems_ren := {
  mixed := by kernel_rfl
  f6 := ⟨Tryz.f42.name, by decide, Tryz.func42.trans (congrArg some (by kernel_rfl))⟩
  f14 := ⟨Tryz.f64.name, by decide, Tryz.func64.trans (congrArg some (by kernel_rfl))⟩
  f15 := Tryz.func65.trans (congrArg some (by kernel_rfl))
  f20 := ⟨Tryz.f87.name, by decide, Tryz.func87.trans (congrArg some (by kernel_rfl))⟩
  f21 := ⟨Tryz.f88.name, by decide, Tryz.func88.trans (congrArg some (by kernel_rfl))⟩
  f22 := ⟨Tryz.f89.name, by decide, Tryz.func89.trans (congrArg some (by kernel_rfl))⟩
  f23 := ⟨Tryz.f90.name, by decide, Tryz.func90.trans (congrArg some (by kernel_rfl))⟩
  f24 := ⟨Tryz.f91.name, by decide, Tryz.func91.trans (congrArg some (by kernel_rfl))⟩
  f25 := ⟨Tryz.f92.name, by decide, Tryz.func92.trans (congrArg some (by kernel_rfl))⟩
  f26 := ⟨Tryz.f93.name, by decide, Tryz.func93.trans (congrArg some (by kernel_rfl))⟩
  f27 := ⟨Tryz.f94.name, by decide, Tryz.func94.trans (congrArg some (by kernel_rfl))⟩
  f28 := Tryz.func95.trans (congrArg some (by kernel_rfl))
  f29 := Tryz.func96.trans (congrArg some (by kernel_rfl))
  f46 := ⟨Tryz.f115.name, by decide, Tryz.func115.trans (congrArg some (by kernel_rfl))⟩
  f47 := Tryz.func116.trans (congrArg some (by kernel_rfl))
  f48 := Tryz.func117.trans (congrArg some (by kernel_rfl))
  f49 := ⟨Tryz.f118.name, by decide, Tryz.func118.trans (congrArg some (by kernel_rfl))⟩
  f50 := ⟨Tryz.f119.name, by decide, Tryz.func119.trans (congrArg some (by kernel_rfl))⟩
  f57 := ⟨Tryz.f128.name, by decide, Tryz.func128.trans (congrArg some (by kernel_rfl))⟩
  t0 := Tryz.underlying0
  a0 := Tryz.isAgg0
  z0 := Tryz.sizeOf0
  v0 := Tryz.zeroValue0
  t3 := Tryz.underlying3
  a3 := Tryz.isAgg3
  z3 := Tryz.sizeOf3
  v3 := Tryz.zeroValue3
  t4 := Tryz.underlying4
  a4 := Tryz.isAgg4
  z4 := Tryz.sizeOf4
  v4 := Tryz.zeroValue4
  t5 := Tryz.underlying5
  a5 := Tryz.isAgg5
  z5 := Tryz.sizeOf5
  v5 := Tryz.zeroValue5
  t9 := Tryz.underlying9
  a9 := Tryz.isAgg9
  z9 := Tryz.sizeOf9
  v9 := Tryz.zeroValue9
  t22 := Tryz.underlying22
  a22 := Tryz.isAgg22
  z22 := Tryz.sizeOf22
  v22 := Tryz.zeroValue22
  t25 := Tryz.underlying66
  a25 := Tryz.isAgg66
  z25 := Tryz.sizeOf66
  v25 := Tryz.zeroValue66
  t39 := Tryz.underlying60
  a39 := Tryz.isAgg60
  z39 := Tryz.sizeOf60
  v39 := Tryz.zeroValue60
  t45 := Tryz.underlying111
  a45 := Tryz.isAgg111
  z45 := Tryz.sizeOf111
  v45 := Tryz.zeroValue111
  t46 := Tryz.underlying112
  a46 := Tryz.isAgg112
  z46 := Tryz.sizeOf112
  v46 := Tryz.zeroValue112
  t50 := Tryz.underlying98
  a50 := Tryz.isAgg98
  z50 := Tryz.sizeOf98
  v50 := Tryz.zeroValue98
  t53 := Tryz.underlying118
  a53 := Tryz.isAgg118
  z53 := Tryz.sizeOf118
  v53 := Tryz.zeroValue118
  t55 := Tryz.underlying120
  a55 := Tryz.isAgg120
  z55 := Tryz.sizeOf120
  v55 := Tryz.zeroValue120
  t66 := Tryz.underlying130
  a66 := Tryz.isAgg130
  z66 := Tryz.sizeOf130
  v66 := Tryz.zeroValue130
  t70 := Tryz.underlying134
  a70 := Tryz.isAgg134
  z70 := Tryz.sizeOf134
  v70 := Tryz.zeroValue134
  t76 := Tryz.underlying143
  a76 := Tryz.isAgg143
  z76 := Tryz.sizeOf143
  v76 := Tryz.zeroValue143
  t77 := Tryz.underlying144
  a77 := Tryz.isAgg144
  z77 := Tryz.sizeOf144
  v77 := Tryz.zeroValue144 }
end Go.Proofs

namespace Go.Proofs.YtjbbnecegomkcaaGreatDoor.Draws

theorem ask_low {α : Type} (a : Ask α) (w : World) : w.drawn ≤ (w.ask a).2.drawn := by
  induction a generalizing w with
  | done a => exact Nat.le_refl _
  | ask what range k ih =>
    unfold World.ask
    simp only []
    split
    · exact ih _ _
    · exact Nat.le_trans (Nat.le_succ _) (ih _ { w with drawn := w.drawn + 1 })
theorem sys_low (w : World) (c : Sys) : w.drawn ≤ (w.sys c).2.drawn := by
  unfold World.sys
  have h := ask_low (Kernel.perform c w.os) w
  split
  · exact Nat.le_refl _
  · rename_i heq
    rw [heq] at h
    exact h
theorem viewStore_low {p : Program} {w : World} {at_ : Addr} {u : TypeId} {a : Addr} {v : Value} {b : Bool} {r : World × List Addr} (h : w.viewStore p at_ u a v b = .ok r) : r.1.drawn = w.drawn := by
  unfold World.viewStore at h
  simp only [bind, Except.bind, pure, Except.pure] at h
  repeat' split at h
  all_goals first | (cases h; done) | (cases h; rfl)
theorem farStore_low {p : Program} {w : World} {a : Addr} {v : Value} {b : Bool} {r : World × List Addr} (h : w.farStore p a v b = .ok r) : r.1.drawn = w.drawn := by
  unfold World.farStore at h
  split at h
  · split at h
    · rename_i heq
      cases h
      exact viewStore_low heq
    · cases h
  · cases h
def ResLow {α : Type} (d : Nat) : Result α → Prop
  | .ok _ w => d ≤ w.drawn
  | .halt _ w => d ≤ w.drawn
theorem ResLow.mono {α : Type} {d d' : Nat} {r : Result α} (h : ResLow d' r) (hd : d ≤ d') : ResLow d r := by
  cases r <;> exact Nat.le_trans hd h
theorem freeze_low (w : World) (a : Addr) (n : Nat) : (w.freeze a n).drawn = w.drawn := by
  unfold World.freeze
  split <;> rfl
theorem run_low {α : Type} (p : Program) (s : Sem α) (w : World) : ResLow w.drawn (s.run p w) := by
  induction s generalizing w with
  | pure a => exact Nat.le_refl _
  | load m a k ih =>
    simp only [Sem.run]
    split
    · exact ih _ _
    · split
      · exact ih _ _
      · exact Nat.le_refl _
  | store m a v k ih =>
    cases v
    all_goals first
      | exact Nat.le_refl w.drawn
      | (simp only [Sem.run]
         split
         · split
           · exact Nat.le_refl _
           · exact ih _
         · split
           · rename_i heq
             exact (ih _).mono (Nat.le_of_eq (farStore_low heq).symm)
           · exact Nat.le_refl _)
  | new o k ih => exact ih _ { w with heap := w.heap.push o }
  | shape r k ih => exact ih _ w
  | freeze a n k ih => exact (ih (w.freeze a n)).mono (Nat.le_of_eq (freeze_low w a n).symm)
  | frozen a k ih => exact ih _ w
  | getObj r k ih =>
    simp only [Sem.run]
    split
    · exact Nat.le_refl _
    · exact ih _ w
    · exact Nat.le_refl _
  | setObj r o k ih =>
    simp only [Sem.run]
    split
    · exact Nat.le_refl _
    · exact ih { w with heap := w.heap.setIfInBounds r o }
    · exact Nat.le_refl _
  | choose q k ih =>
    simp only [Sem.run]
    split
    · exact ih _ w
    · exact (ih _ { w with drawn := w.drawn + 1 }).mono (Nat.le_succ _)
  | sys c k ih => exact (ih _ _).mono (sys_low w c)
  | program k ih => exact ih p w
  | mark m k ih => exact ih w
  | halt h => exact Nat.le_refl _
theorem run_ok {α : Type} {p : Program} {s : Sem α} {w w' : World} {a : α} (h : s.run p w = .ok a w') : w.drawn ≤ w'.drawn := by
  have := run_low p s w
  rw [h] at this
  exact this
theorem run_halt {α : Type} {p : Program} {s : Sem α} {w w' : World} {a : Halt} (h : s.run p w = .halt a w') : w.drawn ≤ w'.drawn := by
  have := run_low p s w
  rw [h] at this
  exact this
theorem runT_res {α : Type} {p : Program} {s : Sem α} {w : World} {es es' : Array Event} {r : Result α} (h : s.runT p w es = (r, es')) : ResLow w.drawn r := by
  have h1 := Sem.runT_eq p s w es
  rw [h] at h1
  rw [(Prod.mk.inj h1).1]
  exact run_low p s w
theorem runT_ok {α : Type} {p : Program} {s : Sem α} {w w' : World} {es es' : Array Event} {a : α} (h : s.runT p w es = (.ok a w', es')) : w.drawn ≤ w'.drawn := runT_res h
theorem runT_halt {α : Type} {p : Program} {s : Sem α} {w w' : World} {es es' : Array Event} {a : Halt} (h : s.runT p w es = (.halt a w', es')) : w.drawn ≤ w'.drawn := runT_res h

theorem run_okp {α : Type} {p : Program} {s : Sem α} {w w' : World} {a : α} {e e' : Array Event} (h : (s.run p w, e) = (Result.ok a w', e')) : w.drawn ≤ w'.drawn := run_ok (Prod.mk.inj h).1
theorem run_haltp {α : Type} {p : Program} {s : Sem α} {w w' : World} {a : Halt} {e e' : Array Event} (h : (s.run p w, e) = (Result.halt a w', e')) : w.drawn ≤ w'.drawn := run_halt (Prod.mk.inj h).1
theorem run_oki {α : Type} {p : Program} {s : Sem α} {w w' : World} {a : α} {e e' : Array Event} {l : Bool} (h : (if l = true then (s.run p w, e) else (s.run p w, e')).1 = Result.ok a w') : w.drawn ≤ w'.drawn := by
  split at h <;> exact run_ok h
theorem run_halti {α : Type} {p : Program} {s : Sem α} {w w' : World} {a : Halt} {e e' : Array Event} {l : Bool} (h : (if l = true then (s.run p w, e) else (s.run p w, e')).1 = Result.halt a w') : w.drawn ≤ w'.drawn := by
  split at h <;> exact run_halt h

/-! ### A goroutine's step -/
def GLow (d : Nat) : GStep → Prop
  | .go _ w _ => d ≤ w.drawn
  | .comm _ _ _ _ w _ => d ≤ w.drawn
  | .spawn _ _ w _ => d ≤ w.drawn
  | .count _ w _ => d ≤ w.drawn
  | .timer _ _ w _ => d ≤ w.drawn
  | .alone _ _ w _ => d ≤ w.drawn
  | .newcoro _ _ _ w _ => d ≤ w.drawn
  | .coroswitch _ _ _ w _ => d ≤ w.drawn
  | .collect _ w _ => d ≤ w.drawn
  | .watch _ w _ => d ≤ w.drawn
  | .ended _ _ _ => True
theorem GLow.after {d : Nat} {s : GStep} {es : Array Event} (h : GLow d s) : GLow d (GStep.after es s) := by
  cases s <;> exact h
theorem endWith_low {d : Nat} {w : World} {fd : Nat} {t : ByteArray} {o : Outcome} (_ : d ≤ w.drawn) : GLow d (endWith w fd t o) := by
  unfold endWith
  repeat' (first | refine GLow.after ?_ | split)
  all_goals trivial
theorem endThrow_low {d : Nat} {fr : Frame} {m : String} {w : World} (h : d ≤ w.drawn) : GLow d (endThrow fr m w) := h
theorem endPrinting_low {d : Nat} {p : Program} {fr : Frame} {v : Value} {w : World} (h : d ≤ w.drawn) : GLow d (endPrinting p fr v w) := by
  unfold endPrinting
  try simp only []
  repeat' (first | refine GLow.after ?_ | split)
  all_goals (try have h2 := Nat.le_trans h (run_ok (by assumption)))
  all_goals (try have h3 := Nat.le_trans h (run_halt (by assumption)))
  all_goals (try have h2 := Nat.le_trans h (run_okp (by assumption)))
  all_goals (try have h3 := Nat.le_trans h (run_haltp (by assumption)))
  all_goals (try have h2 := Nat.le_trans h (run_oki (by assumption)))
  all_goals (try have h3 := Nat.le_trans h (run_halti (by assumption)))
  all_goals first | trivial | exact h | exact h2 | exact h3 | exact endThrow_low h
theorem endFatal_low {d : Nat} {p : Program} {fr : Frame} {cs : List Frame} {dy : Option Dying} {m : String} {w : World} (h : d ≤ w.drawn) : GLow d (endFatal p fr cs dy m w) := by
  unfold endFatal
  try simp only []
  repeat' (first | refine GLow.after ?_ | split)
  all_goals (try have h2 := Nat.le_trans h (run_ok (by assumption)))
  all_goals (try have h3 := Nat.le_trans h (run_halt (by assumption)))
  all_goals (try have h2 := Nat.le_trans h (run_okp (by assumption)))
  all_goals (try have h3 := Nat.le_trans h (run_haltp (by assumption)))
  all_goals (try have h2 := Nat.le_trans h (run_oki (by assumption)))
  all_goals (try have h3 := Nat.le_trans h (run_halti (by assumption)))
  all_goals first | trivial | exact h | exact h2 | exact h3
theorem writeOn_low {d : Nat} {p : Program} {fr : Frame} {dy : Dying} {f : Fatal} {w : World} (h : d ≤ w.drawn) : GLow d (writeOn p fr dy f w) := by
  unfold writeOn
  try simp only [Sem.runT_eq]
  repeat' (first | refine GLow.after ?_ | split)
  all_goals (try have h2 := Nat.le_trans h (run_ok (by assumption)))
  all_goals (try have h3 := Nat.le_trans h (run_halt (by assumption)))
  all_goals (try have h2 := Nat.le_trans h (run_okp (by assumption)))
  all_goals (try have h3 := Nat.le_trans h (run_haltp (by assumption)))
  all_goals (try have h2 := Nat.le_trans h (run_oki (by assumption)))
  all_goals (try have h3 := Nat.le_trans h (run_halti (by assumption)))
  all_goals first | trivial | exact h | exact h2 | exact h3
theorem die_low {d : Nat} {p : Program} {fr : Frame} {dy : Dying} {w : World} (h : d ≤ w.drawn) : GLow d (die p fr dy w) := by
  unfold die
  try simp only [Sem.runT_eq]
  repeat' (first | refine GLow.after ?_ | split)
  all_goals (try have h2 := Nat.le_trans h (run_ok (by assumption)))
  all_goals (try have h3 := Nat.le_trans h (run_halt (by assumption)))
  all_goals (try have h2 := Nat.le_trans h (run_okp (by assumption)))
  all_goals (try have h3 := Nat.le_trans h (run_haltp (by assumption)))
  all_goals (try have h2 := Nat.le_trans h (run_oki (by assumption)))
  all_goals (try have h3 := Nat.le_trans h (run_halti (by assumption)))
  all_goals first | trivial | exact h | exact h2 | exact h3 | exact writeOn_low h | exact endWith_low h | exact endPrinting_low h3
theorem doReturn_low {d : Nat} {p : Program} {b : Bool} {fr : Frame} {cs : List Frame} {dy : Option Dying} {v : Value} {w : World} (h : d ≤ w.drawn) : GLow d (doReturn p b fr cs dy v w) := by
  unfold doReturn
  try simp only []
  repeat' (first | refine GLow.after ?_ | split)
  all_goals (try have h2 := Nat.le_trans h (run_ok (by assumption)))
  all_goals (try have h3 := Nat.le_trans h (run_halt (by assumption)))
  all_goals (try have h2 := Nat.le_trans h (run_okp (by assumption)))
  all_goals (try have h3 := Nat.le_trans h (run_haltp (by assumption)))
  all_goals (try have h2 := Nat.le_trans h (run_oki (by assumption)))
  all_goals (try have h3 := Nat.le_trans h (run_halti (by assumption)))
  all_goals first | trivial | exact h | exact h2 | exact h3
theorem early_low {d : Nat} {p : Program} {fr : Frame} {cs : List Frame} {dy : Option Dying} {g : Nat} {w : World} (h : d ≤ w.drawn) : GLow d (early p fr cs dy g w) := by
  unfold early
  try simp only []
  repeat' (first | refine GLow.after ?_ | split)
  all_goals (try have h2 := Nat.le_trans h (run_ok (by assumption)))
  all_goals (try have h3 := Nat.le_trans h (run_halt (by assumption)))
  all_goals (try have h2 := Nat.le_trans h (run_okp (by assumption)))
  all_goals (try have h3 := Nat.le_trans h (run_haltp (by assumption)))
  all_goals (try have h2 := Nat.le_trans h (run_oki (by assumption)))
  all_goals (try have h3 := Nat.le_trans h (run_halti (by assumption)))
  all_goals first | trivial | exact h | exact h2 | exact h3
theorem callDeferred_low {d : Nat} {p : Program} {fr : Frame} {cs : List Frame} {dy : Option Dying} {q : Deferred} {w : World} (h : d ≤ w.drawn) : GLow d (callDeferred p fr cs dy q w) := by
  unfold callDeferred
  try simp only [Sem.runT_eq]
  repeat' (first | refine GLow.after ?_ | split)
  all_goals (try have h2 := Nat.le_trans h (run_ok (by assumption)))
  all_goals (try have h3 := Nat.le_trans h (run_halt (by assumption)))
  all_goals (try have h2 := Nat.le_trans h (run_okp (by assumption)))
  all_goals (try have h3 := Nat.le_trans h (run_haltp (by assumption)))
  all_goals (try have h2 := Nat.le_trans h (run_oki (by assumption)))
  all_goals (try have h3 := Nat.le_trans h (run_halti (by assumption)))
  all_goals first | trivial | exact h | exact h2 | exact h3 | exact endFatal_low h3 | exact endThrow_low h3
theorem unwind_low {d : Nat} {p : Program} {b : Bool} {fr : Frame} {cs : List Frame} {dy : Option Dying} {w : World} (h : d ≤ w.drawn) : GLow d (unwind p b fr cs dy w) := by
  unfold unwind
  try simp only [Sem.runT_eq]
  repeat' (first | refine GLow.after ?_ | split)
  all_goals (try have h2 := Nat.le_trans h (run_ok (by assumption)))
  all_goals (try have h3 := Nat.le_trans h (run_halt (by assumption)))
  all_goals (try have h2 := Nat.le_trans h (run_okp (by assumption)))
  all_goals (try have h3 := Nat.le_trans h (run_haltp (by assumption)))
  all_goals (try have h2 := Nat.le_trans h (run_oki (by assumption)))
  all_goals (try have h3 := Nat.le_trans h (run_halti (by assumption)))
  all_goals first | trivial | exact h | exact h2 | exact h3 | exact callDeferred_low h | exact doReturn_low h | exact doReturn_low h2 | exact endPrinting_low h
theorem apply_low {d : Nat} {p : Program} {l : Bool} {fr : Frame} {cs : List Frame} {dy : Option Dying} {s : Sem Next} {w : World} (h : d ≤ w.drawn) : GLow d (stepG.apply p l fr cs dy s w) := by
  unfold stepG.apply
  try simp only [Sem.runT_eq]
  repeat' (first | refine GLow.after ?_ | split)
  all_goals (try have h2 := Nat.le_trans h (run_ok (by assumption)))
  all_goals (try have h3 := Nat.le_trans h (run_halt (by assumption)))
  all_goals (try have h2 := Nat.le_trans h (run_okp (by assumption)))
  all_goals (try have h3 := Nat.le_trans h (run_haltp (by assumption)))
  all_goals (try have h2 := Nat.le_trans h (run_oki (by assumption)))
  all_goals (try have h3 := Nat.le_trans h (run_halti (by assumption)))
  all_goals first | trivial | exact h | exact h2 | exact h3 | exact endFatal_low h3 | exact endThrow_low h2 | exact endThrow_low h3 | exact early_low h3
theorem elim_low {α : Type} {d : Nat} {e : GStep} {f : α → GStep} {o : Option α} (he : GLow d e) (hf : ∀ a, GLow d (f a)) : GLow d (o.elim e f) := by
  cases o
  · exact he
  · exact hf _
theorem oper_low {d : Nat} {p : Program} {l : Bool} {fr : Frame} {cs : List Frame} {dy : Option Dying} {w : World} (h : d ≤ w.drawn) : GLow d (stepG.oper p l fr cs dy w) := by
  unfold stepG.oper
  try simp only [Sem.runT_eq]
  repeat' (first | exact apply_low h | refine GLow.after ?_ | split)
  all_goals (try have h2 := Nat.le_trans h (run_ok (by assumption)))
  all_goals (try have h3 := Nat.le_trans h (run_halt (by assumption)))
  all_goals (try have h2 := Nat.le_trans h (run_okp (by assumption)))
  all_goals (try have h3 := Nat.le_trans h (run_haltp (by assumption)))
  all_goals (try have h2 := Nat.le_trans h (run_oki (by assumption)))
  all_goals (try have h3 := Nat.le_trans h (run_halti (by assumption)))
  all_goals first | trivial | exact h | exact h2 | exact h3 | exact apply_low h
theorem exec_low {d : Nat} {p : Program} {b l : Bool} {fr : Frame} {cs : List Frame} {dy : Option Dying} {w : World} (h : d ≤ w.drawn) : GLow d (stepG.exec p b l fr cs dy w) := by
  unfold stepG.exec
  try simp only [Sem.runT_eq]
  repeat' (first | exact apply_low h | exact apply_low (Nat.le_trans h (run_ok (by assumption))) | exact oper_low h | refine elim_low ?_ (fun _ => ?_) | exact doReturn_low (Nat.le_trans h (run_ok (by assumption))) | refine GLow.after ?_ | split)
  all_goals (try have h2 := Nat.le_trans h (run_ok (by assumption)))
  all_goals (try have h3 := Nat.le_trans h (run_halt (by assumption)))
  all_goals (try have h2 := Nat.le_trans h (run_okp (by assumption)))
  all_goals (try have h3 := Nat.le_trans h (run_haltp (by assumption)))
  all_goals (try have h2 := Nat.le_trans h (run_oki (by assumption)))
  all_goals (try have h3 := Nat.le_trans h (run_halti (by assumption)))
  all_goals first | trivial | exact h | exact h2 | exact h3 | exact apply_low h | exact apply_low h2 | exact doReturn_low h2 | exact oper_low h
theorem stepG_low (p : Program) (b : Bool) (g : Goroutine) (w : World) (l : Bool) : GLow w.drawn (stepG p b g w l) := by
  unfold stepG
  split
  split
  · exact die_low (Nat.le_refl _)
  · exact exec_low (Nat.le_refl _)
  · exact unwind_low (Nat.le_refl _)

/-! ### The machine's step -/
def SLow (d : Nat) : Stepped → Prop
  | .next m => d ≤ m.world.drawn
  | .ended _ _ => True
def MLow (d : Nat) : Move → Prop
  | .goroutine m _ => d ≤ m.world.drawn
  | .machine s _ => SLow d s
theorem serve_low {d : Nat} {p : Program} {m : Machine} {k : Nat} (h : d ≤ m.world.drawn) : SLow d (serve p m k) := by
  unfold serve
  simp only []
  repeat' split
  all_goals first | trivial | exact h
theorem look_low {d : Nat} {p : Program} {gs : Array Goroutine} {r : Rest} {w : World} (h : d ≤ w.drawn) : SLow d (look p gs r w) := by
  unfold look
  simp only []
  repeat' split
  all_goals (try have h2 := Nat.le_trans h (run_ok (by assumption)))
  all_goals first | trivial | exact h | exact h2
theorem waiting_low {r : Rest} {cs : Array CommCase} {w w' : World} (h : waitingAt r cs w = some w') : w.drawn ≤ w'.drawn := by
  unfold waitingAt at h
  repeat' split at h
  all_goals first | (cases h; exact Nat.le_refl _) | cases h
theorem communicate_low {d : Nat} {p : Program} {r : Rest} {gs : Array Goroutine} {i : Nat} {g : Goroutine} {cs : Array CommCase} {b : Bool} {sh : CommShape} {w : World} (h : d ≤ w.drawn) :
    SLow d (communicate p r gs i g cs b sh w).1 := by
  unfold communicate
  simp only []
  repeat' split
  all_goals (try have h2 := Nat.le_trans h (run_ok (by assumption)))
  all_goals (try have h4 := Nat.le_trans h (waiting_low (by assumption)))
  all_goals (try have h5 := Nat.le_trans h2 (run_ok (by assumption)))
  all_goals (try have h6 := Nat.le_trans h2 (run_halt (by assumption)))
  all_goals first | trivial | exact h | exact h2 | exact h4 | exact h5 | exact h6
theorem drain_low (w : World) (c : Nat) : (drain w c).2.drawn = w.drawn := by
  unfold drain
  split <;> rfl
theorem retime_low (m : Machine) (k : Nat) (t : Timer) (a b : Nat) : (retime m k t a b).2.world.drawn = m.world.drawn := by
  unfold retime
  simp only []
  split
  · exact drain_low _ _
  · rfl
theorem named_low {m : Machine} {a : Addr} {f : Nat → Timer → Value × Machine} {r : Value × Machine} (hf : ∀ k t, (f k t).2.world.drawn = m.world.drawn) (h : timerOp.named m a f = .ok r) : r.2.world.drawn = m.world.drawn := by
  unfold timerOp.named at h
  split at h
  · cases h; exact hf _ _
  · cases h
theorem opened_low {m m' : Machine} {a : Addr} (h : timerOp.opened m a = some m') : m'.world.drawn = m.world.drawn := by
  unfold timerOp.opened at h
  repeat' split at h
  all_goals first | (cases h; rfl) | cases h
theorem timerOp_low {m : Machine} {op : TimerOp} {r : Value × Machine} (h : timerOp m op = .ok r) : r.2.world.drawn = m.world.drawn := by
  unfold timerOp at h
  split at h
  · repeat' split at h
    all_goals first | (cases h; rfl) | cases h
  · exact named_low (fun k t => retime_low _ _ _ _ _) h
  · split at h
    · rename_i heq
      have h0 := opened_low heq
      exact named_low (fun k t => (retime_low _ _ _ _ _).trans h0) h
    · cases h
  · cases h; rfl
theorem endThrow_is {d : Nat} {fr : Frame} {m : String} {w w' : World} {g : Goroutine} {es : Array Event} (h : d ≤ w.drawn) (e : endThrow fr m w = .go g w' es) : d ≤ w'.drawn := by
  have := endThrow_low (fr := fr) (m := m) h
  rw [e] at this
  exact this
theorem stepG_is {p : Program} {b : Bool} {g : Goroutine} {w : World} {l : Bool} {s : GStep} (h : stepG p b g w l = s) : GLow w.drawn s := by
  rw [← h]
  exact stepG_low p b g w l
theorem runM_low (p : Program) (m : Machine) (i : Nat) (l : Bool) : SLow m.world.drawn (runT p m i l).1 := by
  unfold runT
  simp only []
  split
  all_goals (have h := stepG_is (by assumption))
  all_goals first | trivial | exact h | exact communicate_low h | exact look_low h | skip
  all_goals (repeat' split)
  all_goals (try have h7 := endThrow_is h (by assumption))
  all_goals (try have h8 := Nat.le_trans h (Nat.le_of_eq (timerOp_low (by assumption)).symm))
  all_goals first | trivial | exact h | exact h7 | exact h8

theorem run_adv {α : Type} {p : Program} {s : Sem α} {w w' : World} {gs : Array Goroutine} {r : Rest} {t : Nat} {a : α} (h : s.run p (Machine.advanceTo { world := w, gs := gs, rest := r } t).world = .ok a w') : w.drawn ≤ w'.drawn := by
  have h1 := run_ok h
  exact h1
theorem askOn_low {d : Nat} {p : Program} {m : Machine} (h : d ≤ m.world.drawn) : MLow d (askOn p m) := by
  unfold askOn
  simp only []
  repeat' split
  all_goals (try have h2 := Nat.le_trans h (run_ok (by assumption)))
  all_goals (try have h3 := Nat.le_trans h2 (run_ok (by assumption)))
  all_goals (try have h4 := Nat.le_trans h3 (run_ok (by assumption)))
  all_goals (try have h5 := Nat.le_trans h4 (run_ok (by assumption)))
  all_goals (try have h6 := Nat.le_trans h3 (run_adv (by assumption)))
  all_goals (try have h7 := Nat.le_trans h6 (run_ok (by assumption)))
  all_goals first | trivial | exact h | exact h2 | exact h3 | exact h4 | exact h5 | exact h6 | exact h7 | (apply serve_low; exact h2)
theorem ask_lowM {d : Nat} {p : Program} {m : Machine} (h : d ≤ m.world.drawn) : MLow d (ask p m) := by
  unfold ask
  split
  · split
    · trivial
    · rename_i heq
      have hl := look_low (p := p) (gs := m.gs) (r := m.rest) (Nat.le_trans h (run_ok heq))
      split
      · rename_i heq2
        rw [heq2] at hl
        exact askOn_low hl
      · exact hl
    · rename_i heq
      exact askOn_low (m := { m with world := _ }) (Nat.le_trans h (run_ok heq))
  · exact askOn_low h
theorem move_low (p : Program) (m : Machine) : MLow m.world.drawn (move p m) := by
  unfold move
  split
  · split
    · exact Nat.le_refl _
    · trivial
  · split
    · split
      · exact Nat.le_refl _
      · exact ask_lowM (m := { m with rest := _ }) (Nat.le_refl _)
    · exact ask_lowM (Nat.le_refl _)
theorem step_low {p : Program} {m m' : Machine} (h : step p m = .next m') : m.world.drawn ≤ m'.world.drawn := by
  have hm := move_low p m
  unfold step stepT at h
  split at h
  · rename_i m1 i heq
    rw [heq] at hm
    have h1 := runM_low p m1 i true
    rw [h] at h1
    exact Nat.le_trans hm h1
  · rename_i s ops heq
    rw [heq] at hm
    rw [show s = .next m' from h] at hm
    exact hm
theorem steps_low {p : Program} {m m' : Machine} (h : Steps p m m') : m.world.drawn ≤ m'.world.drawn := by
  obtain ⟨n, hn⟩ := h
  induction n generalizing m with
  | zero => simp [runN] at hn; rw [hn]; exact Nat.le_refl _
  | succ n ih =>
    simp only [runN] at hn
    cases hs : step p m with
    | next m1 => rw [hs] at hn; exact Nat.le_trans (step_low hs) (ih hn)
    | ended o w => rw [hs] at hn; cases hn
/-- A CALL TAKES NO DRAW BACK: whatever a contract says, that may be said, too. -/
theorem calls_drawn {P : Program} {f : FuncId} {args : Array Value} {w : World} {R : Ending → World → Prop} (h : Calls P f args w R) (hR : ∀ e w', R e w' → ∃ v, e = .returned v) :
    Calls P f args w fun e w' => R e w' ∧ w.drawn ≤ w'.drawn := by
  intro cs
  obtain ⟨e, w', fr, hr, hc, hf, hl⟩ := h cs
  obtain ⟨v, rfl⟩ := hR e w' hr
  exact ⟨_, w', fr, ⟨hr, steps_low (m := lone _ cs w) (m' := lone fr cs w') hc⟩, hc, hf, hl⟩
end Go.Proofs.YtjbbnecegomkcaaGreatDoor.Draws

namespace Go.Proofs.YtjbbnecegomkcaaGreatDoor

theorem srt_nodup {l : List It} (h : Srt l) : (l.map (·.path)).Nodup := by
  unfold List.Nodup
  rw [List.pairwise_map]
  exact List.Pairwise.imp (fun h => cl_ne h) h
theorem nodup_of_paths {l : List It} (h : (l.map (·.path)).Nodup) : l.Nodup := by
  unfold List.Nodup at h ⊢
  rw [List.pairwise_map] at h
  exact List.Pairwise.imp (fun h e => h (by rw [e])) h
theorem valid_srt {l : List It} (h : validT l = true) : Srt l := (tree_ok h).sorted
/-- Of one row of items there is at most one tree. -/
theorem valid_uniq {S T l : List It} (hs : S.Perm l) (ht : T.Perm l) (vs : validT S = true) (vt : validT T = true) : S = T :=
  srt_ext (valid_srt vs) (valid_srt vt) fun x => by rw [hs.mem_iff, ht.mem_iff]
/-- A row in order, of no two of one path, is the tree, if there is one. -/
theorem sorted_uniq {S T l : List It} (hs : S.Perm l) (ht : T.Perm l) (vt : validT T = true) (ho : S.Pairwise fun a b => ¬ cmpL b.path a.path < 0) : S = T := by
  have hn : (S.map (·.path)).Nodup := ((hs.trans ht.symm).map (·.path)).nodup_iff.2 (srt_nodup (valid_srt vt))
  refine srt_ext ?_ (valid_srt vt) fun x => by rw [hs.mem_iff, ht.mem_iff]
  unfold List.Nodup at hn
  rw [List.pairwise_map] at hn
  refine List.Pairwise.imp (fun {a b} h => ?_) (ho.and hn)
  have h1 := cl_anti a.path b.path
  have h2 := cl_zero a.path b.path
  have h3 := h.1
  have h4 : cmpL a.path b.path ≠ 0 := fun e => h.2 (h2.1 e)
  omega

/-! ### What with leaves -/
def keepW (x : It) (l : List It) : List It := l.filter fun y => !decide (y.path = x.path)
theorem keep_cons (x y : It) (l : List It) : keepW x (y :: l) = if y.path = x.path then keepW x l else y :: keepW x l := by
  unfold keepW
  rw [List.filter_cons]
  by_cases h : y.path = x.path <;> simp [h]
theorem wfold_perm (x : It) : ∀ (l o : List It) (b : Bool), (wend x (l.foldl (wstep x) (o, b))).Perm (o ++ (if b = true then [] else [x]) ++ keepW x l)
  | [], o, b => by cases b <;> simp [wend, keepW]
  | y :: l, o, b => by
    rw [List.foldl_cons, keep_cons]
    by_cases he : y.path = x.path
    · rw [if_pos he]
      by_cases hc : b = false ∧ cmpL x.path y.path ≤ 0
      · have e : wstep x (o, b) y = (o ++ [x], true) := by unfold wstep; rw [if_pos he, if_pos hc]
        rw [e]
        refine (wfold_perm x l (o ++ [x]) true).trans ?_
        rw [hc.1]
        simp
      · have e : wstep x (o, b) y = (o, b) := by unfold wstep; rw [if_pos he, if_neg hc]
        rw [e]
        exact wfold_perm x l o b
    · rw [if_neg he]
      by_cases hc : b = false ∧ cmpL x.path y.path ≤ 0
      · have e : wstep x (o, b) y = (o ++ [x] ++ [y], true) := by unfold wstep; rw [if_neg he, if_pos hc]
        rw [e]
        refine (wfold_perm x l (o ++ [x] ++ [y]) true).trans ?_
        rw [hc.1]
        simp
      · have e : wstep x (o, b) y = (o ++ [y], b) := by unfold wstep; rw [if_neg he, if_neg hc]
        rw [e]
        refine (wfold_perm x l (o ++ [y]) b).trans ?_
        rw [List.append_assoc, List.append_assoc, List.append_assoc]
        refine List.Perm.append_left o ?_
        rw [← List.append_assoc]
        refine (List.Perm.append_right _ List.perm_append_comm).trans ?_
        rw [List.append_assoc]
        exact List.Perm.refl _
theorem with_perm (l : List It) (x : It) : (withR l x).Perm (x :: keepW x l) := by
  have := wfold_perm x l [] false
  simpa [withR] using this
theorem keep_len (x : It) (l : List It) : (keepW x l).length ≤ l.length := List.length_filter_le _ _
theorem keep_all {x : It} {l : List It} (h : l.length ≤ (keepW x l).length) : ∀ y ∈ l, y.path ≠ x.path := by
  intro y hy
  have h1 : (keepW x l).length = l.length := Nat.le_antisymm (keep_len x l) h
  have h2 := List.length_filter_eq_length_iff.1 h1 y hy
  simpa using h2
theorem fold_len : ∀ (m out : List It), (m.foldl withR out).length ≤ out.length + m.length ∧
    (out.length + m.length ≤ (m.foldl withR out).length → (m.map (·.path)).Nodup ∧ ∀ x ∈ m, ∀ y ∈ out, y.path ≠ x.path)
  | [], out => ⟨Nat.le_refl _, fun _ => ⟨List.nodup_nil, fun x hx => by cases hx⟩⟩
  | x :: m, out => by
    obtain ⟨h1, h2⟩ := fold_len m (withR out x)
    have hp := with_perm out x
    have hl : (withR out x).length = (keepW x out).length + 1 := by rw [hp.length_eq]; rfl
    have hk := keep_len x out
    refine ⟨by rw [List.foldl_cons, List.length_cons]; omega, fun h => ?_⟩
    rw [List.foldl_cons, List.length_cons] at h
    obtain ⟨n1, n2⟩ := h2 (by omega)
    have ha := keep_all (x := x) (l := out) (by omega)
    have hin : ∀ y ∈ out, y ∈ withR out x := fun y hy => hp.mem_iff.2 (List.mem_cons_of_mem _ (List.mem_filter.2 ⟨hy, by simp [ha y hy]⟩))
    refine ⟨?_, fun z hz y hy => ?_⟩
    · rw [List.map_cons, List.nodup_cons]
      refine ⟨fun hm => ?_, n1⟩
      obtain ⟨z, hz, e⟩ := List.mem_map.1 hm
      exact n2 z hz x (hp.mem_iff.2 (by simp)) e.symm
    · rcases List.mem_cons.1 hz with rfl | hz
      · exact ha y hy
      · exact n2 z hz y (hin y hy)
/-- What the reference puts together. -/
def allR (l : List It) : List It := l.foldl withR []
theorem allR_yes {l S : List It} (hp : S.Perm l) (hv : validT S = true) : allR l = S := by
  have hn : (l.map (·.path)).Nodup := (hp.map (·.path)).nodup_iff.1 (srt_nodup (valid_srt hv))
  obtain ⟨h1, h2⟩ := with_all l [] List.Pairwise.nil hn (fun x _ y hy => by cases hy)
  refine srt_ext h1 (valid_srt hv) fun x => ?_
  show x ∈ l.foldl withR [] ↔ _
  rw [h2, hp.mem_iff]
  simp
theorem allR_no {l : List It} (hl : (allR l).length = l.length) : (allR l).Perm l := by
  obtain ⟨_, h⟩ := fold_len l []
  have hn := (h (by simpa [allR] using Nat.le_of_eq hl.symm)).1
  obtain ⟨h1, h2⟩ := with_all l [] List.Pairwise.nil hn (fun x _ y hy => by cases hy)
  refine (List.perm_ext_iff_of_nodup (nodup_of_paths (srt_nodup h1)) (nodup_of_paths hn)).2 fun x => ?_
  show x ∈ l.foldl withR [] ↔ _
  rw [h2]
  simp
/-- Whether items are a tree's, in some order. -/
def treesB (l : List It) : Bool := decide ((allR l).length = l.length) && validT (allR l)
theorem trees_yes {l S : List It} (hp : S.Perm l) (hv : validT S = true) : treesB l = true ∧ allR l = S := by
  have e := allR_yes hp hv
  refine ⟨?_, e⟩
  unfold treesB
  rw [e, hv, hp.length_eq]
  simp
theorem trees_of {l : List It} (h : treesB l = true) : (allR l).Perm l ∧ validT (allR l) = true := by
  unfold treesB at h
  rw [Bool.and_eq_true, decide_eq_true_iff] at h
  exact ⟨allR_no h.1, h.2⟩
theorem trees_sorted {l S : List It} (hp : S.Perm l) (ho : S.Pairwise fun a b => ¬ cmpL b.path a.path < 0) : validT S = treesB l ∧ (treesB l = true → S = allR l) := by
  cases ht : treesB l with
  | true =>
    obtain ⟨h1, h2⟩ := trees_of ht
    have e := sorted_uniq hp h1 h2 ho
    exact ⟨by rw [e]; exact h2, fun _ => e⟩
  | false =>
    refine ⟨?_, fun h => by cases h⟩
    cases hv : validT S with
    | false => rfl
    | true => rw [(trees_yes hp hv).1] at ht; cases ht
end Go.Proofs.YtjbbnecegomkcaaGreatDoor

namespace Go.Proofs.YtjbbnecegomkcaaGreatDoor
open Go.RowKit Go.Shelf

/-- The tree of items, or none. -/
def ofL (l : List It) : List It := if treesB l = true then allR l else []
theorem fold_mem : ∀ (m out : List It) (z : It), z ∈ m.foldl withR out → z ∈ out ∨ z ∈ m
  | [], out, z, h => .inl h
  | x :: m, out, z, h => by
    rw [List.foldl_cons] at h
    rcases fold_mem m (withR out x) z h with h | h
    · rcases List.mem_cons.1 ((with_perm out x).mem_iff.1 h) with rfl | h
      · exact .inr (by simp)
      · exact .inl (List.mem_filter.1 h).1
    · exact .inr (by simp [h])
def ROf (l : List It) (w : World) (e : Ending) (w' : World) : Prop := ∃ a n c, e = .returned (.tuple #[.agg #[.slice a n c], .bool (treesB l)]) ∧ n = (ofL l).length ∧ OwnI w' w.heap.size (.slice a n c) (ofL l) ∧ Below w.heap.size w w'
theorem fold_take {l : List It} {k : Nat} {x : It} (h : l[k]? = some x) : allR (l.take (k + 1)) = withR (allR (l.take k)) x := by
  unfold allR
  rw [List.take_add_one, h, Option.toList_some, List.foldl_append, List.foldl_cons, List.foldl_nil]
theorem fold_len2 (l : List It) : (allR l).length ≤ l.length := by
  have := (fold_len l []).1
  simpa [allR] using this
set_option maxRecDepth 100000 in
set_option maxHeartbeats 16000000 in
theorem rof_any (l : List It) (v : Value) (w : World) (hv : RdI w v l) (hl : l.length ≤ 2001) (hsz : ∀ y ∈ l, y.path.length ≤ 2000000) : Calls Tryz.prog 15 #[v] w (ROf l w) := by
  obtain ⟨w1, hw1⟩ : ∃ z, z = (w.alloc (.cells #[.slice none 0 0] 24)).alloc (.cells #[.slice none 0 0] 24) := ⟨_, rfl⟩
  obtain ⟨b2, hb2⟩ : ∃ z, z = w.heap.size := ⟨_, rfl⟩
  have X2 : Hid (Box w1 b2 24 #[.slice none 0 0]) := Lib.hid (by rw [hw1, hb2]; exact box_new.alloc _)
  have X4 : Hid (Box w1 (b2 + 1) 24 #[.slice none 0 0]) := Lib.hid (by rw [hw1, hb2, show w.heap.size + 1 = (w.alloc (.cells #[.slice none 0 0] 24)).heap.size from by simp]; exact box_new)
  have HB : Hid (Below w.heap.size w w1) := Lib.hid (by rw [hw1]; exact bch (below_new _ _) (below_new _ _))
  have H2 : Hid (w.heap.size ≤ b2) := Lib.hid (by omega)
  have HV : Hid (RdI w v l) := Lib.hid hv
  have HSZ := Lib.hid hsz
  have HBE := Lib.hid hb2
  obtain ⟨a, c, rfl, hlc, hcm, _⟩ := hv.open
  obtain ⟨n, hn⟩ : ∃ m, m = l.length := ⟨_, rfl⟩
  rw [← hn] at HV hl hlc ⊢
  have HN := Lib.hid hn
  have OS0 : Hid (OwnI w1 w.heap.size (.slice none 0 0) []) := Lib.hid (World.ownsRow_nil _ _ _ _)
  unfold maxLen at hcm
  clear hv hsz hb2 hn
  go_enter Tryz.func15, Tryz.ntmps15
  go_upto_region 2 with fail
  rw [← hw1, ← HBE.out]
  clear hw1
  go_wp2_with fail
  go_loopw [9] (fun i W => ∃ (k : Nat) (a3 : Option Addr) (m3 c3 : Nat), k ≤ n ∧ i = .int .i64 k ∧ Hid (m3 = (allR (l.take k)).length) ∧ Hid (Box W (b2 + 1) 24 #[.slice a3 m3 c3]) ∧ Hid (OwnI W w.heap.size (.slice a3 m3 c3) (allR (l.take k))) ∧ Hid (Below w.heap.size w W) ∧ Hid (Box W b2 24 #[.slice none 0 0])) (fun i _ => n - (Lib.intOf i).toNat)
  case atStart => exact ⟨0, none, 0, 0, Nat.zero_le _, rfl, Lib.hid rfl, X4, OS0, HB, X2⟩
  case round =>
    clear X2 X4 HB OS0
    obtain ⟨k, a3, m3, c3, hk, rfl, HM, X4, HO, HB, X2⟩ := hrel
    obtain ⟨wq, hwq⟩ : ∃ q, q = wr := ⟨_, rfl⟩
    rw [← hwq] at X2 HO HB X4 ⊢
    clear hwq
    have hm3 : m3 ≤ 2001 := by
      have h1 := fold_len2 (l.take k)
      rw [← HM.out, List.length_take] at h1
      have := HN.out
      omega
    by_cases hlt : k < n
    · obtain ⟨x, hx⟩ : ∃ x, l[k]? = some x := ⟨_, List.getElem?_eq_getElem (by rw [← HN.out]; exact hlt)⟩
      obtain ⟨a', c', e, _, _, hc⟩ := (HV.out.on HB.out).open
      rw [← HN.out] at e
      cases e
      obtain ⟨g, o, rfl, hg, hc⟩ := hc (by rw [← HN.out]; omega)
      obtain ⟨q0, q1, q2⟩ := hc k x hx
      have k1 : (k : Int) < (n : Int) := by omega
      have k2 : (0 : Int) ≤ (k : Int) := by omega
      have k4 : IntKind.i64.wrap ((k : Int) + 1) = (k : Int) + 1 := IntWalk.i64_in _ (by omega)
      obtain ⟨w5, hw5⟩ : ∃ q, q = wq.alloc (.cells #[.string ⟨x.path.toArray⟩, .int .i64 x.kind, .string ⟨x.data.toArray⟩] 33) := ⟨_, rfl⟩
      have hb5 : Below wq.heap.size wq w5 := by rw [hw5]; exact below_new _ _
      have HX5 : Hid (Box w5 wq.heap.size 33 x.arr) := Lib.hid (by rw [hw5]; exact box_new)
      have HB5 : Hid (Below w.heap.size w w5) := Lib.hid (bch HB.out hb5)
      have HO5 := Lib.hid (HO.out.on hb5)
      have X25 := Lib.hid (X2.out.on hb5)
      have X45 := Lib.hid (X4.out.on hb5)
      have HFT := Lib.hid (fold_take hx)
      have HSX : Hid (x.path.length ≤ 2000000) := Lib.hid (HSZ.out x (List.mem_of_getElem? hx))
      have HSA : Hid (∀ y ∈ allR (l.take k), y.path.length ≤ 2000000) := Lib.hid (fun y hy => by
        rcases fold_mem _ _ y hy with h | h
        · cases h
        · exact HSZ.out y (List.mem_of_mem_take h))
      clear hc hx hb5 hg HO
      go_upto_region 5 with fail
      obtain ⟨b7, hb7⟩ : ∃ q, q = wq.heap.size := ⟨_, rfl⟩
      rw [← hb7] at HX5 ⊢
      rw [← hw5]
      clear hw5 hb7 q0 q1 q2 HB X2 X4
      have d0 : w5.cell? ⟨b7, 0, none⟩ = some (.string ⟨x.path.toArray⟩) := HX5.out.cell (k := 0) rfl
      have d1 : w5.cell? ⟨b7, 1, none⟩ = some (.int .i64 x.kind) := HX5.out.cell (k := 1) rfl
      have d2 : w5.cell? ⟨b7, 2, none⟩ = some (.string ⟨x.data.toArray⟩) := HX5.out.cell (k := 2) rfl
      have p0 := X45.out.cell (k := 0) rfl
      go_wp2_with fail
      clear d0 d1 d2 p0
      refine (rwith_any _ _ x w5 HO5.out.rd (by rw [← HM.out]; omega) HSA.out HSX.out).mono ?_
      rintro e w6 ⟨v6, rfl, hI, hb⟩
      obtain ⟨a5, c5, rfl, _, _⟩ := own_slice hI
      obtain ⟨m5, hm5⟩ : ∃ z, z = (withR (allR (l.take k)) x).length := ⟨_, rfl⟩
      rw [← hm5] at hI ⊢
      have HM5 : Hid (m5 = (allR (l.take (k + 1))).length) := Lib.hid (by rw [HFT.out]; exact hm5)
      have HO6 : Hid (OwnI w6 w.heap.size (.slice a5 m5 c5) (allR (l.take (k + 1)))) := Lib.hid (by rw [HFT.out]; exact own_base hI HB5.out.size)
      have X26 := Lib.hid (X25.out.on hb)
      have X46 := Lib.hid (X45.out.on hb)
      have HB6 := Lib.hid (bch HB5.out hb)
      clear hb hI hm5
      go_wp2_with (first
        | (refine wpList_store_row rfl 24 (.tmp 4) (.tmp 15) rfl (b2 + 1) #[.slice a5 m5 c5] rfl rfl 24 _ X46.out (info24 _) rfl (slice_one _ _ _) ?_)
        | fail)
      go_roundw
      case rel => exact ⟨k + 1, a5, m5, c5, hlt, by go_num, HM5, Lib.hid (X46.out.row _), Lib.hid (own_row HO6.out X46.out), Lib.hid (below_row HB6.out (Nat.le_succ_of_le H2.out) _), Lib.hid (X26.out.far_row (by omega) _)⟩
      case measure => simp [Lib.intOf]; omega
    · have k1 : ¬ ((k : Int) < (n : Int)) := by omega
      have hkn : l.take k = l := List.take_of_length_le (by have := HN.out; omega)
      rw [hkn] at HM HO
      have HTN := Lib.hid hlt
      clear hkn hlt
      have p0 := X4.out.cell (k := 0) rfl
      by_cases hm : m3 = n
      · have t1 : ((m3 : Int) != (n : Int)) = false := by subst hm; simp
        have HLE : Hid ((allR l).length = l.length) := Lib.hid (by rw [← HM.out, hm]; exact HN.out)
        clear hm
        go_wp2_with fail
        refine (rtree_any (allR l) _ wq HO.out.rd (fun y hy => by
          rcases fold_mem _ _ y hy with h | h
          · cases h
          · exact HSZ.out y h)).mono ?_
        rintro e w6 ⟨rfl, hb⟩
        obtain ⟨ok, hok⟩ : ∃ z, z = validT (allR l) := ⟨_, rfl⟩
        have HTB : Hid (treesB l = ok) := Lib.hid (by unfold treesB; rw [← hok, HLE.out]; simp)
        rw [← hok]
        have X26 := Lib.hid (X2.out.on hb)
        have X46 := Lib.hid (X4.out.on hb)
        have HO6 := Lib.hid (HO.out.on hb)
        have HB6 := Lib.hid (bch HB.out hb)
        clear hb hok p0
        cases ok with
        | true =>
          have HF : Hid (ofL l = allR l) := Lib.hid (by unfold ofL; rw [if_pos HTB.out])
          have p0 := X46.out.cell (k := 0) rfl
          go_wp2_with (first
            | (refine wpList_store_row rfl 24 (.tmp 2) (.tmp 29) rfl b2 #[.slice a3 m3 c3] rfl rfl 24 _ X26.out (info24 _) rfl (slice_one _ _ _) ?_)
            | fail)
          exact bodyPost_ret (end_tree2 rfl _ (X26.out.row _) rfl rfl) rfl ⟨a3, m3, c3, by rw [HTB.out]; rfl, by rw [HF.out]; exact HM.out, by rw [HF.out]; exact own_row HO6.out X26.out, below_row HB6.out H2.out _⟩
        | false =>
          have HF : Hid (ofL l = []) := Lib.hid (by unfold ofL; rw [if_neg (by rw [HTB.out]; simp)])
          go_wp2_with (first
            | (refine wpList_store_row rfl 24 (.tmp 2) (.tmp 28) rfl b2 #[.slice none 0 0] rfl rfl 24 _ X26.out (info24 _) rfl (slice_one _ _ _) ?_)
            | fail)
          exact bodyPost_ret (end_tree2 rfl _ (X26.out.row _) rfl rfl) rfl ⟨none, 0, 0, by rw [HTB.out]; rfl, by rw [HF.out]; rfl, by rw [HF.out]; exact World.ownsRow_nil _ _ _ _, below_row HB6.out H2.out _⟩
      · have t1 : ((m3 : Int) != (n : Int)) = true := by simp; omega
        have HTB : Hid (treesB l = false) := Lib.hid (by
          unfold treesB
          rw [← HM.out, ← HN.out]
          simp [hm])
        have HF : Hid (ofL l = []) := Lib.hid (by unfold ofL; rw [if_neg (by rw [HTB.out]; simp)])
        clear hm
        go_wp2_with (first
          | (refine wpList_store_row rfl 24 (.tmp 2) (.tmp 28) rfl b2 #[.slice none 0 0] rfl rfl 24 _ X2.out (info24 _) rfl (slice_one _ _ _) ?_)
          | fail)
        exact bodyPost_ret (end_tree2 rfl _ (X2.out.row _) rfl rfl) rfl ⟨none, 0, 0, by rw [HTB.out]; rfl, by rw [HF.out]; rfl, by rw [HF.out]; exact World.ownsRow_nil _ _ _ _, below_row HB.out H2.out _⟩
end Go.Proofs.YtjbbnecegomkcaaGreatDoor

namespace Go.Proofs.YtjbbnecegomkcaaGreatDoor
open Go.RowKit Go.Shelf Go.Lib
open Go.Sort hiding Below

theorem grow_of {W W' : World} (hb : Below W.heap.size W W') (hd : W.drawn ≤ W'.drawn) : ∃ q os, W' = grow (W.drewN q) os := by
  refine ⟨W'.drawn - W.drawn, W'.heap.extract W.heap.size W'.heap.size, ?_⟩
  obtain ⟨heap', tape', drawn', os', output'⟩ := W'
  have e1 : os' = W.os := hb.os
  have e2 : tape' = W.tape := hb.tape
  have e3 : output' = W.output := hb.output
  have hs : W.heap.size ≤ heap'.size := hb.size
  have hk : ∀ k, k < W.heap.size → heap'[k]? = W.heap[k]? := hb.block
  have hd' : W.drawn ≤ drawn' := hd
  subst e1 e2 e3
  have e4 : W.drawn + (drawn' - W.drawn) = drawn' := by omega
  have eh : heap' = W.heap ++ heap'.extract W.heap.size heap'.size := by
    apply Array.ext_getElem?
    intro k
    by_cases h : k < W.heap.size
    · rw [Array.getElem?_append_left h]; exact hk k h
    · rw [Array.getElem?_append_right (by omega), Array.getElem?_extract]
      by_cases h2 : k < heap'.size
      · rw [if_pos (by omega)]; congr 1; omega
      · rw [if_neg (by omega), Array.getElem?_eq_none (by omega)]
  show (⟨heap', W.tape, drawn', W.os, W.output⟩ : World) = ⟨W.heap ++ heap'.extract W.heap.size heap'.size, W.tape, W.drawn + (drawn' - W.drawn), W.os, W.output⟩
  rw [e4, ← eh]

/-- Items whose paths a machine can hold. -/
def SIt : Type := {x : It // x.path.length ≤ 140737488355328}
instance : Inhabited SIt := ⟨⟨.nil, Nat.zero_le _⟩⟩
def SIt.it (x : SIt) : It := x.1
def encT (x : SIt) : List Value := x.1.cells
def cfT (x y : SIt) : Int := cmpL x.1.path y.1.path
theorem lt_iff (x y : SIt) : ltOf cfT x y = true ↔ cmpL x.1.path y.1.path < 0 := by
  unfold ltOf cfT
  rw [decide_eq_true_iff]
theorem swoT : SWO (ltOf cfT) where
  irrefl x := by
    cases h : ltOf cfT x x with
    | false => rfl
    | true => exact absurd ((lt_iff x x).1 h) cl_irr
  trans x y z h1 h2 := (lt_iff x z).2 (cl_lt_trans ((lt_iff x y).1 h1) ((lt_iff y z).1 h2))
  ntrans x y z h1 h2 := by
    cases h : ltOf cfT x z with
    | false => rfl
    | true =>
      have n1 : ¬ cmpL x.1.path y.1.path < 0 := fun e => by rw [(lt_iff x y).2 e] at h1; cases h1
      have n2 : ¬ cmpL y.1.path z.1.path < 0 := fun e => by rw [(lt_iff y z).2 e] at h2; cases h2
      have n3 := (lt_iff x z).1 h
      have a1 := cl_anti x.1.path y.1.path
      have a2 := cl_anti y.1.path z.1.path
      have a3 := cl_anti x.1.path z.1.path
      have := cl_trans z.1.path y.1.path x.1.path (by omega) (by omega)
      omega
set_option maxHeartbeats 1000000 in
theorem oflit_any (x y : SIt) (W : World) : Calls Tryz.prog 43 #[.agg #[.string ⟨x.1.path.toArray⟩, .int .i64 x.1.kind, .string ⟨x.1.data.toArray⟩], .agg #[.string ⟨y.1.path.toArray⟩, .int .i64 y.1.kind, .string ⟨y.1.data.toArray⟩]] W fun e w' => e = .returned (.int .i64 (cmpL x.1.path y.1.path)) ∧ Below W.heap.size W w' := by
  obtain ⟨r, hr⟩ : ∃ z, z = cmpL x.1.path y.1.path := ⟨_, rfl⟩
  have HC : Hid (∀ W, Calls Tryz.prog 34 #[.string ⟨x.1.path.toArray⟩, .string ⟨y.1.path.toArray⟩] W fun e w' => e = .returned (.int .i64 r) ∧ Below W.heap.size W w') := Lib.hid (fun W => by
    have h := cmp_any ⟨x.1.path.toArray⟩ ⟨y.1.path.toArray⟩ (by show x.1.path.toArray.size ≤ _; rw [List.size_toArray]; exact x.2) (by show y.1.path.toArray.size ≤ _; rw [List.size_toArray]; exact y.2) W
    rw [hr]
    exact h)
  rw [← hr]
  clear hr
  obtain ⟨w1, hw1⟩ : ∃ z, z = (W.alloc (.cells #[.string ⟨x.1.path.toArray⟩, .int .i64 x.1.kind, .string ⟨x.1.data.toArray⟩] 33)).alloc (.cells #[.string ⟨y.1.path.toArray⟩, .int .i64 y.1.kind, .string ⟨y.1.data.toArray⟩] 33) := ⟨_, rfl⟩
  have HB : Hid (Below W.heap.size W w1) := Lib.hid (by rw [hw1]; exact bch (below_new _ _) (below_new _ _))
  go_enter Tryz.func43, Tryz.ntmps43
  go_wp2_with fail
  rw [← hw1]
  refine (HC.out w1).mono ?_
  rintro e w2 ⟨rfl, hb⟩
  go_wp2
  go_ret
  exact ⟨rfl, bch HB.out hb⟩
theorem lays43 (blk off size : Nat) (w : World) : CmpLays Tryz.prog 43 #[] encT 3 cfT blk off size w := fun m os dk _ x y =>
  (Draws.calls_drawn (oflit_any x y (sortWorldK encT 3 w blk off m dk os)) (fun _ _ h => ⟨_, h.1⟩)).mono fun _ _ h => ⟨h.1.1, grow_of h.1.2 h.2⟩
/-! ### Rows, and what the sort leaves -/
theorem flatK_list (d : Array SIt) : (flatK encT 3 d).toList = flatI (d.toList.map SIt.it) := by
  apply List.ext_getElem?
  intro t
  by_cases ht : t < d.size * 3
  · obtain ⟨q, r, hr, rfl⟩ : ∃ q r, r < 3 ∧ t = q * 3 + r := ⟨t / 3, t % 3, by omega, by omega⟩
    have hq : q < d.size := by omega
    rw [flat3 _ q r hr, Array.getElem?_toList]
    have h1 : (flatK encT 3 d)[q * 3 + r]? = some (flatK encT 3 d)[q * 3 + r]! := by
      rw [getElem!_pos _ _ (by rw [size_flatK]; exact ht)]
      exact Array.getElem?_eq_getElem _
    rw [h1, get_flatK _ _ _ _ ht, show (q * 3 + r) / 3 = q by omega, show (q * 3 + r) % 3 = r by omega, List.getElem?_map, Array.getElem?_toList, Array.getElem?_eq_getElem hq, getElem!_pos d q hq]
    show some ((encT d[q])[r]!) = ((d[q]).1.cells)[r]?
    have h2 : r < ((d[q]).1.cells).length := hr
    unfold encT
    rw [getElem!_pos ((d[q]).1.cells) r h2, List.getElem?_eq_getElem h2]
  · rw [List.getElem?_eq_none (by rw [Array.length_toList, size_flatK]; omega), List.getElem?_eq_none (by rw [flatI_len, List.length_map, Array.length_toList]; omega)]
theorem holds_own {w : World} {B g n c : Nat} {d : Array SIt} (hn : n = d.size) (h : w.ownsRow B 33 3 (.slice (some ⟨g, 0, none⟩) n c) n (flatI (d.toList.map SIt.it))) : HoldsK encT 3 w g 0 d := by
  intro j hj
  rw [size_flatK] at hj
  refine ⟨?_, by rw [Nat.zero_add]; exact h.frozenAt j⟩
  rw [Nat.zero_add, h.cellAt j (by omega), ← flatK_list, Array.getElem?_toList, getElem!_pos _ _ (by rw [size_flatK]; exact hj)]
  exact Array.getElem?_eq_getElem _
theorem heap_sortedT {w : World} {g n : Nat} {os : Array Obj} {cur : Array Value} {e : TypeId} {fr : Nat × Nat} (d : Array SIt) (hb : w.heap[g]? = some (.cells cur e fr)) :
    (sortWorldK encT 3 w g 0 n d os).heap[g]? = some (.cells (putCells id 0 (flatK encT 3 d) cur) e fr) := by
  have hg : g < w.heap.size := (Array.getElem?_eq_some_iff.1 hb).1
  unfold sortWorldK putRowK
  rw [heap_grow_old _ _ (by simpa using hg)]
  simp [putRow, mapBlock, Sort.ahead, Array.getElem?_modify, hb, onCells]
theorem below_sortedT {w : World} {B g n : Nat} {os : Array Obj} (d : Array SIt) (hB : B ≤ g) (hBs : B ≤ w.heap.size) : Below B w (sortWorldK encT 3 w g 0 n d os) := by
  unfold sortWorldK putRowK
  refine ⟨rfl, rfl, rfl, by simp [grow, putRow, mapBlock, Sort.ahead], fun k hk => ?_⟩
  rw [heap_grow_old _ _ (by simp [putRow, mapBlock, Sort.ahead]; omega)]
  have : g ≠ k := by omega
  simp [putRow, mapBlock, Sort.ahead, Array.getElem?_modify, this]
theorem take_putT (cur F : Array Value) (h : F.size ≤ cur.size) : (putCells id 0 F cur).toList.take F.size = F.toList := by
  apply List.ext_getElem?
  intro j
  by_cases hj : j < F.size
  · rw [List.getElem?_take_of_lt hj, Array.getElem?_toList]
    simp [putCells, hj, show j < cur.size by omega]
  · rw [List.getElem?_take_eq_none (by omega), List.getElem?_eq_none (by simp; omega)]
theorem own_sortedT {w : World} {B g n c m : Nat} {os : Array Obj} {d d' : Array SIt} (hn : n = d.size) (hs : d'.size = d.size) (h : w.ownsRow B 33 3 (.slice (some ⟨g, 0, none⟩) n c) n (flatI (d.toList.map SIt.it))) :
    (sortWorldK encT 3 w g 0 m d' os).ownsRow B 33 3 (.slice (some ⟨g, 0, none⟩) n c) n (flatI (d'.toList.map SIt.it)) := by
  rcases h.2 with ⟨h', _⟩ | ⟨g', c', cur, h', hB, hg, hnc, hcm, hcs, _⟩
  · simp at h'
  · simp only [Value.slice.injEq, Option.some.injEq, Addr.mk.injEq, and_true, true_and] at h'
    obtain ⟨rfl, rfl⟩ := h'
    refine ⟨by rw [flatI_len, List.length_map, Array.length_toList, hs, hn], .inr ⟨g, c, _, rfl, hB, heap_sortedT d' hg, hnc, hcm, by simp [putCells, hcs], ?_⟩⟩
    have := take_putT cur (flatK encT 3 d') (by rw [size_flatK, hcs, hs]; omega)
    rw [size_flatK, hs, ← hn, flatK_list] at this
    exact this
/-- The row of items, as the sort sees it. -/
def attT : (l : List It) → (∀ x ∈ l, x.path.length ≤ 140737488355328) → List SIt
  | [], _ => []
  | x :: l, h => ⟨x, h x (by simp)⟩ :: attT l fun y hy => h y (by simp [hy])
theorem attT_val : ∀ (l : List It) (h : ∀ x ∈ l, x.path.length ≤ 140737488355328), (attT l h).map SIt.it = l
  | [], _ => rfl
  | x :: l, h => by
    show x :: (attT l fun y hy => h y (by simp [hy])).map SIt.it = x :: l
    rw [attT_val l]
/-! ### A row of none -/
set_option maxHeartbeats 2000000 in
theorem ins_none (a : Option Addr) (c : Nat) (fv : Value) (w : World) : Calls Tryz.prog 87 #[.slice a 0 c, .int .i64 0, .int .i64 0, fv] w fun e w' => e = .returned (.tuple #[]) ∧ w' = w := by
  go_enter Tryz.func87, Tryz.ntmps87
  go_wp2
  refine wp_loop_rounds 1 ?_
  rw [rounds_succ]
  go_wp2
  go_end0
  exact ⟨rfl, rfl⟩
set_option maxHeartbeats 2000000 in
theorem pdq_none (a : Option Addr) (c : Nat) (z : Int) (fv : Value) (w : World) : Calls Tryz.prog 64 #[.slice a 0 c, .int .i64 0, .int .i64 0, .int .i64 z, fv] w fun e w' => e = .returned (.tuple #[]) ∧ w' = w := by
  go_enter Tryz.func64, Tryz.ntmps64
  go_wp2
  refine wp_loop_rounds 1 ?_
  rw [rounds_succ]
  go_wp2_with (go_at_call 87; refine (ins_none a c fv _).mono ?_; rintro e w' ⟨rfl, rfl⟩)
  (try simp only [Exit.inBlock, Exit.then])
  refine bodyPost_ret (results_none rfl _ _ _) rfl ?_
  exact ⟨rfl, rfl⟩
theorem len_none (w : World) : Calls Tryz.prog 65 #[.int .u64 0] w fun e w' => e = .returned (.int .i64 (Lib.bitLen 0 : Nat)) ∧ w' = w := by
  have L := Tryz.sortItems
  exact Any.bits_Len (SlLaysF0.n15.bits (P := Tryz.prog) (ρ := Tryz.sortItems_ren) { L with }) 0 w (by omega) (by omega)
set_option maxHeartbeats 2000000 in
theorem sort_none (a : Option Addr) (c : Nat) (fv : Value) (w : World) : Calls Tryz.prog 42 #[.slice a 0 c, fv] w fun e w' => e = .returned (.tuple #[]) ∧ w' = w := by
  go_enter Tryz.func42, Tryz.ntmps42
  go_wp2_with (first | (go_at_call 65; refine (len_none _).mono ?_; rintro e w' ⟨rfl, rfl⟩) | (go_at_call 64; refine (pdq_none a c _ fv _).mono ?_; rintro e w' ⟨rfl, rfl⟩))
  go_end0
  exact ⟨rfl, rfl⟩
def SortP (l : List It) (B g c : Nat) (w : World) (e : Ending) (w' : World) : Prop :=
  e = .returned (.tuple #[]) ∧ ∃ S : List It, S.Perm l ∧ (S.Pairwise fun a b => ¬ cmpL b.path a.path < 0) ∧ OwnI w' B (.slice (some ⟨g, 0, none⟩) l.length c) S ∧ Below B w w'
theorem sort_any (l : List It) (B g c : Nat) (w : World) (ho : OwnI w B (.slice (some ⟨g, 0, none⟩) l.length c) l) (hx : ∀ x ∈ l, x.path.length ≤ 140737488355328) (hB : B ≤ w.heap.size) (hl : l.length ≤ 1000000) :
    Calls Tryz.prog 42 #[.slice (some ⟨g, 0, none⟩) l.length c, .func (.func 43) #[] #[]] w (SortP l B g c w) := by
  have hv := attT_val l hx
  obtain ⟨d, hd⟩ : ∃ z, z = (attT l hx).toArray := ⟨_, rfl⟩
  have hdl : d.toList.map SIt.it = l := by rw [hd]; exact hv
  have hds : d.size = l.length := by rw [← hdl, List.length_map, Array.length_toList]
  have ho2 : w.ownsRow B 33 3 (.slice (some ⟨g, 0, none⟩) l.length c) l.length (flatI (d.toList.map SIt.it)) := by rw [hdl]; exact ho
  have hg := ho2.lt g rfl
  have eg : ∀ args w, (callFunc 43 args).run Tryz.prog w = .ok (.enter 43 args) w := enters_of Tryz.func43 (by kernel_rfl) rfl
  have hc := AnyQ.slices_SortFunc Tryz.sortItems 3 Tryz.isAgg33 Tryz.sizeOf33 encT (fun _ => rfl) (fun x v h => it_one x.1 v h) cfT swoT 43 #[] g 0 c d w eg (lays43 g 0 d.size w) (holds_own hds.symm ho2) hg.2 (by omega)
  change Calls Tryz.prog 42 _ _ _ at hc
  rw [hds] at hc
  refine hc.mono ?_
  rintro e w' ⟨rfl, d', n, os, hp, hs, rfl⟩
  obtain ⟨hps, _, hpp⟩ := hp
  rw [← hds] at hpp hs
  have hpl : d'.toList.Perm d.toList := by
    rw [show d'.extract 0 d.size = d' by rw [← (show d'.size = d.size from hps)]; exact Array.extract_size, Array.extract_size] at hpp
    exact hpp
  refine ⟨rfl, d'.toList.map SIt.it, by rw [← hdl]; exact hpl.map _, ?_, ?_, below_sortedT d' hg.1 hB⟩
  · rw [List.pairwise_map, List.pairwise_iff_getElem]
    intro i j hi hj hij h
    rw [Array.length_toList] at hi hj
    have h1 := hs i j (Nat.zero_le _) hij (by rw [← (show d'.size = d.size from hps)]; exact hj)
    rw [getElem!_pos d' i hi, getElem!_pos d' j hj] at h1
    have h5 : cmpL d'[j].it.path d'[i].it.path < 0 := by simpa using h
    rw [(lt_iff d'[j] d'[i]).2 h5] at h1
    cases h1
  · have h9 := own_sortedT (m := n) (os := os) hds.symm hps ho2
    unfold OwnI
    rw [show (d'.toList.map SIt.it).length = l.length by rw [List.length_map, Array.length_toList, hps, hds]]
    exact h9
end Go.Proofs.YtjbbnecegomkcaaGreatDoor

namespace Go.Proofs.YtjbbnecegomkcaaGreatDoor
open Go.RowKit Go.Shelf

theorem trees_many {l : List It} (h : 2000 < l.length) : treesB l = false := by
  cases e : treesB l with
  | false => rfl
  | true =>
    obtain ⟨h1, h2⟩ := trees_of e
    have := (tree_ok h2).many
    rw [h1.length_eq] at this
    omega
def OfU (l : List It) (w : World) (e : Ending) (w' : World) : Prop := ∃ a n c, e = .returned (.tuple #[.agg #[.slice a n c], .int .i64 (if treesB l = true then 0 else 160)]) ∧ n = (ofL l).length ∧ OwnI w' w.heap.size (.slice a n c) (ofL l) ∧ Below w.heap.size w w'
/-- The sort, of a row that may be none. -/
theorem sort_u (l : List It) (B n : Nat) (a : Option Addr) (c : Nat) (w : World) (hn : n = l.length) (ho : OwnI w B (.slice a n c) l) (hx : ∀ x ∈ l, x.path.length ≤ 140737488355328) (hB : B ≤ w.heap.size) (hl : l.length ≤ 1000000) :
    Calls Tryz.prog 42 #[.slice a n c, .func (.func 43) #[] #[]] w fun e w' => e = .returned (.tuple #[]) ∧ ∃ S : List It, S.Perm l ∧ (S.Pairwise fun a b => ¬ cmpL b.path a.path < 0) ∧ OwnI w' B (.slice a n c) S ∧ Below B w w' := by
  subst hn
  rcases own_form ho with ⟨rfl, h0⟩ | ⟨b, c', e, _⟩
  · have ha : a = none := by
      have hh := ho.2
      rcases hh with ⟨h, _⟩ | ⟨g, c', cur, h, _⟩
      · cases h; rfl
      · rw [h] at h0; cases h0
    subst ha
    refine (sort_none none c _ w).mono ?_
    rintro e w' ⟨rfl, rfl⟩
    exact ⟨rfl, [], List.Perm.refl _, List.Pairwise.nil, ho, Below.refl _ _⟩
  · cases e
    exact sort_any l B b c w ho hx hB hl
set_option maxRecDepth 100000 in
set_option maxHeartbeats 4000000 in
theorem tof_any (l : List It) (v : Value) (w : World) (hv : RdI w v l) (hx : ∀ x ∈ l, x.path.length ≤ 140737488355328) (hT : Tabs w) : Calls Tryz.prog 14 #[v] w (OfU l w) := by
  obtain ⟨w1, hw1⟩ : ∃ z, z = w.alloc (.cells #[.slice none 0 0] 24) := ⟨_, rfl⟩
  obtain ⟨b2, hb2⟩ : ∃ z, z = w.heap.size := ⟨_, rfl⟩
  have X2 : Hid (Box w1 b2 24 #[.slice none 0 0]) := Lib.hid (by rw [hw1, hb2]; exact box_new)
  have HB : Hid (Below w.heap.size w w1) := Lib.hid (by rw [hw1]; exact below_new _ _)
  have H2 : Hid (w.heap.size ≤ b2) := Lib.hid (by omega)
  have HV : Hid (RdI w1 v l) := Lib.hid (hv.on HB.out)
  have HX := Lib.hid hx
  have HT := Lib.hid hT
  obtain ⟨a, c, rfl, hlc, hcm, _⟩ := hv.open
  obtain ⟨n, hn⟩ : ∃ m, m = l.length := ⟨_, rfl⟩
  rw [← hn] at HV hlc ⊢
  have HN := Lib.hid hn
  unfold maxLen at hcm
  clear hv hx hT hn
  by_cases hm : 2000 < n
  · have t1 : (2000 : Int) < (n : Int) := by omega
    have HTB : Hid (treesB l = false) := Lib.hid (trees_many (by rw [← HN.out]; exact hm))
    have HF : Hid (ofL l = []) := Lib.hid (by unfold ofL; rw [if_neg (by rw [HTB.out]; simp)])
    clear hm
    go_enter Tryz.func14, Tryz.ntmps14
    go_upto_region 1 with fail
    rw [← hw1, ← hb2]
    clear hw1 hb2
    go_wp2_with (first
      | (refine wpList_store_row rfl 24 (.tmp 2) (.tmp 8) rfl b2 #[.slice none 0 0] rfl rfl 24 _ X2.out (info24 _) rfl (slice_one _ _ _) ?_)
      | fail)
    exact bodyPost_ret (end_tree2 rfl _ (X2.out.row _) rfl rfl) rfl ⟨none, 0, 0, by rw [HTB.out]; rfl, by rw [HF.out]; rfl, by rw [HF.out]; exact World.ownsRow_nil _ _ _ _, below_row HB.out H2.out _⟩
  · have t1 : ¬ ((2000 : Int) < (n : Int)) := by omega
    have t1' : (n : Int) ≤ 2000 := by omega
    go_enter Tryz.func14, Tryz.ntmps14
    go_upto_region 1 with fail
    rw [← hw1, ← hb2]
    clear hw1 hb2
    go_wp2_with fail
    refine (clone_any l _ w1 HV.out (by rw [← HN.out]; omega)).mono ?_
    rintro e w2 ⟨x, rfl, hI, hb⟩
    have hI2 : OwnI w2 w1.heap.size x l := hI
    obtain ⟨a3, c3, rfl, _, _⟩ := own_slice hI2
    rw [← HN.out] at hI2 ⊢
    have HO := Lib.hid hI2
    have X22 := Lib.hid (X2.out.on hb)
    have HB2 := Lib.hid (bch HB.out hb)
    have HS : Hid (w1.heap.size ≤ w2.heap.size) := Lib.hid hb.size
    have HG : Hid (b2 < w1.heap.size) := Lib.hid X2.out.lt
    clear hI hI2 hb
    go_wp2_with fail
    refine (sort_u l w1.heap.size n a3 c3 w2 HN.out HO.out HX.out HS.out (by rw [← HN.out]; omega)).mono ?_
    rintro e w3 ⟨rfl, S, hp, hs, hI, hb⟩
    have X23 := Lib.hid (X22.out.below hb HG.out)
    have HB3 : Hid (Below w.heap.size w w3) := Lib.hid (HB2.out.trans (hb.mono HB.out.size))
    have hts := trees_sorted hp hs
    obtain ⟨ok, hok⟩ : ∃ z, z = treesB l := ⟨_, rfl⟩
    rw [← hok] at hts
    have HTB := Lib.hid hok
    have HVS : Hid (ok = validT S) := Lib.hid hts.1.symm
    have HSE := Lib.hid hts.2
    have HIS := Lib.hid hI
    have HXS : Hid (∀ x ∈ S, x.path.length ≤ 140737488355328) := Lib.hid (fun x h => HX.out x (hp.mem_iff.1 h))
    have HPL : Hid (S.length = n) := Lib.hid (by rw [hp.length_eq]; exact HN.out.symm)
    clear hp hs hI hb hts hok
    go_wp2_with fail
    refine (tvalid_is S ok HVS.out _ w3 HIS.out.rd HXS.out (HT.out.on HB3.out)).mono ?_
    rintro e w4 ⟨rfl, hb⟩
    have X24 := Lib.hid (X23.out.on hb)
    have HB4 := Lib.hid (bch HB3.out hb)
    have HI4 := Lib.hid (HIS.out.on hb)
    clear hb
    cases ok with
    | true =>
      have HF : Hid (ofL l = S) := Lib.hid (by unfold ofL; rw [← HTB.out, if_pos rfl]; exact (HSE.out rfl).symm)
      have bx := b24x a3 n c3
      go_wp2_with (first
        | (refine wpList_store_row rfl 24 (.tmp 2) (.tmp 18) rfl b2 #[.slice a3 n c3] rfl rfl 24 _ X24.out (info24 _) rfl (slice_one _ _ _) ?_)
        | fail)
      exact bodyPost_ret (end_tree2 rfl _ (X24.out.row _) rfl rfl) rfl ⟨a3, n, c3, by rw [← HTB.out]; rfl, by rw [HF.out]; exact HPL.out.symm, by rw [HF.out]; exact own_base (own_row HI4.out X24.out) HB.out.size, below_row HB4.out H2.out _⟩
    | false =>
      have HF : Hid (ofL l = []) := Lib.hid (by unfold ofL; rw [← HTB.out]; rfl)
      go_wp2_with (first
        | (refine wpList_store_row rfl 24 (.tmp 2) (.tmp 16) rfl b2 #[.slice none 0 0] rfl rfl 24 _ X24.out (info24 _) rfl (slice_one _ _ _) ?_)
        | fail)
      exact bodyPost_ret (end_tree2 rfl _ (X24.out.row _) rfl rfl) rfl ⟨none, 0, 0, by rw [← HTB.out]; rfl, by rw [HF.out]; rfl, by rw [HF.out]; exact World.ownsRow_nil _ _ _ _, below_row HB4.out H2.out _⟩
end Go.Proofs.YtjbbnecegomkcaaGreatDoor

namespace Go.Proofs.YtjbbnecegomkcaaGreatDoor
open Go.RowKit Go.Shelf

/-- Another world, but for one block. -/
structure Asd (g : Nat) (W W' : World) : Prop where
  os : W'.os = W.os
  tape : W'.tape = W.tape
  output : W'.output = W.output
  size : W'.heap.size = W.heap.size
  block : ∀ k, k ≠ g → W'.heap[k]? = W.heap[k]?
theorem Asd.refl (g : Nat) (W : World) : Asd g W W := ⟨rfl, rfl, rfl, rfl, fun _ _ => rfl⟩
theorem Asd.set {g : Nat} {W W' : World} (h : Asd g W W') (j : Nat) (u : Value) : Asd g W (W'.setCell ⟨g, j, none⟩ u) :=
  ⟨h.os, h.tape, h.output, by simpa using h.size, fun k hk => (heap_setCell_other W' ⟨g, j, none⟩ k u hk).trans (h.block k hk)⟩
theorem Asd.box {g b : Nat} {t : TypeId} {cs : Array Value} {W W' : World} (h : Asd g W W') (X : Box W b t cs) (hb : b ≠ g) : Box W' b t cs := (h.block b hb).trans X
theorem Asd.own {g B : Nat} {v : Value} {l : List It} {W W' : World} (h : Asd g W W') (ho : OwnI W B v l) (hv : ∀ k, v.ownBlock = some k → k ≠ g) : OwnI W' B v l := ownR_far ho fun k hk => h.block k (hv k hk)
theorem Asd.below {g B : Nat} {w W W' : World} (h : Asd g W W') (hB : Below B w W) (hg : B ≤ g) : Below B w W' :=
  ⟨h.os.trans hB.os, h.tape.trans hB.tape, h.output.trans hB.output, by rw [h.size]; exact hB.size, fun k hk => (h.block k (by omega)).trans (hB.block k hk)⟩
theorem OwnI.lts {w : World} {B : Nat} {v : Value} {l : List It} (h : OwnI w B v l) : ∀ k, v.ownBlock = some k → B ≤ k ∧ k < w.heap.size := fun k hk => by
  obtain ⟨h1, cs, h2⟩ := ownR_blk h hk
  exact ⟨h1, (Array.getElem?_eq_some_iff.1 h2).1⟩
theorem own_pick2 {W : World} {B : Nat} {v : Value} {l : List It} (h : OwnI W B v l) :
    ∃ g, B ≤ g ∧ (∀ b cs, Box W b 24 cs → b ≠ g) ∧ (0 < l.length → ∃ c, v = .slice (some ⟨g, 0, none⟩) l.length c) := by
  rcases h.2 with ⟨rfl, h0⟩ | ⟨g, c, cur, rfl, hBg, hg, _⟩
  · exact ⟨W.heap.size + B, by omega, fun b cs X => by have := X.lt; omega, fun h1 => by omega⟩
  · refine ⟨g, hBg, fun b cs X e => ?_, fun _ => ⟨c, rfl⟩⟩
    subst e
    rw [show W.heap[b]? = _ from X] at hg
    cases hg
theorem few_self {l : List It} (h : l.length ≤ 120) : fewL l = l := by
  unfold fewL
  rw [if_neg (by omega), List.take_of_length_le h]
theorem few_few (l : List It) : fewL (fewL l) = fewL l := by
  by_cases h : 2000 < l.length
  · have e : fewL l = l.take 2001 := by unfold fewL; rw [if_pos h]
    rw [e]
    unfold fewL
    rw [if_pos (by rw [List.length_take]; omega), List.take_take, Nat.min_self]
  · exact few_self (by unfold fewL; rw [if_neg h, List.length_take]; omega)
theorem few_mem {l : List It} {x : It} (h : x ∈ fewL l) : x ∈ l := by
  unfold fewL at h
  split at h
  · exact List.mem_of_mem_take h
  · exact List.mem_of_mem_take h
/-- The paths in the cells of a row of items. -/
def PsI (xs : List Value) (n : Nat) : Prop := ∀ i, i < n → ∃ z, xs[i * 3]? = some (.string z)
theorem psI_flat (l : List It) : PsI (flatI l) l.length := by
  intro i hi
  obtain ⟨x, hx⟩ : ∃ x, l[i]? = some x := ⟨_, List.getElem?_eq_getElem hi⟩
  refine ⟨⟨x.path.toArray⟩, ?_⟩
  have := flat3 l i 0 (by omega)
  rw [hx] at this
  exact this
theorem PsI.set {xs : List Value} {n : Nat} (h : PsI xs n) (j : Nat) (z : ByteArray) : PsI (xs.set (j * 3) (.string z)) n := by
  intro i hi
  obtain ⟨y, hy⟩ := h i hi
  rw [List.getElem?_set]
  by_cases e : j * 3 = i * 3
  · rw [if_pos e, if_pos (by have := (List.getElem?_eq_some_iff.1 hy).1; omega)]
    exact ⟨z, rfl⟩
  · rw [if_neg e]
    exact ⟨y, hy⟩
theorem few_2001 (l : List It) : (fewL l).length ≤ 2001 := by
  unfold fewL
  split <;> rw [List.length_take] <;> omega
theorem OwnI.boxed {W : World} {B b : Nat} {v : Value} {l : List It} {cs : Array Value} (h : OwnI W B v l) (Z : Box W b 24 cs) (k : Nat) (u : Value) : OwnI (W.setCell ⟨b, k, none⟩ u) B v l :=
  ownR_far h fun q hq => heap_setCell_other W ⟨b, k, none⟩ q u (fun e => by
    have e' : q = b := e
    subst e'
    obtain ⟨_, c, hc⟩ := ownR_blk h hq
    rw [show W.heap[q]? = _ from Z] at hc
    cases hc)
set_option maxHeartbeats 1000000 in
theorem tcheck_any (l : List It) (v : Value) (w : World) (hv : RdI w v l) (hx : ∀ x ∈ l, x.path.length ≤ 140737488355328) (hT : Tabs w) : Calls Tryz.prog 10 #[.agg #[v]] w fun e w' => e = .returned (.int .i64 (errT (validT l))) ∧ Below w.heap.size w w' := by
  obtain ⟨w1, hw1⟩ : ∃ z, z = w.alloc (.cells #[v] 24) := ⟨_, rfl⟩
  obtain ⟨bX, hbX⟩ : ∃ z, z = w.heap.size := ⟨_, rfl⟩
  have XX : Hid (Box w1 bX 24 #[v]) := Lib.hid (by rw [hw1, hbX]; exact box_new)
  have HB : Hid (Below w.heap.size w w1) := Lib.hid (by rw [hw1]; exact below_new _ _)
  obtain ⟨ok, hok⟩ : ∃ z, z = validT l := ⟨_, rfl⟩
  have HV := Lib.hid (tvalid_is l ok hok v w1 (hv.on HB.out) hx (hT.on HB.out))
  rw [← hok]
  obtain ⟨a, c, rfl, _⟩ := hv.open
  obtain ⟨q, hq⟩ : ∃ z, z = l.length := ⟨_, rfl⟩
  rw [← hq] at HV XX hw1 ⊢
  clear hv hx hT hok hq
  go_enter Tryz.func10, Tryz.ntmps10
  go_upto_region 1 with fail
  rw [← hbX, ← hw1]
  clear hw1 hbX
  have p0 := XX.out.cell (k := 0) rfl
  go_wp2_with fail
  refine HV.out.mono ?_
  rintro e w2 ⟨rfl, hb⟩
  cases ok <;> (go_wp2; go_ret; exact ⟨rfl, bch HB.out hb⟩)
theorem index27 (x y : Value) (w : World) : (Instr.index 27 (.agg #[x, y]) (.int .i64 0)).run Tryz.prog w = .ok (.agg #[x]) w ∧ (Instr.index 27 (.agg #[x, y]) (.int .i64 1)).run Tryz.prog w = .ok (.agg #[y]) w := by
  constructor <;> simp [Instr.index, Sem.run_bind, run_underlying Tryz.underlying27, asIntOf, Tryz.sizeOf24, Go.part, Tryz.isAgg24]
theorem eq_self {α : Type} [DecidableEq α] (l : α) : decide (l = l) = true := decide_eq_true rfl
set_option maxRecDepth 100000 in
set_option maxHeartbeats 16000000 in
theorem may6_any (lx ly ll : List It) (vx vy vl : Value) (w : World) (hx : RdI w vx lx) (hy : RdI w vy ly) (hl : RdI w vl ll) (sx : ∀ x ∈ lx, x.path.length ≤ 2000000) (sy : ∀ x ∈ ly, x.path.length ≤ 2000000) (sl : ∀ x ∈ ll, x.path.length ≤ 2000000) (hT : TabS w) :
    Calls Tryz.prog 3 #[.agg #[vx], .agg #[vy], vl] w (EqR true w) := by
  have HX := Lib.hid hx
  have HY := Lib.hid hy
  have HL := Lib.hid hl
  have HT := Lib.hid hT
  obtain ⟨ax, cx, rfl, -⟩ := hx.open
  obtain ⟨ay, cy, rfl, -⟩ := hy.open
  obtain ⟨al, cl, rfl, -⟩ := hl.open
  obtain ⟨nx, hnx⟩ : ∃ n, n = lx.length := ⟨_, rfl⟩
  obtain ⟨ny, hny⟩ : ∃ n, n = ly.length := ⟨_, rfl⟩
  obtain ⟨nl, hnl⟩ : ∃ n, n = ll.length := ⟨_, rfl⟩
  rw [← hnx] at HX ⊢
  rw [← hny] at HY ⊢
  rw [← hnl] at HL ⊢
  obtain ⟨fa, hfa⟩ : ∃ t, t = fewL lx := ⟨_, rfl⟩
  obtain ⟨fb, hfb⟩ : ∃ t, t = fewL ly := ⟨_, rfl⟩
  obtain ⟨F, hF⟩ : ∃ t, t = fewL ll := ⟨_, rfl⟩
  obtain ⟨na, hna⟩ : ∃ t, t = fa.length := ⟨_, rfl⟩
  obtain ⟨nb, hnb⟩ : ∃ t, t = fb.length := ⟨_, rfl⟩
  have HFA := Lib.hid hfa
  have HFB := Lib.hid hfb
  have HFL := Lib.hid hF
  have HNA := Lib.hid hna
  have HNB := Lib.hid hnb
  have SA : Hid (∀ x ∈ fa, x.path.length ≤ 2000000) := Lib.hid (fun x h => sx x (few_mem (by rw [← hfa]; exact h)))
  have SB : Hid (∀ x ∈ fb, x.path.length ≤ 2000000) := Lib.hid (fun x h => sy x (few_mem (by rw [← hfb]; exact h)))
  have SF : Hid (∀ x ∈ F, x.path.length ≤ 2000000) := Lib.hid (fun x h => sl x (few_mem (by rw [← hF]; exact h)))
  have HFM : Hid (F.length ≤ 2001) := Lib.hid (by rw [hF]; exact few_2001 ll)
  obtain ⟨w1, hw1⟩ : ∃ q, q = (w.alloc (.cells #[.slice ax nx cx] 24)).alloc (.cells #[.slice ay ny cy] 24) := ⟨_, rfl⟩
  obtain ⟨bX, hbX⟩ : ∃ q, q = w.heap.size := ⟨_, rfl⟩
  have X1 : Hid (Box w1 bX 24 #[.slice ax nx cx]) := Lib.hid (by rw [hw1, hbX]; exact box_new.alloc _)
  have X2 : Hid (Box w1 (bX + 1) 24 #[.slice ay ny cy]) := Lib.hid (by rw [hw1, hbX, show w.heap.size + 1 = (w.alloc (.cells #[.slice ax nx cx] 24)).heap.size from by simp]; exact box_new)
  have B1 : Hid (Below w.heap.size w w1) := Lib.hid (by rw [hw1]; exact bch (below_new _ _) (below_new _ _))
  clear hx hy hl sx sy sl hT hnx hny hnl hfa hfb hF hna hnb
  go_enter Tryz.func3, Tryz.ntmps3
  go_upto_region 1 with fail
  rw [← hw1, ← hbX]
  clear hw1 hbX
  go_wp2_with fail
  refine (wakes6_any w1 (HT.out.on B1.out)).mono ?_
  rintro e w2 ⟨rfl, hb⟩
  replace X1 := Lib.hid (X1.out.on hb)
  replace X2 := Lib.hid (X2.out.on hb)
  have B2 := Lib.hid (bch B1.out hb)
  clear hb B1
  go_upto_region 3 with fail
  obtain ⟨w3, hw3⟩ : ∃ q, q = World.drew w2 := ⟨_, rfl⟩
  replace X1 : Hid (Box w3 bX 24 #[.slice ax nx cx]) := Lib.hid (by rw [hw3]; exact X1.out)
  replace X2 : Hid (Box w3 (bX + 1) 24 #[.slice ay ny cy]) := Lib.hid (by rw [hw3]; exact X2.out)
  have B3 : Hid (Below w.heap.size w w3) := Lib.hid (by rw [hw3]; exact B2.out.drew)
  have HX3 := Lib.hid (HX.out.on B3.out)
  have HY3 := Lib.hid (HY.out.on B3.out)
  go_cut [7, 8] (fun p7 p8 wx => ∃ g7 g8 aa ca ab cb, p7 = .pointer (some ⟨g7, 0, none⟩) ∧ p8 = .pointer (some ⟨g8, 0, none⟩) ∧ Hid (w3.heap.size ≤ g7) ∧ Hid (w3.heap.size ≤ g8) ∧ Hid (Box wx g7 24 #[.slice aa na ca]) ∧ Hid (Box wx g8 24 #[.slice ab nb cb]) ∧ Hid (OwnI wx w3.heap.size (.slice aa na ca) fa) ∧ Hid (OwnI wx w3.heap.size (.slice ab nb cb) fb) ∧ Hid (Below w3.heap.size w3 wx))
  case first =>
    rename_i J2 K2 hJ hK2
    obtain ⟨v0, hv0⟩ : ∃ q, q = World.drew w2 := ⟨_, rfl⟩
    refine wp_region_held_drew (S := fun w' => Below w3.heap.size w3 w') (by kernel_rfl) (by rw [← hw3]; exact Below.refl _ _) (fun hHeld => ?_)
    rw [← hv0] at hHeld ⊢
    clear hv0 hw3
    refine wpAnyH_take (i := 0) (oi := { dst := some 20, op := Op.load 24 (Operand.tmp 3), type := 24, pos := "law.go:36", after := #[], guard := none }) (v := ?_) rfl (by kernel_rfl) (by kernel_rfl) (by kernel_rfl) (fun _ _ _ h => h) (Or.inl ⟨by rfl, ?_⟩) hHeld ?_
    rotate_left
    · (intro w hSw; have p0 := (X1.out.on hSw).cell (k := 0) rfl; go_simp; try with_reducible rfl)
    (try simp only [Act.put, List.setIfInBounds_toArray, List.set_cons_zero, List.set_cons_succ])
    refine wpAnyH_take (i := 2) (oi := { dst := some 22, op := Op.load 24 (Operand.tmp 4), type := 24, pos := "law.go:36", after := #[], guard := none }) (v := ?_) rfl (by kernel_rfl) (by kernel_rfl) (by kernel_rfl) (fun _ _ _ h => h) (Or.inl ⟨by rfl, ?_⟩) hHeld ?_
    rotate_left
    · (intro w hSw; have p0 := (X2.out.on hSw).cell (k := 0) rfl; go_simp; try with_reducible rfl)
    (try simp only [Act.put, List.setIfInBounds_toArray, List.set_cons_zero, List.set_cons_succ])
    refine wpAnyH_ready (rs := [1, 4, 5]) (by kernel_rfl) (by simp) (AllReadyH.cons (o := { dst := some 21, op := Op.call { callee := Callee.value (Operand.func 9), args := #[Operand.tmp 20], argTypes := #[24] }, type := 24, pos := "law.go:36", after := #[{ on := 0, ground := Ground.data }], guard := none }) rfl (fun K hK => ?_) (AllReadyH.cons (o := { dst := some 7, op := Op.alloc 24, type := 0, pos := "law.go:36", after := #[], guard := none }) rfl (fun K hK => ?_) (AllReadyH.cons (o := { dst := some 8, op := Op.alloc 24, type := 0, pos := "law.go:36", after := #[], guard := none }) rfl (fun K hK => ?_) AllReadyH.nil)))
    · go_simp
      refine (own6_any lx _ v0 (HX3.out.on hHeld)).mono ?_
      rintro e v1 ⟨x9, rfl, hown, hba⟩
      rw [← HFA.out] at hown
      obtain ⟨aa, ca, rfl, _, _⟩ := own_slice hown
      have OA : Hid (OwnI v1 w3.heap.size (.slice aa fa.length ca) fa) := Lib.hid (own_base hown hHeld.size)
      rw [← HNA.out] at OA ⊢
      refine hK.out _ _ (bch hHeld hba) (fun hHeld => ?_)
      clear hown hba
      (try simp only [Act.put, List.setIfInBounds_toArray, List.set_cons_zero, List.set_cons_succ])
      refine wpAnyH_ready (rs := [3, 4, 5]) (by kernel_rfl) (by simp) (AllReadyH.cons (o := { dst := some 23, op := Op.call { callee := Callee.value (Operand.func 9), args := #[Operand.tmp 22], argTypes := #[24] }, type := 24, pos := "law.go:36", after := #[{ on := 2, ground := Ground.data }, { on := 1, ground := Ground.chain }], guard := none }) rfl (fun K hK => ?_) (AllReadyH.cons (o := { dst := some 7, op := Op.alloc 24, type := 0, pos := "law.go:36", after := #[], guard := none }) rfl (fun K hK => ?_) (AllReadyH.cons (o := { dst := some 8, op := Op.alloc 24, type := 0, pos := "law.go:36", after := #[], guard := none }) rfl (fun K hK => ?_) AllReadyH.nil)))
      · go_simp
        refine (own6_any ly _ v1 (HY3.out.on hHeld)).mono ?_
        rintro e v3 ⟨x9, rfl, hown, hba⟩
        rw [← HFB.out] at hown
        obtain ⟨ab, cb, rfl, _, _⟩ := own_slice hown
        have OB : Hid (OwnI v3 w3.heap.size (.slice ab fb.length cb) fb) := Lib.hid (own_base hown hHeld.size)
        rw [← HNB.out] at OB ⊢
        have OA := Lib.hid (OA.out.on hba)
        refine hK.out _ _ (bch hHeld hba) (fun hHeld => ?_)
        clear hown hba
        (try simp only [Act.put, List.setIfInBounds_toArray, List.set_cons_zero, List.set_cons_succ])
        refine wpAnyH_ready (rs := [4, 5]) (by kernel_rfl) (by simp) (AllReadyH.cons (o := { dst := some 7, op := Op.alloc 24, type := 0, pos := "law.go:36", after := #[], guard := none }) rfl (fun K hK => ?_) (AllReadyH.cons (o := { dst := some 8, op := Op.alloc 24, type := 0, pos := "law.go:36", after := #[], guard := none }) rfl (fun K hK => ?_) AllReadyH.nil))
        · go_simp
          have hba : Below v3.heap.size v3 (v3.alloc (.cells #[.slice none 0 0] 24)) := below_new _ _
          have Z7 : Hid (Box (v3.alloc (.cells #[.slice none 0 0] 24)) v3.heap.size 24 #[.slice none 0 0]) := Lib.hid box_new
          have g70 : Hid (w3.heap.size ≤ v3.heap.size) := Lib.hid hHeld.size
          have OA := Lib.hid (OA.out.on hba)
          have OB := Lib.hid (OB.out.on hba)
          obtain ⟨v4, hv9⟩ : ∃ q, q = v3.alloc (.cells #[.slice none 0 0] 24) := ⟨_, rfl⟩
          refine hK.out _ _ (bch hHeld hba) (fun hHeld => ?_)
          clear hba
          rw [← hv9] at Z7 hHeld OA OB ⊢
          clear hv9
          obtain ⟨g7, hg9⟩ : ∃ q, q = v3.heap.size := ⟨_, rfl⟩
          rw [← hg9] at Z7 g70 ⊢
          clear hg9
          (try simp only [Act.put, List.setIfInBounds_toArray, List.set_cons_zero, List.set_cons_succ])
          refine wpAnyH_ready (rs := [5]) (by kernel_rfl) (by simp) (AllReadyH.cons (o := { dst := some 8, op := Op.alloc 24, type := 0, pos := "law.go:36", after := #[], guard := none }) rfl (fun K hK => ?_) AllReadyH.nil)
          · go_simp
            have hba : Below v4.heap.size v4 (v4.alloc (.cells #[.slice none 0 0] 24)) := below_new _ _
            have Z8 : Hid (Box (v4.alloc (.cells #[.slice none 0 0] 24)) v4.heap.size 24 #[.slice none 0 0]) := Lib.hid box_new
            have g80 : Hid (w3.heap.size ≤ v4.heap.size) := Lib.hid hHeld.size
            have HNE0 : Hid (g7 < v4.heap.size) := Lib.hid Z7.out.lt
            have OA := Lib.hid (OA.out.on hba)
            have OB := Lib.hid (OB.out.on hba)
            have Z7 := Lib.hid (Z7.out.on hba)
            obtain ⟨v5, hv9⟩ : ∃ q, q = v4.alloc (.cells #[.slice none 0 0] 24) := ⟨_, rfl⟩
            refine hK.out _ _ (bch hHeld hba) (fun hHeld => ?_)
            clear hba
            rw [← hv9] at Z8 hHeld OA OB Z7 ⊢
            clear hv9
            obtain ⟨g8, hg9⟩ : ∃ q, q = v4.heap.size := ⟨_, rfl⟩
            rw [← hg9] at Z8 g80 HNE0 ⊢
            clear hg9
            have HNE : Hid (g7 ≠ g8) := Lib.hid (by have := HNE0.out; omega)
            (try simp only [Act.put, List.setIfInBounds_toArray, List.set_cons_zero, List.set_cons_succ])
            refine wpAnyH_ready (rs := [6]) (by kernel_rfl) (by simp) (AllReadyH.cons (o := { dst := none, op := Op.store 24 (Operand.tmp 7) (Operand.tmp 21), type := 0, pos := "law.go:36", after := #[{ on := 4, ground := Ground.data }, { on := 1, ground := Ground.data }, { on := 3, ground := Ground.chain }, { on := 0, ground := Ground.phase }, { on := 1, ground := Ground.phase }, { on := 2, ground := Ground.textOnly Departure.lateStores }, { on := 3, ground := Ground.textOnly Departure.lateStoresUnsure }, { on := 4, ground := Ground.phase }, { on := 5, ground := Ground.phase }], guard := none }) rfl (fun K hK => ?_) AllReadyH.nil)
            · have p0 := Z7.out.cell (k := 0) rfl
              have f0 := frozen_of_row v5 _ 0 _ _ Z7.out
              go_simp
              have OA := Lib.hid (OA.out.boxed Z7.out 0 (.slice aa na ca))
              have OB := Lib.hid (OB.out.boxed Z7.out 0 (.slice aa na ca))
              have Z8 := Lib.hid (Z8.out.far (p := ⟨g7, 0, none⟩) (by have := HNE.out; show g8 ≠ g7; omega) (.slice aa na ca))
              have Z7 := Lib.hid (Z7.out.set (k := 0) (.slice aa na ca))
              refine hK.out _ _ (hHeld.setCell (p := ⟨g7, 0, none⟩) g70.out (.slice aa na ca)) (fun hHeld => ?_)
              clear p0 f0
              obtain ⟨vq, hv9⟩ : ∃ q, q = v5.setCell ⟨g7, 0, none⟩ (.slice aa na ca) := ⟨_, rfl⟩
              rw [← hv9] at Z7 Z8 OA OB hHeld ⊢
              clear hv9
              (try simp only [Act.put, List.setIfInBounds_toArray, List.set_cons_zero, List.set_cons_succ])
              refine wpAnyH_ready (rs := [7]) (by kernel_rfl) (by simp) (AllReadyH.cons (o := { dst := none, op := Op.store 24 (Operand.tmp 8) (Operand.tmp 23), type := 0, pos := "law.go:36", after := #[{ on := 5, ground := Ground.data }, { on := 3, ground := Ground.data }, { on := 6, ground := Ground.chain }, { on := 0, ground := Ground.phase }, { on := 1, ground := Ground.phase }, { on := 2, ground := Ground.phase }, { on := 3, ground := Ground.phase }, { on := 4, ground := Ground.phase }, { on := 5, ground := Ground.phase }, { on := 6, ground := Ground.phase }], guard := none }) rfl (fun K hK => ?_) AllReadyH.nil)
              · have p0 := Z8.out.cell (k := 0) rfl
                have f0 := frozen_of_row vq _ 0 _ _ Z8.out
                go_simp
                have OA := Lib.hid (OA.out.boxed Z8.out 0 (.slice ab nb cb))
                have OB := Lib.hid (OB.out.boxed Z8.out 0 (.slice ab nb cb))
                have Z7 := Lib.hid (Z7.out.far (p := ⟨g8, 0, none⟩) (by have := HNE.out; show g7 ≠ g8; omega) (.slice ab nb cb))
                have Z8 := Lib.hid (Z8.out.set (k := 0) (.slice ab nb cb))
                refine hK.out _ _ (hHeld.setCell (p := ⟨g8, 0, none⟩) g80.out (.slice ab nb cb)) (fun hHeld => ?_)
                clear p0 f0
                (try simp only [Act.put, List.setIfInBounds_toArray, List.set_cons_zero, List.set_cons_succ])
                refine wpAnyH_done (by kernel_rfl) ?_ _
                first | refine hK2 _ _ (Met.intro (hJ _ _ ?_)) | refine Met.intro (hJ _ _ ?_)
                (repeat apply Exists.intro)
                refine ⟨?_, rfl⟩
                exact ⟨_, _, _, _, _, _, rfl, rfl, g70, g80, Z7, Z8, OA, OB, Lib.hid hHeld⟩
        · go_simp
          have hba : Below v3.heap.size v3 (v3.alloc (.cells #[.slice none 0 0] 24)) := below_new _ _
          have Z8 : Hid (Box (v3.alloc (.cells #[.slice none 0 0] 24)) v3.heap.size 24 #[.slice none 0 0]) := Lib.hid box_new
          have g80 : Hid (w3.heap.size ≤ v3.heap.size) := Lib.hid hHeld.size
          have OA := Lib.hid (OA.out.on hba)
          have OB := Lib.hid (OB.out.on hba)
          obtain ⟨v5, hv9⟩ : ∃ q, q = v3.alloc (.cells #[.slice none 0 0] 24) := ⟨_, rfl⟩
          refine hK.out _ _ (bch hHeld hba) (fun hHeld => ?_)
          clear hba
          rw [← hv9] at Z8 hHeld OA OB ⊢
          clear hv9
          obtain ⟨g8, hg9⟩ : ∃ q, q = v3.heap.size := ⟨_, rfl⟩
          rw [← hg9] at Z8 g80 ⊢
          clear hg9
          (try simp only [Act.put, List.setIfInBounds_toArray, List.set_cons_zero, List.set_cons_succ])
          refine wpAnyH_ready (rs := [4]) (by kernel_rfl) (by simp) (AllReadyH.cons (o := { dst := some 7, op := Op.alloc 24, type := 0, pos := "law.go:36", after := #[], guard := none }) rfl (fun K hK => ?_) AllReadyH.nil)
          · go_simp
            have hba : Below v5.heap.size v5 (v5.alloc (.cells #[.slice none 0 0] 24)) := below_new _ _
            have Z7 : Hid (Box (v5.alloc (.cells #[.slice none 0 0] 24)) v5.heap.size 24 #[.slice none 0 0]) := Lib.hid box_new
            have g70 : Hid (w3.heap.size ≤ v5.heap.size) := Lib.hid hHeld.size
            have HNE0 : Hid (g8 < v5.heap.size) := Lib.hid Z8.out.lt
            have OA := Lib.hid (OA.out.on hba)
            have OB := Lib.hid (OB.out.on hba)
            have Z8 := Lib.hid (Z8.out.on hba)
            obtain ⟨v4, hv9⟩ : ∃ q, q = v5.alloc (.cells #[.slice none 0 0] 24) := ⟨_, rfl⟩
            refine hK.out _ _ (bch hHeld hba) (fun hHeld => ?_)
            clear hba
            rw [← hv9] at Z7 hHeld OA OB Z8 ⊢
            clear hv9
            obtain ⟨g7, hg9⟩ : ∃ q, q = v5.heap.size := ⟨_, rfl⟩
            rw [← hg9] at Z7 g70 HNE0 ⊢
            clear hg9
            have HNE : Hid (g7 ≠ g8) := Lib.hid (by have := HNE0.out; omega)
            (try simp only [Act.put, List.setIfInBounds_toArray, List.set_cons_zero, List.set_cons_succ])
            refine wpAnyH_ready (rs := [6]) (by kernel_rfl) (by simp) (AllReadyH.cons (o := { dst := none, op := Op.store 24 (Operand.tmp 7) (Operand.tmp 21), type := 0, pos := "law.go:36", after := #[{ on := 4, ground := Ground.data }, { on := 1, ground := Ground.data }, { on := 3, ground := Ground.chain }, { on := 0, ground := Ground.phase }, { on := 1, ground := Ground.phase }, { on := 2, ground := Ground.textOnly Departure.lateStores }, { on := 3, ground := Ground.textOnly Departure.lateStoresUnsure }, { on := 4, ground := Ground.phase }, { on := 5, ground := Ground.phase }], guard := none }) rfl (fun K hK => ?_) AllReadyH.nil)
            · have p0 := Z7.out.cell (k := 0) rfl
              have f0 := frozen_of_row v4 _ 0 _ _ Z7.out
              go_simp
              have OA := Lib.hid (OA.out.boxed Z7.out 0 (.slice aa na ca))
              have OB := Lib.hid (OB.out.boxed Z7.out 0 (.slice aa na ca))
              have Z8 := Lib.hid (Z8.out.far (p := ⟨g7, 0, none⟩) (by have := HNE.out; show g8 ≠ g7; omega) (.slice aa na ca))
              have Z7 := Lib.hid (Z7.out.set (k := 0) (.slice aa na ca))
              refine hK.out _ _ (hHeld.setCell (p := ⟨g7, 0, none⟩) g70.out (.slice aa na ca)) (fun hHeld => ?_)
              clear p0 f0
              obtain ⟨vq, hv9⟩ : ∃ q, q = v4.setCell ⟨g7, 0, none⟩ (.slice aa na ca) := ⟨_, rfl⟩
              rw [← hv9] at Z7 Z8 OA OB hHeld ⊢
              clear hv9
              (try simp only [Act.put, List.setIfInBounds_toArray, List.set_cons_zero, List.set_cons_succ])
              refine wpAnyH_ready (rs := [7]) (by kernel_rfl) (by simp) (AllReadyH.cons (o := { dst := none, op := Op.store 24 (Operand.tmp 8) (Operand.tmp 23), type := 0, pos := "law.go:36", after := #[{ on := 5, ground := Ground.data }, { on := 3, ground := Ground.data }, { on := 6, ground := Ground.chain }, { on := 0, ground := Ground.phase }, { on := 1, ground := Ground.phase }, { on := 2, ground := Ground.phase }, { on := 3, ground := Ground.phase }, { on := 4, ground := Ground.phase }, { on := 5, ground := Ground.phase }, { on := 6, ground := Ground.phase }], guard := none }) rfl (fun K hK => ?_) AllReadyH.nil)
              · have p0 := Z8.out.cell (k := 0) rfl
                have f0 := frozen_of_row vq _ 0 _ _ Z8.out
                go_simp
                have OA := Lib.hid (OA.out.boxed Z8.out 0 (.slice ab nb cb))
                have OB := Lib.hid (OB.out.boxed Z8.out 0 (.slice ab nb cb))
                have Z7 := Lib.hid (Z7.out.far (p := ⟨g8, 0, none⟩) (by have := HNE.out; show g7 ≠ g8; omega) (.slice ab nb cb))
                have Z8 := Lib.hid (Z8.out.set (k := 0) (.slice ab nb cb))
                refine hK.out _ _ (hHeld.setCell (p := ⟨g8, 0, none⟩) g80.out (.slice ab nb cb)) (fun hHeld => ?_)
                clear p0 f0
                (try simp only [Act.put, List.setIfInBounds_toArray, List.set_cons_zero, List.set_cons_succ])
                refine wpAnyH_done (by kernel_rfl) ?_ _
                first | refine hK2 _ _ (Met.intro (hJ _ _ ?_)) | refine Met.intro (hJ _ _ ?_)
                (repeat apply Exists.intro)
                refine ⟨?_, rfl⟩
                exact ⟨_, _, _, _, _, _, rfl, rfl, g70, g80, Z7, Z8, OA, OB, Lib.hid hHeld⟩
      · go_simp
        have hba : Below v1.heap.size v1 (v1.alloc (.cells #[.slice none 0 0] 24)) := below_new _ _
        have Z7 : Hid (Box (v1.alloc (.cells #[.slice none 0 0] 24)) v1.heap.size 24 #[.slice none 0 0]) := Lib.hid box_new
        have g70 : Hid (w3.heap.size ≤ v1.heap.size) := Lib.hid hHeld.size
        have OA := Lib.hid (OA.out.on hba)
        obtain ⟨v4, hv9⟩ : ∃ q, q = v1.alloc (.cells #[.slice none 0 0] 24) := ⟨_, rfl⟩
        refine hK.out _ _ (bch hHeld hba) (fun hHeld => ?_)
        clear hba
        rw [← hv9] at Z7 hHeld OA ⊢
        clear hv9
        obtain ⟨g7, hg9⟩ : ∃ q, q = v1.heap.size := ⟨_, rfl⟩
        rw [← hg9] at Z7 g70 ⊢
        clear hg9
        (try simp only [Act.put, List.setIfInBounds_toArray, List.set_cons_zero, List.set_cons_succ])
        refine wpAnyH_ready (rs := [3, 5]) (by kernel_rfl) (by simp) (AllReadyH.cons (o := { dst := some 23, op := Op.call { callee := Callee.value (Operand.func 9), args := #[Operand.tmp 22], argTypes := #[24] }, type := 24, pos := "law.go:36", after := #[{ on := 2, ground := Ground.data }, { on := 1, ground := Ground.chain }], guard := none }) rfl (fun K hK => ?_) (AllReadyH.cons (o := { dst := some 8, op := Op.alloc 24, type := 0, pos := "law.go:36", after := #[], guard := none }) rfl (fun K hK => ?_) AllReadyH.nil))
        · go_simp
          refine (own6_any ly _ v4 (HY3.out.on hHeld)).mono ?_
          rintro e v3 ⟨x9, rfl, hown, hba⟩
          rw [← HFB.out] at hown
          obtain ⟨ab, cb, rfl, _, _⟩ := own_slice hown
          have OB : Hid (OwnI v3 w3.heap.size (.slice ab fb.length cb) fb) := Lib.hid (own_base hown hHeld.size)
          rw [← HNB.out] at OB ⊢
          have OA := Lib.hid (OA.out.on hba)
          have Z7 := Lib.hid (Z7.out.on hba)
          refine hK.out _ _ (bch hHeld hba) (fun hHeld => ?_)
          clear hown hba
          (try simp only [Act.put, List.setIfInBounds_toArray, List.set_cons_zero, List.set_cons_succ])
          refine wpAnyH_ready (rs := [5]) (by kernel_rfl) (by simp) (AllReadyH.cons (o := { dst := some 8, op := Op.alloc 24, type := 0, pos := "law.go:36", after := #[], guard := none }) rfl (fun K hK => ?_) AllReadyH.nil)
          · go_simp
            have hba : Below v3.heap.size v3 (v3.alloc (.cells #[.slice none 0 0] 24)) := below_new _ _
            have Z8 : Hid (Box (v3.alloc (.cells #[.slice none 0 0] 24)) v3.heap.size 24 #[.slice none 0 0]) := Lib.hid box_new
            have g80 : Hid (w3.heap.size ≤ v3.heap.size) := Lib.hid hHeld.size
            have HNE0 : Hid (g7 < v3.heap.size) := Lib.hid Z7.out.lt
            have OA := Lib.hid (OA.out.on hba)
            have OB := Lib.hid (OB.out.on hba)
            have Z7 := Lib.hid (Z7.out.on hba)
            obtain ⟨v5, hv9⟩ : ∃ q, q = v3.alloc (.cells #[.slice none 0 0] 24) := ⟨_, rfl⟩
            refine hK.out _ _ (bch hHeld hba) (fun hHeld => ?_)
            clear hba
            rw [← hv9] at Z8 hHeld OA OB Z7 ⊢
            clear hv9
            obtain ⟨g8, hg9⟩ : ∃ q, q = v3.heap.size := ⟨_, rfl⟩
            rw [← hg9] at Z8 g80 HNE0 ⊢
            clear hg9
            have HNE : Hid (g7 ≠ g8) := Lib.hid (by have := HNE0.out; omega)
            (try simp only [Act.put, List.setIfInBounds_toArray, List.set_cons_zero, List.set_cons_succ])
            refine wpAnyH_ready (rs := [6]) (by kernel_rfl) (by simp) (AllReadyH.cons (o := { dst := none, op := Op.store 24 (Operand.tmp 7) (Operand.tmp 21), type := 0, pos := "law.go:36", after := #[{ on := 4, ground := Ground.data }, { on := 1, ground := Ground.data }, { on := 3, ground := Ground.chain }, { on := 0, ground := Ground.phase }, { on := 1, ground := Ground.phase }, { on := 2, ground := Ground.textOnly Departure.lateStores }, { on := 3, ground := Ground.textOnly Departure.lateStoresUnsure }, { on := 4, ground := Ground.phase }, { on := 5, ground := Ground.phase }], guard := none }) rfl (fun K hK => ?_) AllReadyH.nil)
            · have p0 := Z7.out.cell (k := 0) rfl
              have f0 := frozen_of_row v5 _ 0 _ _ Z7.out
              go_simp
              have OA := Lib.hid (OA.out.boxed Z7.out 0 (.slice aa na ca))
              have OB := Lib.hid (OB.out.boxed Z7.out 0 (.slice aa na ca))
              have Z8 := Lib.hid (Z8.out.far (p := ⟨g7, 0, none⟩) (by have := HNE.out; show g8 ≠ g7; omega) (.slice aa na ca))
              have Z7 := Lib.hid (Z7.out.set (k := 0) (.slice aa na ca))
              refine hK.out _ _ (hHeld.setCell (p := ⟨g7, 0, none⟩) g70.out (.slice aa na ca)) (fun hHeld => ?_)
              clear p0 f0
              obtain ⟨vq, hv9⟩ : ∃ q, q = v5.setCell ⟨g7, 0, none⟩ (.slice aa na ca) := ⟨_, rfl⟩
              rw [← hv9] at Z7 Z8 OA OB hHeld ⊢
              clear hv9
              (try simp only [Act.put, List.setIfInBounds_toArray, List.set_cons_zero, List.set_cons_succ])
              refine wpAnyH_ready (rs := [7]) (by kernel_rfl) (by simp) (AllReadyH.cons (o := { dst := none, op := Op.store 24 (Operand.tmp 8) (Operand.tmp 23), type := 0, pos := "law.go:36", after := #[{ on := 5, ground := Ground.data }, { on := 3, ground := Ground.data }, { on := 6, ground := Ground.chain }, { on := 0, ground := Ground.phase }, { on := 1, ground := Ground.phase }, { on := 2, ground := Ground.phase }, { on := 3, ground := Ground.phase }, { on := 4, ground := Ground.phase }, { on := 5, ground := Ground.phase }, { on := 6, ground := Ground.phase }], guard := none }) rfl (fun K hK => ?_) AllReadyH.nil)
              · have p0 := Z8.out.cell (k := 0) rfl
                have f0 := frozen_of_row vq _ 0 _ _ Z8.out
                go_simp
                have OA := Lib.hid (OA.out.boxed Z8.out 0 (.slice ab nb cb))
                have OB := Lib.hid (OB.out.boxed Z8.out 0 (.slice ab nb cb))
                have Z7 := Lib.hid (Z7.out.far (p := ⟨g8, 0, none⟩) (by have := HNE.out; show g7 ≠ g8; omega) (.slice ab nb cb))
                have Z8 := Lib.hid (Z8.out.set (k := 0) (.slice ab nb cb))
                refine hK.out _ _ (hHeld.setCell (p := ⟨g8, 0, none⟩) g80.out (.slice ab nb cb)) (fun hHeld => ?_)
                clear p0 f0
                (try simp only [Act.put, List.setIfInBounds_toArray, List.set_cons_zero, List.set_cons_succ])
                refine wpAnyH_done (by kernel_rfl) ?_ _
                first | refine hK2 _ _ (Met.intro (hJ _ _ ?_)) | refine Met.intro (hJ _ _ ?_)
                (repeat apply Exists.intro)
                refine ⟨?_, rfl⟩
                exact ⟨_, _, _, _, _, _, rfl, rfl, g70, g80, Z7, Z8, OA, OB, Lib.hid hHeld⟩
        · go_simp
          have hba : Below v4.heap.size v4 (v4.alloc (.cells #[.slice none 0 0] 24)) := below_new _ _
          have Z8 : Hid (Box (v4.alloc (.cells #[.slice none 0 0] 24)) v4.heap.size 24 #[.slice none 0 0]) := Lib.hid box_new
          have g80 : Hid (w3.heap.size ≤ v4.heap.size) := Lib.hid hHeld.size
          have HNE0 : Hid (g7 < v4.heap.size) := Lib.hid Z7.out.lt
          have OA := Lib.hid (OA.out.on hba)
          have Z7 := Lib.hid (Z7.out.on hba)
          obtain ⟨v5, hv9⟩ : ∃ q, q = v4.alloc (.cells #[.slice none 0 0] 24) := ⟨_, rfl⟩
          refine hK.out _ _ (bch hHeld hba) (fun hHeld => ?_)
          clear hba
          rw [← hv9] at Z8 hHeld OA Z7 ⊢
          clear hv9
          obtain ⟨g8, hg9⟩ : ∃ q, q = v4.heap.size := ⟨_, rfl⟩
          rw [← hg9] at Z8 g80 HNE0 ⊢
          clear hg9
          have HNE : Hid (g7 ≠ g8) := Lib.hid (by have := HNE0.out; omega)
          (try simp only [Act.put, List.setIfInBounds_toArray, List.set_cons_zero, List.set_cons_succ])
          refine wpAnyH_ready (rs := [3]) (by kernel_rfl) (by simp) (AllReadyH.cons (o := { dst := some 23, op := Op.call { callee := Callee.value (Operand.func 9), args := #[Operand.tmp 22], argTypes := #[24] }, type := 24, pos := "law.go:36", after := #[{ on := 2, ground := Ground.data }, { on := 1, ground := Ground.chain }], guard := none }) rfl (fun K hK => ?_) AllReadyH.nil)
          · go_simp
            refine (own6_any ly _ v5 (HY3.out.on hHeld)).mono ?_
            rintro e v3 ⟨x9, rfl, hown, hba⟩
            rw [← HFB.out] at hown
            obtain ⟨ab, cb, rfl, _, _⟩ := own_slice hown
            have OB : Hid (OwnI v3 w3.heap.size (.slice ab fb.length cb) fb) := Lib.hid (own_base hown hHeld.size)
            rw [← HNB.out] at OB ⊢
            have OA := Lib.hid (OA.out.on hba)
            have Z7 := Lib.hid (Z7.out.on hba)
            have Z8 := Lib.hid (Z8.out.on hba)
            refine hK.out _ _ (bch hHeld hba) (fun hHeld => ?_)
            clear hown hba
            (try simp only [Act.put, List.setIfInBounds_toArray, List.set_cons_zero, List.set_cons_succ])
            refine wpAnyH_ready (rs := [6]) (by kernel_rfl) (by simp) (AllReadyH.cons (o := { dst := none, op := Op.store 24 (Operand.tmp 7) (Operand.tmp 21), type := 0, pos := "law.go:36", after := #[{ on := 4, ground := Ground.data }, { on := 1, ground := Ground.data }, { on := 3, ground := Ground.chain }, { on := 0, ground := Ground.phase }, { on := 1, ground := Ground.phase }, { on := 2, ground := Ground.textOnly Departure.lateStores }, { on := 3, ground := Ground.textOnly Departure.lateStoresUnsure }, { on := 4, ground := Ground.phase }, { on := 5, ground := Ground.phase }], guard := none }) rfl (fun K hK => ?_) AllReadyH.nil)
            · have p0 := Z7.out.cell (k := 0) rfl
              have f0 := frozen_of_row v3 _ 0 _ _ Z7.out
              go_simp
              have OA := Lib.hid (OA.out.boxed Z7.out 0 (.slice aa na ca))
              have OB := Lib.hid (OB.out.boxed Z7.out 0 (.slice aa na ca))
              have Z8 := Lib.hid (Z8.out.far (p := ⟨g7, 0, none⟩) (by have := HNE.out; show g8 ≠ g7; omega) (.slice aa na ca))
              have Z7 := Lib.hid (Z7.out.set (k := 0) (.slice aa na ca))
              refine hK.out _ _ (hHeld.setCell (p := ⟨g7, 0, none⟩) g70.out (.slice aa na ca)) (fun hHeld => ?_)
              clear p0 f0
              obtain ⟨vq, hv9⟩ : ∃ q, q = v3.setCell ⟨g7, 0, none⟩ (.slice aa na ca) := ⟨_, rfl⟩
              rw [← hv9] at Z7 Z8 OA OB hHeld ⊢
              clear hv9
              (try simp only [Act.put, List.setIfInBounds_toArray, List.set_cons_zero, List.set_cons_succ])
              refine wpAnyH_ready (rs := [7]) (by kernel_rfl) (by simp) (AllReadyH.cons (o := { dst := none, op := Op.store 24 (Operand.tmp 8) (Operand.tmp 23), type := 0, pos := "law.go:36", after := #[{ on := 5, ground := Ground.data }, { on := 3, ground := Ground.data }, { on := 6, ground := Ground.chain }, { on := 0, ground := Ground.phase }, { on := 1, ground := Ground.phase }, { on := 2, ground := Ground.phase }, { on := 3, ground := Ground.phase }, { on := 4, ground := Ground.phase }, { on := 5, ground := Ground.phase }, { on := 6, ground := Ground.phase }], guard := none }) rfl (fun K hK => ?_) AllReadyH.nil)
              · have p0 := Z8.out.cell (k := 0) rfl
                have f0 := frozen_of_row vq _ 0 _ _ Z8.out
                go_simp
                have OA := Lib.hid (OA.out.boxed Z8.out 0 (.slice ab nb cb))
                have OB := Lib.hid (OB.out.boxed Z8.out 0 (.slice ab nb cb))
                have Z7 := Lib.hid (Z7.out.far (p := ⟨g8, 0, none⟩) (by have := HNE.out; show g7 ≠ g8; omega) (.slice ab nb cb))
                have Z8 := Lib.hid (Z8.out.set (k := 0) (.slice ab nb cb))
                refine hK.out _ _ (hHeld.setCell (p := ⟨g8, 0, none⟩) g80.out (.slice ab nb cb)) (fun hHeld => ?_)
                clear p0 f0
                (try simp only [Act.put, List.setIfInBounds_toArray, List.set_cons_zero, List.set_cons_succ])
                refine wpAnyH_done (by kernel_rfl) ?_ _
                first | refine hK2 _ _ (Met.intro (hJ _ _ ?_)) | refine Met.intro (hJ _ _ ?_)
                (repeat apply Exists.intro)
                refine ⟨?_, rfl⟩
                exact ⟨_, _, _, _, _, _, rfl, rfl, g70, g80, Z7, Z8, OA, OB, Lib.hid hHeld⟩
      · go_simp
        have hba : Below v1.heap.size v1 (v1.alloc (.cells #[.slice none 0 0] 24)) := below_new _ _
        have Z8 : Hid (Box (v1.alloc (.cells #[.slice none 0 0] 24)) v1.heap.size 24 #[.slice none 0 0]) := Lib.hid box_new
        have g80 : Hid (w3.heap.size ≤ v1.heap.size) := Lib.hid hHeld.size
        have OA := Lib.hid (OA.out.on hba)
        obtain ⟨v5, hv9⟩ : ∃ q, q = v1.alloc (.cells #[.slice none 0 0] 24) := ⟨_, rfl⟩
        refine hK.out _ _ (bch hHeld hba) (fun hHeld => ?_)
        clear hba
        rw [← hv9] at Z8 hHeld OA ⊢
        clear hv9
        obtain ⟨g8, hg9⟩ : ∃ q, q = v1.heap.size := ⟨_, rfl⟩
        rw [← hg9] at Z8 g80 ⊢
        clear hg9
        (try simp only [Act.put, List.setIfInBounds_toArray, List.set_cons_zero, List.set_cons_succ])
        refine wpAnyH_ready (rs := [3, 4]) (by kernel_rfl) (by simp) (AllReadyH.cons (o := { dst := some 23, op := Op.call { callee := Callee.value (Operand.func 9), args := #[Operand.tmp 22], argTypes := #[24] }, type := 24, pos := "law.go:36", after := #[{ on := 2, ground := Ground.data }, { on := 1, ground := Ground.chain }], guard := none }) rfl (fun K hK => ?_) (AllReadyH.cons (o := { dst := some 7, op := Op.alloc 24, type := 0, pos := "law.go:36", after := #[], guard := none }) rfl (fun K hK => ?_) AllReadyH.nil))
        · go_simp
          refine (own6_any ly _ v5 (HY3.out.on hHeld)).mono ?_
          rintro e v3 ⟨x9, rfl, hown, hba⟩
          rw [← HFB.out] at hown
          obtain ⟨ab, cb, rfl, _, _⟩ := own_slice hown
          have OB : Hid (OwnI v3 w3.heap.size (.slice ab fb.length cb) fb) := Lib.hid (own_base hown hHeld.size)
          rw [← HNB.out] at OB ⊢
          have OA := Lib.hid (OA.out.on hba)
          have Z8 := Lib.hid (Z8.out.on hba)
          refine hK.out _ _ (bch hHeld hba) (fun hHeld => ?_)
          clear hown hba
          (try simp only [Act.put, List.setIfInBounds_toArray, List.set_cons_zero, List.set_cons_succ])
          refine wpAnyH_ready (rs := [4]) (by kernel_rfl) (by simp) (AllReadyH.cons (o := { dst := some 7, op := Op.alloc 24, type := 0, pos := "law.go:36", after := #[], guard := none }) rfl (fun K hK => ?_) AllReadyH.nil)
          · go_simp
            have hba : Below v3.heap.size v3 (v3.alloc (.cells #[.slice none 0 0] 24)) := below_new _ _
            have Z7 : Hid (Box (v3.alloc (.cells #[.slice none 0 0] 24)) v3.heap.size 24 #[.slice none 0 0]) := Lib.hid box_new
            have g70 : Hid (w3.heap.size ≤ v3.heap.size) := Lib.hid hHeld.size
            have HNE0 : Hid (g8 < v3.heap.size) := Lib.hid Z8.out.lt
            have OA := Lib.hid (OA.out.on hba)
            have OB := Lib.hid (OB.out.on hba)
            have Z8 := Lib.hid (Z8.out.on hba)
            obtain ⟨v4, hv9⟩ : ∃ q, q = v3.alloc (.cells #[.slice none 0 0] 24) := ⟨_, rfl⟩
            refine hK.out _ _ (bch hHeld hba) (fun hHeld => ?_)
            clear hba
            rw [← hv9] at Z7 hHeld OA OB Z8 ⊢
            clear hv9
            obtain ⟨g7, hg9⟩ : ∃ q, q = v3.heap.size := ⟨_, rfl⟩
            rw [← hg9] at Z7 g70 HNE0 ⊢
            clear hg9
            have HNE : Hid (g7 ≠ g8) := Lib.hid (by have := HNE0.out; omega)
            (try simp only [Act.put, List.setIfInBounds_toArray, List.set_cons_zero, List.set_cons_succ])
            refine wpAnyH_ready (rs := [6]) (by kernel_rfl) (by simp) (AllReadyH.cons (o := { dst := none, op := Op.store 24 (Operand.tmp 7) (Operand.tmp 21), type := 0, pos := "law.go:36", after := #[{ on := 4, ground := Ground.data }, { on := 1, ground := Ground.data }, { on := 3, ground := Ground.chain }, { on := 0, ground := Ground.phase }, { on := 1, ground := Ground.phase }, { on := 2, ground := Ground.textOnly Departure.lateStores }, { on := 3, ground := Ground.textOnly Departure.lateStoresUnsure }, { on := 4, ground := Ground.phase }, { on := 5, ground := Ground.phase }], guard := none }) rfl (fun K hK => ?_) AllReadyH.nil)
            · have p0 := Z7.out.cell (k := 0) rfl
              have f0 := frozen_of_row v4 _ 0 _ _ Z7.out
              go_simp
              have OA := Lib.hid (OA.out.boxed Z7.out 0 (.slice aa na ca))
              have OB := Lib.hid (OB.out.boxed Z7.out 0 (.slice aa na ca))
              have Z8 := Lib.hid (Z8.out.far (p := ⟨g7, 0, none⟩) (by have := HNE.out; show g8 ≠ g7; omega) (.slice aa na ca))
              have Z7 := Lib.hid (Z7.out.set (k := 0) (.slice aa na ca))
              refine hK.out _ _ (hHeld.setCell (p := ⟨g7, 0, none⟩) g70.out (.slice aa na ca)) (fun hHeld => ?_)
              clear p0 f0
              obtain ⟨vq, hv9⟩ : ∃ q, q = v4.setCell ⟨g7, 0, none⟩ (.slice aa na ca) := ⟨_, rfl⟩
              rw [← hv9] at Z7 Z8 OA OB hHeld ⊢
              clear hv9
              (try simp only [Act.put, List.setIfInBounds_toArray, List.set_cons_zero, List.set_cons_succ])
              refine wpAnyH_ready (rs := [7]) (by kernel_rfl) (by simp) (AllReadyH.cons (o := { dst := none, op := Op.store 24 (Operand.tmp 8) (Operand.tmp 23), type := 0, pos := "law.go:36", after := #[{ on := 5, ground := Ground.data }, { on := 3, ground := Ground.data }, { on := 6, ground := Ground.chain }, { on := 0, ground := Ground.phase }, { on := 1, ground := Ground.phase }, { on := 2, ground := Ground.phase }, { on := 3, ground := Ground.phase }, { on := 4, ground := Ground.phase }, { on := 5, ground := Ground.phase }, { on := 6, ground := Ground.phase }], guard := none }) rfl (fun K hK => ?_) AllReadyH.nil)
              · have p0 := Z8.out.cell (k := 0) rfl
                have f0 := frozen_of_row vq _ 0 _ _ Z8.out
                go_simp
                have OA := Lib.hid (OA.out.boxed Z8.out 0 (.slice ab nb cb))
                have OB := Lib.hid (OB.out.boxed Z8.out 0 (.slice ab nb cb))
                have Z7 := Lib.hid (Z7.out.far (p := ⟨g8, 0, none⟩) (by have := HNE.out; show g7 ≠ g8; omega) (.slice ab nb cb))
                have Z8 := Lib.hid (Z8.out.set (k := 0) (.slice ab nb cb))
                refine hK.out _ _ (hHeld.setCell (p := ⟨g8, 0, none⟩) g80.out (.slice ab nb cb)) (fun hHeld => ?_)
                clear p0 f0
                (try simp only [Act.put, List.setIfInBounds_toArray, List.set_cons_zero, List.set_cons_succ])
                refine wpAnyH_done (by kernel_rfl) ?_ _
                first | refine hK2 _ _ (Met.intro (hJ _ _ ?_)) | refine Met.intro (hJ _ _ ?_)
                (repeat apply Exists.intro)
                refine ⟨?_, rfl⟩
                exact ⟨_, _, _, _, _, _, rfl, rfl, g70, g80, Z7, Z8, OA, OB, Lib.hid hHeld⟩
        · go_simp
          have hba : Below v5.heap.size v5 (v5.alloc (.cells #[.slice none 0 0] 24)) := below_new _ _
          have Z7 : Hid (Box (v5.alloc (.cells #[.slice none 0 0] 24)) v5.heap.size 24 #[.slice none 0 0]) := Lib.hid box_new
          have g70 : Hid (w3.heap.size ≤ v5.heap.size) := Lib.hid hHeld.size
          have HNE0 : Hid (g8 < v5.heap.size) := Lib.hid Z8.out.lt
          have OA := Lib.hid (OA.out.on hba)
          have Z8 := Lib.hid (Z8.out.on hba)
          obtain ⟨v4, hv9⟩ : ∃ q, q = v5.alloc (.cells #[.slice none 0 0] 24) := ⟨_, rfl⟩
          refine hK.out _ _ (bch hHeld hba) (fun hHeld => ?_)
          clear hba
          rw [← hv9] at Z7 hHeld OA Z8 ⊢
          clear hv9
          obtain ⟨g7, hg9⟩ : ∃ q, q = v5.heap.size := ⟨_, rfl⟩
          rw [← hg9] at Z7 g70 HNE0 ⊢
          clear hg9
          have HNE : Hid (g7 ≠ g8) := Lib.hid (by have := HNE0.out; omega)
          (try simp only [Act.put, List.setIfInBounds_toArray, List.set_cons_zero, List.set_cons_succ])
          refine wpAnyH_ready (rs := [3]) (by kernel_rfl) (by simp) (AllReadyH.cons (o := { dst := some 23, op := Op.call { callee := Callee.value (Operand.func 9), args := #[Operand.tmp 22], argTypes := #[24] }, type := 24, pos := "law.go:36", after := #[{ on := 2, ground := Ground.data }, { on := 1, ground := Ground.chain }], guard := none }) rfl (fun K hK => ?_) AllReadyH.nil)
          · go_simp
            refine (own6_any ly _ v4 (HY3.out.on hHeld)).mono ?_
            rintro e v3 ⟨x9, rfl, hown, hba⟩
            rw [← HFB.out] at hown
            obtain ⟨ab, cb, rfl, _, _⟩ := own_slice hown
            have OB : Hid (OwnI v3 w3.heap.size (.slice ab fb.length cb) fb) := Lib.hid (own_base hown hHeld.size)
            rw [← HNB.out] at OB ⊢
            have OA := Lib.hid (OA.out.on hba)
            have Z7 := Lib.hid (Z7.out.on hba)
            have Z8 := Lib.hid (Z8.out.on hba)
            refine hK.out _ _ (bch hHeld hba) (fun hHeld => ?_)
            clear hown hba
            (try simp only [Act.put, List.setIfInBounds_toArray, List.set_cons_zero, List.set_cons_succ])
            refine wpAnyH_ready (rs := [6]) (by kernel_rfl) (by simp) (AllReadyH.cons (o := { dst := none, op := Op.store 24 (Operand.tmp 7) (Operand.tmp 21), type := 0, pos := "law.go:36", after := #[{ on := 4, ground := Ground.data }, { on := 1, ground := Ground.data }, { on := 3, ground := Ground.chain }, { on := 0, ground := Ground.phase }, { on := 1, ground := Ground.phase }, { on := 2, ground := Ground.textOnly Departure.lateStores }, { on := 3, ground := Ground.textOnly Departure.lateStoresUnsure }, { on := 4, ground := Ground.phase }, { on := 5, ground := Ground.phase }], guard := none }) rfl (fun K hK => ?_) AllReadyH.nil)
            · have p0 := Z7.out.cell (k := 0) rfl
              have f0 := frozen_of_row v3 _ 0 _ _ Z7.out
              go_simp
              have OA := Lib.hid (OA.out.boxed Z7.out 0 (.slice aa na ca))
              have OB := Lib.hid (OB.out.boxed Z7.out 0 (.slice aa na ca))
              have Z8 := Lib.hid (Z8.out.far (p := ⟨g7, 0, none⟩) (by have := HNE.out; show g8 ≠ g7; omega) (.slice aa na ca))
              have Z7 := Lib.hid (Z7.out.set (k := 0) (.slice aa na ca))
              refine hK.out _ _ (hHeld.setCell (p := ⟨g7, 0, none⟩) g70.out (.slice aa na ca)) (fun hHeld => ?_)
              clear p0 f0
              obtain ⟨vq, hv9⟩ : ∃ q, q = v3.setCell ⟨g7, 0, none⟩ (.slice aa na ca) := ⟨_, rfl⟩
              rw [← hv9] at Z7 Z8 OA OB hHeld ⊢
              clear hv9
              (try simp only [Act.put, List.setIfInBounds_toArray, List.set_cons_zero, List.set_cons_succ])
              refine wpAnyH_ready (rs := [7]) (by kernel_rfl) (by simp) (AllReadyH.cons (o := { dst := none, op := Op.store 24 (Operand.tmp 8) (Operand.tmp 23), type := 0, pos := "law.go:36", after := #[{ on := 5, ground := Ground.data }, { on := 3, ground := Ground.data }, { on := 6, ground := Ground.chain }, { on := 0, ground := Ground.phase }, { on := 1, ground := Ground.phase }, { on := 2, ground := Ground.phase }, { on := 3, ground := Ground.phase }, { on := 4, ground := Ground.phase }, { on := 5, ground := Ground.phase }, { on := 6, ground := Ground.phase }], guard := none }) rfl (fun K hK => ?_) AllReadyH.nil)
              · have p0 := Z8.out.cell (k := 0) rfl
                have f0 := frozen_of_row vq _ 0 _ _ Z8.out
                go_simp
                have OA := Lib.hid (OA.out.boxed Z8.out 0 (.slice ab nb cb))
                have OB := Lib.hid (OB.out.boxed Z8.out 0 (.slice ab nb cb))
                have Z7 := Lib.hid (Z7.out.far (p := ⟨g8, 0, none⟩) (by have := HNE.out; show g7 ≠ g8; omega) (.slice ab nb cb))
                have Z8 := Lib.hid (Z8.out.set (k := 0) (.slice ab nb cb))
                refine hK.out _ _ (hHeld.setCell (p := ⟨g8, 0, none⟩) g80.out (.slice ab nb cb)) (fun hHeld => ?_)
                clear p0 f0
                (try simp only [Act.put, List.setIfInBounds_toArray, List.set_cons_zero, List.set_cons_succ])
                refine wpAnyH_done (by kernel_rfl) ?_ _
                first | refine hK2 _ _ (Met.intro (hJ _ _ ?_)) | refine Met.intro (hJ _ _ ?_)
                (repeat apply Exists.intro)
                refine ⟨?_, rfl⟩
                exact ⟨_, _, _, _, _, _, rfl, rfl, g70, g80, Z7, Z8, OA, OB, Lib.hid hHeld⟩
    · go_simp
      have hba : Below v0.heap.size v0 (v0.alloc (.cells #[.slice none 0 0] 24)) := below_new _ _
      have Z7 : Hid (Box (v0.alloc (.cells #[.slice none 0 0] 24)) v0.heap.size 24 #[.slice none 0 0]) := Lib.hid box_new
      have g70 : Hid (w3.heap.size ≤ v0.heap.size) := Lib.hid hHeld.size
      obtain ⟨v4, hv9⟩ : ∃ q, q = v0.alloc (.cells #[.slice none 0 0] 24) := ⟨_, rfl⟩
      refine hK.out _ _ (bch hHeld hba) (fun hHeld => ?_)
      clear hba
      rw [← hv9] at Z7 hHeld ⊢
      clear hv9
      obtain ⟨g7, hg9⟩ : ∃ q, q = v0.heap.size := ⟨_, rfl⟩
      rw [← hg9] at Z7 g70 ⊢
      clear hg9
      (try simp only [Act.put, List.setIfInBounds_toArray, List.set_cons_zero, List.set_cons_succ])
      refine wpAnyH_ready (rs := [1, 5]) (by kernel_rfl) (by simp) (AllReadyH.cons (o := { dst := some 21, op := Op.call { callee := Callee.value (Operand.func 9), args := #[Operand.tmp 20], argTypes := #[24] }, type := 24, pos := "law.go:36", after := #[{ on := 0, ground := Ground.data }], guard := none }) rfl (fun K hK => ?_) (AllReadyH.cons (o := { dst := some 8, op := Op.alloc 24, type := 0, pos := "law.go:36", after := #[], guard := none }) rfl (fun K hK => ?_) AllReadyH.nil))
      · go_simp
        refine (own6_any lx _ v4 (HX3.out.on hHeld)).mono ?_
        rintro e v1 ⟨x9, rfl, hown, hba⟩
        rw [← HFA.out] at hown
        obtain ⟨aa, ca, rfl, _, _⟩ := own_slice hown
        have OA : Hid (OwnI v1 w3.heap.size (.slice aa fa.length ca) fa) := Lib.hid (own_base hown hHeld.size)
        rw [← HNA.out] at OA ⊢
        have Z7 := Lib.hid (Z7.out.on hba)
        refine hK.out _ _ (bch hHeld hba) (fun hHeld => ?_)
        clear hown hba
        (try simp only [Act.put, List.setIfInBounds_toArray, List.set_cons_zero, List.set_cons_succ])
        refine wpAnyH_ready (rs := [3, 5]) (by kernel_rfl) (by simp) (AllReadyH.cons (o := { dst := some 23, op := Op.call { callee := Callee.value (Operand.func 9), args := #[Operand.tmp 22], argTypes := #[24] }, type := 24, pos := "law.go:36", after := #[{ on := 2, ground := Ground.data }, { on := 1, ground := Ground.chain }], guard := none }) rfl (fun K hK => ?_) (AllReadyH.cons (o := { dst := some 8, op := Op.alloc 24, type := 0, pos := "law.go:36", after := #[], guard := none }) rfl (fun K hK => ?_) AllReadyH.nil))
        · go_simp
          refine (own6_any ly _ v1 (HY3.out.on hHeld)).mono ?_
          rintro e v3 ⟨x9, rfl, hown, hba⟩
          rw [← HFB.out] at hown
          obtain ⟨ab, cb, rfl, _, _⟩ := own_slice hown
          have OB : Hid (OwnI v3 w3.heap.size (.slice ab fb.length cb) fb) := Lib.hid (own_base hown hHeld.size)
          rw [← HNB.out] at OB ⊢
          have OA := Lib.hid (OA.out.on hba)
          have Z7 := Lib.hid (Z7.out.on hba)
          refine hK.out _ _ (bch hHeld hba) (fun hHeld => ?_)
          clear hown hba
          (try simp only [Act.put, List.setIfInBounds_toArray, List.set_cons_zero, List.set_cons_succ])
          refine wpAnyH_ready (rs := [5]) (by kernel_rfl) (by simp) (AllReadyH.cons (o := { dst := some 8, op := Op.alloc 24, type := 0, pos := "law.go:36", after := #[], guard := none }) rfl (fun K hK => ?_) AllReadyH.nil)
          · go_simp
            have hba : Below v3.heap.size v3 (v3.alloc (.cells #[.slice none 0 0] 24)) := below_new _ _
            have Z8 : Hid (Box (v3.alloc (.cells #[.slice none 0 0] 24)) v3.heap.size 24 #[.slice none 0 0]) := Lib.hid box_new
            have g80 : Hid (w3.heap.size ≤ v3.heap.size) := Lib.hid hHeld.size
            have HNE0 : Hid (g7 < v3.heap.size) := Lib.hid Z7.out.lt
            have OA := Lib.hid (OA.out.on hba)
            have OB := Lib.hid (OB.out.on hba)
            have Z7 := Lib.hid (Z7.out.on hba)
            obtain ⟨v5, hv9⟩ : ∃ q, q = v3.alloc (.cells #[.slice none 0 0] 24) := ⟨_, rfl⟩
            refine hK.out _ _ (bch hHeld hba) (fun hHeld => ?_)
            clear hba
            rw [← hv9] at Z8 hHeld OA OB Z7 ⊢
            clear hv9
            obtain ⟨g8, hg9⟩ : ∃ q, q = v3.heap.size := ⟨_, rfl⟩
            rw [← hg9] at Z8 g80 HNE0 ⊢
            clear hg9
            have HNE : Hid (g7 ≠ g8) := Lib.hid (by have := HNE0.out; omega)
            (try simp only [Act.put, List.setIfInBounds_toArray, List.set_cons_zero, List.set_cons_succ])
            refine wpAnyH_ready (rs := [6]) (by kernel_rfl) (by simp) (AllReadyH.cons (o := { dst := none, op := Op.store 24 (Operand.tmp 7) (Operand.tmp 21), type := 0, pos := "law.go:36", after := #[{ on := 4, ground := Ground.data }, { on := 1, ground := Ground.data }, { on := 3, ground := Ground.chain }, { on := 0, ground := Ground.phase }, { on := 1, ground := Ground.phase }, { on := 2, ground := Ground.textOnly Departure.lateStores }, { on := 3, ground := Ground.textOnly Departure.lateStoresUnsure }, { on := 4, ground := Ground.phase }, { on := 5, ground := Ground.phase }], guard := none }) rfl (fun K hK => ?_) AllReadyH.nil)
            · have p0 := Z7.out.cell (k := 0) rfl
              have f0 := frozen_of_row v5 _ 0 _ _ Z7.out
              go_simp
              have OA := Lib.hid (OA.out.boxed Z7.out 0 (.slice aa na ca))
              have OB := Lib.hid (OB.out.boxed Z7.out 0 (.slice aa na ca))
              have Z8 := Lib.hid (Z8.out.far (p := ⟨g7, 0, none⟩) (by have := HNE.out; show g8 ≠ g7; omega) (.slice aa na ca))
              have Z7 := Lib.hid (Z7.out.set (k := 0) (.slice aa na ca))
              refine hK.out _ _ (hHeld.setCell (p := ⟨g7, 0, none⟩) g70.out (.slice aa na ca)) (fun hHeld => ?_)
              clear p0 f0
              obtain ⟨vq, hv9⟩ : ∃ q, q = v5.setCell ⟨g7, 0, none⟩ (.slice aa na ca) := ⟨_, rfl⟩
              rw [← hv9] at Z7 Z8 OA OB hHeld ⊢
              clear hv9
              (try simp only [Act.put, List.setIfInBounds_toArray, List.set_cons_zero, List.set_cons_succ])
              refine wpAnyH_ready (rs := [7]) (by kernel_rfl) (by simp) (AllReadyH.cons (o := { dst := none, op := Op.store 24 (Operand.tmp 8) (Operand.tmp 23), type := 0, pos := "law.go:36", after := #[{ on := 5, ground := Ground.data }, { on := 3, ground := Ground.data }, { on := 6, ground := Ground.chain }, { on := 0, ground := Ground.phase }, { on := 1, ground := Ground.phase }, { on := 2, ground := Ground.phase }, { on := 3, ground := Ground.phase }, { on := 4, ground := Ground.phase }, { on := 5, ground := Ground.phase }, { on := 6, ground := Ground.phase }], guard := none }) rfl (fun K hK => ?_) AllReadyH.nil)
              · have p0 := Z8.out.cell (k := 0) rfl
                have f0 := frozen_of_row vq _ 0 _ _ Z8.out
                go_simp
                have OA := Lib.hid (OA.out.boxed Z8.out 0 (.slice ab nb cb))
                have OB := Lib.hid (OB.out.boxed Z8.out 0 (.slice ab nb cb))
                have Z7 := Lib.hid (Z7.out.far (p := ⟨g8, 0, none⟩) (by have := HNE.out; show g7 ≠ g8; omega) (.slice ab nb cb))
                have Z8 := Lib.hid (Z8.out.set (k := 0) (.slice ab nb cb))
                refine hK.out _ _ (hHeld.setCell (p := ⟨g8, 0, none⟩) g80.out (.slice ab nb cb)) (fun hHeld => ?_)
                clear p0 f0
                (try simp only [Act.put, List.setIfInBounds_toArray, List.set_cons_zero, List.set_cons_succ])
                refine wpAnyH_done (by kernel_rfl) ?_ _
                first | refine hK2 _ _ (Met.intro (hJ _ _ ?_)) | refine Met.intro (hJ _ _ ?_)
                (repeat apply Exists.intro)
                refine ⟨?_, rfl⟩
                exact ⟨_, _, _, _, _, _, rfl, rfl, g70, g80, Z7, Z8, OA, OB, Lib.hid hHeld⟩
        · go_simp
          have hba : Below v1.heap.size v1 (v1.alloc (.cells #[.slice none 0 0] 24)) := below_new _ _
          have Z8 : Hid (Box (v1.alloc (.cells #[.slice none 0 0] 24)) v1.heap.size 24 #[.slice none 0 0]) := Lib.hid box_new
          have g80 : Hid (w3.heap.size ≤ v1.heap.size) := Lib.hid hHeld.size
          have HNE0 : Hid (g7 < v1.heap.size) := Lib.hid Z7.out.lt
          have OA := Lib.hid (OA.out.on hba)
          have Z7 := Lib.hid (Z7.out.on hba)
          obtain ⟨v5, hv9⟩ : ∃ q, q = v1.alloc (.cells #[.slice none 0 0] 24) := ⟨_, rfl⟩
          refine hK.out _ _ (bch hHeld hba) (fun hHeld => ?_)
          clear hba
          rw [← hv9] at Z8 hHeld OA Z7 ⊢
          clear hv9
          obtain ⟨g8, hg9⟩ : ∃ q, q = v1.heap.size := ⟨_, rfl⟩
          rw [← hg9] at Z8 g80 HNE0 ⊢
          clear hg9
          have HNE : Hid (g7 ≠ g8) := Lib.hid (by have := HNE0.out; omega)
          (try simp only [Act.put, List.setIfInBounds_toArray, List.set_cons_zero, List.set_cons_succ])
          refine wpAnyH_ready (rs := [3]) (by kernel_rfl) (by simp) (AllReadyH.cons (o := { dst := some 23, op := Op.call { callee := Callee.value (Operand.func 9), args := #[Operand.tmp 22], argTypes := #[24] }, type := 24, pos := "law.go:36", after := #[{ on := 2, ground := Ground.data }, { on := 1, ground := Ground.chain }], guard := none }) rfl (fun K hK => ?_) AllReadyH.nil)
          · go_simp
            refine (own6_any ly _ v5 (HY3.out.on hHeld)).mono ?_
            rintro e v3 ⟨x9, rfl, hown, hba⟩
            rw [← HFB.out] at hown
            obtain ⟨ab, cb, rfl, _, _⟩ := own_slice hown
            have OB : Hid (OwnI v3 w3.heap.size (.slice ab fb.length cb) fb) := Lib.hid (own_base hown hHeld.size)
            rw [← HNB.out] at OB ⊢
            have OA := Lib.hid (OA.out.on hba)
            have Z7 := Lib.hid (Z7.out.on hba)
            have Z8 := Lib.hid (Z8.out.on hba)
            refine hK.out _ _ (bch hHeld hba) (fun hHeld => ?_)
            clear hown hba
            (try simp only [Act.put, List.setIfInBounds_toArray, List.set_cons_zero, List.set_cons_succ])
            refine wpAnyH_ready (rs := [6]) (by kernel_rfl) (by simp) (AllReadyH.cons (o := { dst := none, op := Op.store 24 (Operand.tmp 7) (Operand.tmp 21), type := 0, pos := "law.go:36", after := #[{ on := 4, ground := Ground.data }, { on := 1, ground := Ground.data }, { on := 3, ground := Ground.chain }, { on := 0, ground := Ground.phase }, { on := 1, ground := Ground.phase }, { on := 2, ground := Ground.textOnly Departure.lateStores }, { on := 3, ground := Ground.textOnly Departure.lateStoresUnsure }, { on := 4, ground := Ground.phase }, { on := 5, ground := Ground.phase }], guard := none }) rfl (fun K hK => ?_) AllReadyH.nil)
            · have p0 := Z7.out.cell (k := 0) rfl
              have f0 := frozen_of_row v3 _ 0 _ _ Z7.out
              go_simp
              have OA := Lib.hid (OA.out.boxed Z7.out 0 (.slice aa na ca))
              have OB := Lib.hid (OB.out.boxed Z7.out 0 (.slice aa na ca))
              have Z8 := Lib.hid (Z8.out.far (p := ⟨g7, 0, none⟩) (by have := HNE.out; show g8 ≠ g7; omega) (.slice aa na ca))
              have Z7 := Lib.hid (Z7.out.set (k := 0) (.slice aa na ca))
              refine hK.out _ _ (hHeld.setCell (p := ⟨g7, 0, none⟩) g70.out (.slice aa na ca)) (fun hHeld => ?_)
              clear p0 f0
              obtain ⟨vq, hv9⟩ : ∃ q, q = v3.setCell ⟨g7, 0, none⟩ (.slice aa na ca) := ⟨_, rfl⟩
              rw [← hv9] at Z7 Z8 OA OB hHeld ⊢
              clear hv9
              (try simp only [Act.put, List.setIfInBounds_toArray, List.set_cons_zero, List.set_cons_succ])
              refine wpAnyH_ready (rs := [7]) (by kernel_rfl) (by simp) (AllReadyH.cons (o := { dst := none, op := Op.store 24 (Operand.tmp 8) (Operand.tmp 23), type := 0, pos := "law.go:36", after := #[{ on := 5, ground := Ground.data }, { on := 3, ground := Ground.data }, { on := 6, ground := Ground.chain }, { on := 0, ground := Ground.phase }, { on := 1, ground := Ground.phase }, { on := 2, ground := Ground.phase }, { on := 3, ground := Ground.phase }, { on := 4, ground := Ground.phase }, { on := 5, ground := Ground.phase }, { on := 6, ground := Ground.phase }], guard := none }) rfl (fun K hK => ?_) AllReadyH.nil)
              · have p0 := Z8.out.cell (k := 0) rfl
                have f0 := frozen_of_row vq _ 0 _ _ Z8.out
                go_simp
                have OA := Lib.hid (OA.out.boxed Z8.out 0 (.slice ab nb cb))
                have OB := Lib.hid (OB.out.boxed Z8.out 0 (.slice ab nb cb))
                have Z7 := Lib.hid (Z7.out.far (p := ⟨g8, 0, none⟩) (by have := HNE.out; show g7 ≠ g8; omega) (.slice ab nb cb))
                have Z8 := Lib.hid (Z8.out.set (k := 0) (.slice ab nb cb))
                refine hK.out _ _ (hHeld.setCell (p := ⟨g8, 0, none⟩) g80.out (.slice ab nb cb)) (fun hHeld => ?_)
                clear p0 f0
                (try simp only [Act.put, List.setIfInBounds_toArray, List.set_cons_zero, List.set_cons_succ])
                refine wpAnyH_done (by kernel_rfl) ?_ _
                first | refine hK2 _ _ (Met.intro (hJ _ _ ?_)) | refine Met.intro (hJ _ _ ?_)
                (repeat apply Exists.intro)
                refine ⟨?_, rfl⟩
                exact ⟨_, _, _, _, _, _, rfl, rfl, g70, g80, Z7, Z8, OA, OB, Lib.hid hHeld⟩
      · go_simp
        have hba : Below v4.heap.size v4 (v4.alloc (.cells #[.slice none 0 0] 24)) := below_new _ _
        have Z8 : Hid (Box (v4.alloc (.cells #[.slice none 0 0] 24)) v4.heap.size 24 #[.slice none 0 0]) := Lib.hid box_new
        have g80 : Hid (w3.heap.size ≤ v4.heap.size) := Lib.hid hHeld.size
        have HNE0 : Hid (g7 < v4.heap.size) := Lib.hid Z7.out.lt
        have Z7 := Lib.hid (Z7.out.on hba)
        obtain ⟨v5, hv9⟩ : ∃ q, q = v4.alloc (.cells #[.slice none 0 0] 24) := ⟨_, rfl⟩
        refine hK.out _ _ (bch hHeld hba) (fun hHeld => ?_)
        clear hba
        rw [← hv9] at Z8 hHeld Z7 ⊢
        clear hv9
        obtain ⟨g8, hg9⟩ : ∃ q, q = v4.heap.size := ⟨_, rfl⟩
        rw [← hg9] at Z8 g80 HNE0 ⊢
        clear hg9
        have HNE : Hid (g7 ≠ g8) := Lib.hid (by have := HNE0.out; omega)
        (try simp only [Act.put, List.setIfInBounds_toArray, List.set_cons_zero, List.set_cons_succ])
        refine wpAnyH_ready (rs := [1]) (by kernel_rfl) (by simp) (AllReadyH.cons (o := { dst := some 21, op := Op.call { callee := Callee.value (Operand.func 9), args := #[Operand.tmp 20], argTypes := #[24] }, type := 24, pos := "law.go:36", after := #[{ on := 0, ground := Ground.data }], guard := none }) rfl (fun K hK => ?_) AllReadyH.nil)
        · go_simp
          refine (own6_any lx _ v5 (HX3.out.on hHeld)).mono ?_
          rintro e v1 ⟨x9, rfl, hown, hba⟩
          rw [← HFA.out] at hown
          obtain ⟨aa, ca, rfl, _, _⟩ := own_slice hown
          have OA : Hid (OwnI v1 w3.heap.size (.slice aa fa.length ca) fa) := Lib.hid (own_base hown hHeld.size)
          rw [← HNA.out] at OA ⊢
          have Z7 := Lib.hid (Z7.out.on hba)
          have Z8 := Lib.hid (Z8.out.on hba)
          refine hK.out _ _ (bch hHeld hba) (fun hHeld => ?_)
          clear hown hba
          (try simp only [Act.put, List.setIfInBounds_toArray, List.set_cons_zero, List.set_cons_succ])
          refine wpAnyH_ready (rs := [3]) (by kernel_rfl) (by simp) (AllReadyH.cons (o := { dst := some 23, op := Op.call { callee := Callee.value (Operand.func 9), args := #[Operand.tmp 22], argTypes := #[24] }, type := 24, pos := "law.go:36", after := #[{ on := 2, ground := Ground.data }, { on := 1, ground := Ground.chain }], guard := none }) rfl (fun K hK => ?_) AllReadyH.nil)
          · go_simp
            refine (own6_any ly _ v1 (HY3.out.on hHeld)).mono ?_
            rintro e v3 ⟨x9, rfl, hown, hba⟩
            rw [← HFB.out] at hown
            obtain ⟨ab, cb, rfl, _, _⟩ := own_slice hown
            have OB : Hid (OwnI v3 w3.heap.size (.slice ab fb.length cb) fb) := Lib.hid (own_base hown hHeld.size)
            rw [← HNB.out] at OB ⊢
            have OA := Lib.hid (OA.out.on hba)
            have Z7 := Lib.hid (Z7.out.on hba)
            have Z8 := Lib.hid (Z8.out.on hba)
            refine hK.out _ _ (bch hHeld hba) (fun hHeld => ?_)
            clear hown hba
            (try simp only [Act.put, List.setIfInBounds_toArray, List.set_cons_zero, List.set_cons_succ])
            refine wpAnyH_ready (rs := [6]) (by kernel_rfl) (by simp) (AllReadyH.cons (o := { dst := none, op := Op.store 24 (Operand.tmp 7) (Operand.tmp 21), type := 0, pos := "law.go:36", after := #[{ on := 4, ground := Ground.data }, { on := 1, ground := Ground.data }, { on := 3, ground := Ground.chain }, { on := 0, ground := Ground.phase }, { on := 1, ground := Ground.phase }, { on := 2, ground := Ground.textOnly Departure.lateStores }, { on := 3, ground := Ground.textOnly Departure.lateStoresUnsure }, { on := 4, ground := Ground.phase }, { on := 5, ground := Ground.phase }], guard := none }) rfl (fun K hK => ?_) AllReadyH.nil)
            · have p0 := Z7.out.cell (k := 0) rfl
              have f0 := frozen_of_row v3 _ 0 _ _ Z7.out
              go_simp
              have OA := Lib.hid (OA.out.boxed Z7.out 0 (.slice aa na ca))
              have OB := Lib.hid (OB.out.boxed Z7.out 0 (.slice aa na ca))
              have Z8 := Lib.hid (Z8.out.far (p := ⟨g7, 0, none⟩) (by have := HNE.out; show g8 ≠ g7; omega) (.slice aa na ca))
              have Z7 := Lib.hid (Z7.out.set (k := 0) (.slice aa na ca))
              refine hK.out _ _ (hHeld.setCell (p := ⟨g7, 0, none⟩) g70.out (.slice aa na ca)) (fun hHeld => ?_)
              clear p0 f0
              obtain ⟨vq, hv9⟩ : ∃ q, q = v3.setCell ⟨g7, 0, none⟩ (.slice aa na ca) := ⟨_, rfl⟩
              rw [← hv9] at Z7 Z8 OA OB hHeld ⊢
              clear hv9
              (try simp only [Act.put, List.setIfInBounds_toArray, List.set_cons_zero, List.set_cons_succ])
              refine wpAnyH_ready (rs := [7]) (by kernel_rfl) (by simp) (AllReadyH.cons (o := { dst := none, op := Op.store 24 (Operand.tmp 8) (Operand.tmp 23), type := 0, pos := "law.go:36", after := #[{ on := 5, ground := Ground.data }, { on := 3, ground := Ground.data }, { on := 6, ground := Ground.chain }, { on := 0, ground := Ground.phase }, { on := 1, ground := Ground.phase }, { on := 2, ground := Ground.phase }, { on := 3, ground := Ground.phase }, { on := 4, ground := Ground.phase }, { on := 5, ground := Ground.phase }, { on := 6, ground := Ground.phase }], guard := none }) rfl (fun K hK => ?_) AllReadyH.nil)
              · have p0 := Z8.out.cell (k := 0) rfl
                have f0 := frozen_of_row vq _ 0 _ _ Z8.out
                go_simp
                have OA := Lib.hid (OA.out.boxed Z8.out 0 (.slice ab nb cb))
                have OB := Lib.hid (OB.out.boxed Z8.out 0 (.slice ab nb cb))
                have Z7 := Lib.hid (Z7.out.far (p := ⟨g8, 0, none⟩) (by have := HNE.out; show g7 ≠ g8; omega) (.slice ab nb cb))
                have Z8 := Lib.hid (Z8.out.set (k := 0) (.slice ab nb cb))
                refine hK.out _ _ (hHeld.setCell (p := ⟨g8, 0, none⟩) g80.out (.slice ab nb cb)) (fun hHeld => ?_)
                clear p0 f0
                (try simp only [Act.put, List.setIfInBounds_toArray, List.set_cons_zero, List.set_cons_succ])
                refine wpAnyH_done (by kernel_rfl) ?_ _
                first | refine hK2 _ _ (Met.intro (hJ _ _ ?_)) | refine Met.intro (hJ _ _ ?_)
                (repeat apply Exists.intro)
                refine ⟨?_, rfl⟩
                exact ⟨_, _, _, _, _, _, rfl, rfl, g70, g80, Z7, Z8, OA, OB, Lib.hid hHeld⟩
    · go_simp
      have hba : Below v0.heap.size v0 (v0.alloc (.cells #[.slice none 0 0] 24)) := below_new _ _
      have Z8 : Hid (Box (v0.alloc (.cells #[.slice none 0 0] 24)) v0.heap.size 24 #[.slice none 0 0]) := Lib.hid box_new
      have g80 : Hid (w3.heap.size ≤ v0.heap.size) := Lib.hid hHeld.size
      obtain ⟨v5, hv9⟩ : ∃ q, q = v0.alloc (.cells #[.slice none 0 0] 24) := ⟨_, rfl⟩
      refine hK.out _ _ (bch hHeld hba) (fun hHeld => ?_)
      clear hba
      rw [← hv9] at Z8 hHeld ⊢
      clear hv9
      obtain ⟨g8, hg9⟩ : ∃ q, q = v0.heap.size := ⟨_, rfl⟩
      rw [← hg9] at Z8 g80 ⊢
      clear hg9
      (try simp only [Act.put, List.setIfInBounds_toArray, List.set_cons_zero, List.set_cons_succ])
      refine wpAnyH_ready (rs := [1, 4]) (by kernel_rfl) (by simp) (AllReadyH.cons (o := { dst := some 21, op := Op.call { callee := Callee.value (Operand.func 9), args := #[Operand.tmp 20], argTypes := #[24] }, type := 24, pos := "law.go:36", after := #[{ on := 0, ground := Ground.data }], guard := none }) rfl (fun K hK => ?_) (AllReadyH.cons (o := { dst := some 7, op := Op.alloc 24, type := 0, pos := "law.go:36", after := #[], guard := none }) rfl (fun K hK => ?_) AllReadyH.nil))
      · go_simp
        refine (own6_any lx _ v5 (HX3.out.on hHeld)).mono ?_
        rintro e v1 ⟨x9, rfl, hown, hba⟩
        rw [← HFA.out] at hown
        obtain ⟨aa, ca, rfl, _, _⟩ := own_slice hown
        have OA : Hid (OwnI v1 w3.heap.size (.slice aa fa.length ca) fa) := Lib.hid (own_base hown hHeld.size)
        rw [← HNA.out] at OA ⊢
        have Z8 := Lib.hid (Z8.out.on hba)
        refine hK.out _ _ (bch hHeld hba) (fun hHeld => ?_)
        clear hown hba
        (try simp only [Act.put, List.setIfInBounds_toArray, List.set_cons_zero, List.set_cons_succ])
        refine wpAnyH_ready (rs := [3, 4]) (by kernel_rfl) (by simp) (AllReadyH.cons (o := { dst := some 23, op := Op.call { callee := Callee.value (Operand.func 9), args := #[Operand.tmp 22], argTypes := #[24] }, type := 24, pos := "law.go:36", after := #[{ on := 2, ground := Ground.data }, { on := 1, ground := Ground.chain }], guard := none }) rfl (fun K hK => ?_) (AllReadyH.cons (o := { dst := some 7, op := Op.alloc 24, type := 0, pos := "law.go:36", after := #[], guard := none }) rfl (fun K hK => ?_) AllReadyH.nil))
        · go_simp
          refine (own6_any ly _ v1 (HY3.out.on hHeld)).mono ?_
          rintro e v3 ⟨x9, rfl, hown, hba⟩
          rw [← HFB.out] at hown
          obtain ⟨ab, cb, rfl, _, _⟩ := own_slice hown
          have OB : Hid (OwnI v3 w3.heap.size (.slice ab fb.length cb) fb) := Lib.hid (own_base hown hHeld.size)
          rw [← HNB.out] at OB ⊢
          have OA := Lib.hid (OA.out.on hba)
          have Z8 := Lib.hid (Z8.out.on hba)
          refine hK.out _ _ (bch hHeld hba) (fun hHeld => ?_)
          clear hown hba
          (try simp only [Act.put, List.setIfInBounds_toArray, List.set_cons_zero, List.set_cons_succ])
          refine wpAnyH_ready (rs := [4]) (by kernel_rfl) (by simp) (AllReadyH.cons (o := { dst := some 7, op := Op.alloc 24, type := 0, pos := "law.go:36", after := #[], guard := none }) rfl (fun K hK => ?_) AllReadyH.nil)
          · go_simp
            have hba : Below v3.heap.size v3 (v3.alloc (.cells #[.slice none 0 0] 24)) := below_new _ _
            have Z7 : Hid (Box (v3.alloc (.cells #[.slice none 0 0] 24)) v3.heap.size 24 #[.slice none 0 0]) := Lib.hid box_new
            have g70 : Hid (w3.heap.size ≤ v3.heap.size) := Lib.hid hHeld.size
            have HNE0 : Hid (g8 < v3.heap.size) := Lib.hid Z8.out.lt
            have OA := Lib.hid (OA.out.on hba)
            have OB := Lib.hid (OB.out.on hba)
            have Z8 := Lib.hid (Z8.out.on hba)
            obtain ⟨v4, hv9⟩ : ∃ q, q = v3.alloc (.cells #[.slice none 0 0] 24) := ⟨_, rfl⟩
            refine hK.out _ _ (bch hHeld hba) (fun hHeld => ?_)
            clear hba
            rw [← hv9] at Z7 hHeld OA OB Z8 ⊢
            clear hv9
            obtain ⟨g7, hg9⟩ : ∃ q, q = v3.heap.size := ⟨_, rfl⟩
            rw [← hg9] at Z7 g70 HNE0 ⊢
            clear hg9
            have HNE : Hid (g7 ≠ g8) := Lib.hid (by have := HNE0.out; omega)
            (try simp only [Act.put, List.setIfInBounds_toArray, List.set_cons_zero, List.set_cons_succ])
            refine wpAnyH_ready (rs := [6]) (by kernel_rfl) (by simp) (AllReadyH.cons (o := { dst := none, op := Op.store 24 (Operand.tmp 7) (Operand.tmp 21), type := 0, pos := "law.go:36", after := #[{ on := 4, ground := Ground.data }, { on := 1, ground := Ground.data }, { on := 3, ground := Ground.chain }, { on := 0, ground := Ground.phase }, { on := 1, ground := Ground.phase }, { on := 2, ground := Ground.textOnly Departure.lateStores }, { on := 3, ground := Ground.textOnly Departure.lateStoresUnsure }, { on := 4, ground := Ground.phase }, { on := 5, ground := Ground.phase }], guard := none }) rfl (fun K hK => ?_) AllReadyH.nil)
            · have p0 := Z7.out.cell (k := 0) rfl
              have f0 := frozen_of_row v4 _ 0 _ _ Z7.out
              go_simp
              have OA := Lib.hid (OA.out.boxed Z7.out 0 (.slice aa na ca))
              have OB := Lib.hid (OB.out.boxed Z7.out 0 (.slice aa na ca))
              have Z8 := Lib.hid (Z8.out.far (p := ⟨g7, 0, none⟩) (by have := HNE.out; show g8 ≠ g7; omega) (.slice aa na ca))
              have Z7 := Lib.hid (Z7.out.set (k := 0) (.slice aa na ca))
              refine hK.out _ _ (hHeld.setCell (p := ⟨g7, 0, none⟩) g70.out (.slice aa na ca)) (fun hHeld => ?_)
              clear p0 f0
              obtain ⟨vq, hv9⟩ : ∃ q, q = v4.setCell ⟨g7, 0, none⟩ (.slice aa na ca) := ⟨_, rfl⟩
              rw [← hv9] at Z7 Z8 OA OB hHeld ⊢
              clear hv9
              (try simp only [Act.put, List.setIfInBounds_toArray, List.set_cons_zero, List.set_cons_succ])
              refine wpAnyH_ready (rs := [7]) (by kernel_rfl) (by simp) (AllReadyH.cons (o := { dst := none, op := Op.store 24 (Operand.tmp 8) (Operand.tmp 23), type := 0, pos := "law.go:36", after := #[{ on := 5, ground := Ground.data }, { on := 3, ground := Ground.data }, { on := 6, ground := Ground.chain }, { on := 0, ground := Ground.phase }, { on := 1, ground := Ground.phase }, { on := 2, ground := Ground.phase }, { on := 3, ground := Ground.phase }, { on := 4, ground := Ground.phase }, { on := 5, ground := Ground.phase }, { on := 6, ground := Ground.phase }], guard := none }) rfl (fun K hK => ?_) AllReadyH.nil)
              · have p0 := Z8.out.cell (k := 0) rfl
                have f0 := frozen_of_row vq _ 0 _ _ Z8.out
                go_simp
                have OA := Lib.hid (OA.out.boxed Z8.out 0 (.slice ab nb cb))
                have OB := Lib.hid (OB.out.boxed Z8.out 0 (.slice ab nb cb))
                have Z7 := Lib.hid (Z7.out.far (p := ⟨g8, 0, none⟩) (by have := HNE.out; show g7 ≠ g8; omega) (.slice ab nb cb))
                have Z8 := Lib.hid (Z8.out.set (k := 0) (.slice ab nb cb))
                refine hK.out _ _ (hHeld.setCell (p := ⟨g8, 0, none⟩) g80.out (.slice ab nb cb)) (fun hHeld => ?_)
                clear p0 f0
                (try simp only [Act.put, List.setIfInBounds_toArray, List.set_cons_zero, List.set_cons_succ])
                refine wpAnyH_done (by kernel_rfl) ?_ _
                first | refine hK2 _ _ (Met.intro (hJ _ _ ?_)) | refine Met.intro (hJ _ _ ?_)
                (repeat apply Exists.intro)
                refine ⟨?_, rfl⟩
                exact ⟨_, _, _, _, _, _, rfl, rfl, g70, g80, Z7, Z8, OA, OB, Lib.hid hHeld⟩
        · go_simp
          have hba : Below v1.heap.size v1 (v1.alloc (.cells #[.slice none 0 0] 24)) := below_new _ _
          have Z7 : Hid (Box (v1.alloc (.cells #[.slice none 0 0] 24)) v1.heap.size 24 #[.slice none 0 0]) := Lib.hid box_new
          have g70 : Hid (w3.heap.size ≤ v1.heap.size) := Lib.hid hHeld.size
          have HNE0 : Hid (g8 < v1.heap.size) := Lib.hid Z8.out.lt
          have OA := Lib.hid (OA.out.on hba)
          have Z8 := Lib.hid (Z8.out.on hba)
          obtain ⟨v4, hv9⟩ : ∃ q, q = v1.alloc (.cells #[.slice none 0 0] 24) := ⟨_, rfl⟩
          refine hK.out _ _ (bch hHeld hba) (fun hHeld => ?_)
          clear hba
          rw [← hv9] at Z7 hHeld OA Z8 ⊢
          clear hv9
          obtain ⟨g7, hg9⟩ : ∃ q, q = v1.heap.size := ⟨_, rfl⟩
          rw [← hg9] at Z7 g70 HNE0 ⊢
          clear hg9
          have HNE : Hid (g7 ≠ g8) := Lib.hid (by have := HNE0.out; omega)
          (try simp only [Act.put, List.setIfInBounds_toArray, List.set_cons_zero, List.set_cons_succ])
          refine wpAnyH_ready (rs := [3]) (by kernel_rfl) (by simp) (AllReadyH.cons (o := { dst := some 23, op := Op.call { callee := Callee.value (Operand.func 9), args := #[Operand.tmp 22], argTypes := #[24] }, type := 24, pos := "law.go:36", after := #[{ on := 2, ground := Ground.data }, { on := 1, ground := Ground.chain }], guard := none }) rfl (fun K hK => ?_) AllReadyH.nil)
          · go_simp
            refine (own6_any ly _ v4 (HY3.out.on hHeld)).mono ?_
            rintro e v3 ⟨x9, rfl, hown, hba⟩
            rw [← HFB.out] at hown
            obtain ⟨ab, cb, rfl, _, _⟩ := own_slice hown
            have OB : Hid (OwnI v3 w3.heap.size (.slice ab fb.length cb) fb) := Lib.hid (own_base hown hHeld.size)
            rw [← HNB.out] at OB ⊢
            have OA := Lib.hid (OA.out.on hba)
            have Z7 := Lib.hid (Z7.out.on hba)
            have Z8 := Lib.hid (Z8.out.on hba)
            refine hK.out _ _ (bch hHeld hba) (fun hHeld => ?_)
            clear hown hba
            (try simp only [Act.put, List.setIfInBounds_toArray, List.set_cons_zero, List.set_cons_succ])
            refine wpAnyH_ready (rs := [6]) (by kernel_rfl) (by simp) (AllReadyH.cons (o := { dst := none, op := Op.store 24 (Operand.tmp 7) (Operand.tmp 21), type := 0, pos := "law.go:36", after := #[{ on := 4, ground := Ground.data }, { on := 1, ground := Ground.data }, { on := 3, ground := Ground.chain }, { on := 0, ground := Ground.phase }, { on := 1, ground := Ground.phase }, { on := 2, ground := Ground.textOnly Departure.lateStores }, { on := 3, ground := Ground.textOnly Departure.lateStoresUnsure }, { on := 4, ground := Ground.phase }, { on := 5, ground := Ground.phase }], guard := none }) rfl (fun K hK => ?_) AllReadyH.nil)
            · have p0 := Z7.out.cell (k := 0) rfl
              have f0 := frozen_of_row v3 _ 0 _ _ Z7.out
              go_simp
              have OA := Lib.hid (OA.out.boxed Z7.out 0 (.slice aa na ca))
              have OB := Lib.hid (OB.out.boxed Z7.out 0 (.slice aa na ca))
              have Z8 := Lib.hid (Z8.out.far (p := ⟨g7, 0, none⟩) (by have := HNE.out; show g8 ≠ g7; omega) (.slice aa na ca))
              have Z7 := Lib.hid (Z7.out.set (k := 0) (.slice aa na ca))
              refine hK.out _ _ (hHeld.setCell (p := ⟨g7, 0, none⟩) g70.out (.slice aa na ca)) (fun hHeld => ?_)
              clear p0 f0
              obtain ⟨vq, hv9⟩ : ∃ q, q = v3.setCell ⟨g7, 0, none⟩ (.slice aa na ca) := ⟨_, rfl⟩
              rw [← hv9] at Z7 Z8 OA OB hHeld ⊢
              clear hv9
              (try simp only [Act.put, List.setIfInBounds_toArray, List.set_cons_zero, List.set_cons_succ])
              refine wpAnyH_ready (rs := [7]) (by kernel_rfl) (by simp) (AllReadyH.cons (o := { dst := none, op := Op.store 24 (Operand.tmp 8) (Operand.tmp 23), type := 0, pos := "law.go:36", after := #[{ on := 5, ground := Ground.data }, { on := 3, ground := Ground.data }, { on := 6, ground := Ground.chain }, { on := 0, ground := Ground.phase }, { on := 1, ground := Ground.phase }, { on := 2, ground := Ground.phase }, { on := 3, ground := Ground.phase }, { on := 4, ground := Ground.phase }, { on := 5, ground := Ground.phase }, { on := 6, ground := Ground.phase }], guard := none }) rfl (fun K hK => ?_) AllReadyH.nil)
              · have p0 := Z8.out.cell (k := 0) rfl
                have f0 := frozen_of_row vq _ 0 _ _ Z8.out
                go_simp
                have OA := Lib.hid (OA.out.boxed Z8.out 0 (.slice ab nb cb))
                have OB := Lib.hid (OB.out.boxed Z8.out 0 (.slice ab nb cb))
                have Z7 := Lib.hid (Z7.out.far (p := ⟨g8, 0, none⟩) (by have := HNE.out; show g7 ≠ g8; omega) (.slice ab nb cb))
                have Z8 := Lib.hid (Z8.out.set (k := 0) (.slice ab nb cb))
                refine hK.out _ _ (hHeld.setCell (p := ⟨g8, 0, none⟩) g80.out (.slice ab nb cb)) (fun hHeld => ?_)
                clear p0 f0
                (try simp only [Act.put, List.setIfInBounds_toArray, List.set_cons_zero, List.set_cons_succ])
                refine wpAnyH_done (by kernel_rfl) ?_ _
                first | refine hK2 _ _ (Met.intro (hJ _ _ ?_)) | refine Met.intro (hJ _ _ ?_)
                (repeat apply Exists.intro)
                refine ⟨?_, rfl⟩
                exact ⟨_, _, _, _, _, _, rfl, rfl, g70, g80, Z7, Z8, OA, OB, Lib.hid hHeld⟩
      · go_simp
        have hba : Below v5.heap.size v5 (v5.alloc (.cells #[.slice none 0 0] 24)) := below_new _ _
        have Z7 : Hid (Box (v5.alloc (.cells #[.slice none 0 0] 24)) v5.heap.size 24 #[.slice none 0 0]) := Lib.hid box_new
        have g70 : Hid (w3.heap.size ≤ v5.heap.size) := Lib.hid hHeld.size
        have HNE0 : Hid (g8 < v5.heap.size) := Lib.hid Z8.out.lt
        have Z8 := Lib.hid (Z8.out.on hba)
        obtain ⟨v4, hv9⟩ : ∃ q, q = v5.alloc (.cells #[.slice none 0 0] 24) := ⟨_, rfl⟩
        refine hK.out _ _ (bch hHeld hba) (fun hHeld => ?_)
        clear hba
        rw [← hv9] at Z7 hHeld Z8 ⊢
        clear hv9
        obtain ⟨g7, hg9⟩ : ∃ q, q = v5.heap.size := ⟨_, rfl⟩
        rw [← hg9] at Z7 g70 HNE0 ⊢
        clear hg9
        have HNE : Hid (g7 ≠ g8) := Lib.hid (by have := HNE0.out; omega)
        (try simp only [Act.put, List.setIfInBounds_toArray, List.set_cons_zero, List.set_cons_succ])
        refine wpAnyH_ready (rs := [1]) (by kernel_rfl) (by simp) (AllReadyH.cons (o := { dst := some 21, op := Op.call { callee := Callee.value (Operand.func 9), args := #[Operand.tmp 20], argTypes := #[24] }, type := 24, pos := "law.go:36", after := #[{ on := 0, ground := Ground.data }], guard := none }) rfl (fun K hK => ?_) AllReadyH.nil)
        · go_simp
          refine (own6_any lx _ v4 (HX3.out.on hHeld)).mono ?_
          rintro e v1 ⟨x9, rfl, hown, hba⟩
          rw [← HFA.out] at hown
          obtain ⟨aa, ca, rfl, _, _⟩ := own_slice hown
          have OA : Hid (OwnI v1 w3.heap.size (.slice aa fa.length ca) fa) := Lib.hid (own_base hown hHeld.size)
          rw [← HNA.out] at OA ⊢
          have Z7 := Lib.hid (Z7.out.on hba)
          have Z8 := Lib.hid (Z8.out.on hba)
          refine hK.out _ _ (bch hHeld hba) (fun hHeld => ?_)
          clear hown hba
          (try simp only [Act.put, List.setIfInBounds_toArray, List.set_cons_zero, List.set_cons_succ])
          refine wpAnyH_ready (rs := [3]) (by kernel_rfl) (by simp) (AllReadyH.cons (o := { dst := some 23, op := Op.call { callee := Callee.value (Operand.func 9), args := #[Operand.tmp 22], argTypes := #[24] }, type := 24, pos := "law.go:36", after := #[{ on := 2, ground := Ground.data }, { on := 1, ground := Ground.chain }], guard := none }) rfl (fun K hK => ?_) AllReadyH.nil)
          · go_simp
            refine (own6_any ly _ v1 (HY3.out.on hHeld)).mono ?_
            rintro e v3 ⟨x9, rfl, hown, hba⟩
            rw [← HFB.out] at hown
            obtain ⟨ab, cb, rfl, _, _⟩ := own_slice hown
            have OB : Hid (OwnI v3 w3.heap.size (.slice ab fb.length cb) fb) := Lib.hid (own_base hown hHeld.size)
            rw [← HNB.out] at OB ⊢
            have OA := Lib.hid (OA.out.on hba)
            have Z7 := Lib.hid (Z7.out.on hba)
            have Z8 := Lib.hid (Z8.out.on hba)
            refine hK.out _ _ (bch hHeld hba) (fun hHeld => ?_)
            clear hown hba
            (try simp only [Act.put, List.setIfInBounds_toArray, List.set_cons_zero, List.set_cons_succ])
            refine wpAnyH_ready (rs := [6]) (by kernel_rfl) (by simp) (AllReadyH.cons (o := { dst := none, op := Op.store 24 (Operand.tmp 7) (Operand.tmp 21), type := 0, pos := "law.go:36", after := #[{ on := 4, ground := Ground.data }, { on := 1, ground := Ground.data }, { on := 3, ground := Ground.chain }, { on := 0, ground := Ground.phase }, { on := 1, ground := Ground.phase }, { on := 2, ground := Ground.textOnly Departure.lateStores }, { on := 3, ground := Ground.textOnly Departure.lateStoresUnsure }, { on := 4, ground := Ground.phase }, { on := 5, ground := Ground.phase }], guard := none }) rfl (fun K hK => ?_) AllReadyH.nil)
            · have p0 := Z7.out.cell (k := 0) rfl
              have f0 := frozen_of_row v3 _ 0 _ _ Z7.out
              go_simp
              have OA := Lib.hid (OA.out.boxed Z7.out 0 (.slice aa na ca))
              have OB := Lib.hid (OB.out.boxed Z7.out 0 (.slice aa na ca))
              have Z8 := Lib.hid (Z8.out.far (p := ⟨g7, 0, none⟩) (by have := HNE.out; show g8 ≠ g7; omega) (.slice aa na ca))
              have Z7 := Lib.hid (Z7.out.set (k := 0) (.slice aa na ca))
              refine hK.out _ _ (hHeld.setCell (p := ⟨g7, 0, none⟩) g70.out (.slice aa na ca)) (fun hHeld => ?_)
              clear p0 f0
              obtain ⟨vq, hv9⟩ : ∃ q, q = v3.setCell ⟨g7, 0, none⟩ (.slice aa na ca) := ⟨_, rfl⟩
              rw [← hv9] at Z7 Z8 OA OB hHeld ⊢
              clear hv9
              (try simp only [Act.put, List.setIfInBounds_toArray, List.set_cons_zero, List.set_cons_succ])
              refine wpAnyH_ready (rs := [7]) (by kernel_rfl) (by simp) (AllReadyH.cons (o := { dst := none, op := Op.store 24 (Operand.tmp 8) (Operand.tmp 23), type := 0, pos := "law.go:36", after := #[{ on := 5, ground := Ground.data }, { on := 3, ground := Ground.data }, { on := 6, ground := Ground.chain }, { on := 0, ground := Ground.phase }, { on := 1, ground := Ground.phase }, { on := 2, ground := Ground.phase }, { on := 3, ground := Ground.phase }, { on := 4, ground := Ground.phase }, { on := 5, ground := Ground.phase }, { on := 6, ground := Ground.phase }], guard := none }) rfl (fun K hK => ?_) AllReadyH.nil)
              · have p0 := Z8.out.cell (k := 0) rfl
                have f0 := frozen_of_row vq _ 0 _ _ Z8.out
                go_simp
                have OA := Lib.hid (OA.out.boxed Z8.out 0 (.slice ab nb cb))
                have OB := Lib.hid (OB.out.boxed Z8.out 0 (.slice ab nb cb))
                have Z7 := Lib.hid (Z7.out.far (p := ⟨g8, 0, none⟩) (by have := HNE.out; show g7 ≠ g8; omega) (.slice ab nb cb))
                have Z8 := Lib.hid (Z8.out.set (k := 0) (.slice ab nb cb))
                refine hK.out _ _ (hHeld.setCell (p := ⟨g8, 0, none⟩) g80.out (.slice ab nb cb)) (fun hHeld => ?_)
                clear p0 f0
                (try simp only [Act.put, List.setIfInBounds_toArray, List.set_cons_zero, List.set_cons_succ])
                refine wpAnyH_done (by kernel_rfl) ?_ _
                first | refine hK2 _ _ (Met.intro (hJ _ _ ?_)) | refine Met.intro (hJ _ _ ?_)
                (repeat apply Exists.intro)
                refine ⟨?_, rfl⟩
                exact ⟨_, _, _, _, _, _, rfl, rfl, g70, g80, Z7, Z8, OA, OB, Lib.hid hHeld⟩
  case rest =>
    obtain ⟨g7, g8, aa, ca, ab, cb, rfl, rfl, G7, G8, Z7, Z8, OA, OB, BC⟩ := hcut
    obtain ⟨w4, hw4⟩ : ∃ q, q = wc := ⟨_, rfl⟩
    rw [← hw4] at Z7 Z8 OA OB BC ⊢
    have HB := Lib.hid (bch B3.out BC.out)
    have XX := Lib.hid (X1.out.on BC.out)
    have OA : Hid (OwnI w4 w.heap.size (.slice aa na ca) fa) := Lib.hid (own_base OA.out B3.out.size)
    have OB : Hid (OwnI w4 w.heap.size (.slice ab nb cb) fb) := Lib.hid (own_base OB.out B3.out.size)
    clear hw4 X1 X2 HX3 HY3 B3 B2 G7 G8 BC hw3
    have p0 := Z7.out.cell (k := 0) rfl
    have p1 := Z8.out.cell (k := 0) rfl
    go_wp2_with fail
    clear p0 p1
    go_loopw [27] (fun i W => (i = .int .i64 0 ∨ i = .int .i64 1 ∨ i = .int .i64 2) ∧ Hid (Below w4.heap.size w4 W)) (fun i _ => 2 - (Lib.intOf i).toNat)
    case atStart => exact ⟨.inl rfl, Lib.hid (Below.refl _ _)⟩
    case round =>
      obtain ⟨hi, HD⟩ := hrel
      obtain ⟨wq, hwq⟩ : ∃ q, q = wr := ⟨_, rfl⟩
      rw [← hwq] at HD ⊢
      clear hwq
      rcases hi with rfl | rfl | rfl
      · have HOW : Hid (OwnI wq w.heap.size (.slice aa na ca) fa) := Lib.hid (OA.out.on HD.out)
        obtain ⟨ok, hok⟩ : ∃ z, z = validT fa := ⟨_, rfl⟩
        have HOK := Lib.hid hok
        clear hok
        obtain ⟨VT, hVT⟩ : ∃ z, z = (wq.alloc (.cells #[.slice none 0 0] 24)).setRow wq.heap.size #[.slice aa na ca] := ⟨_, rfl⟩
        obtain ⟨bT, hbT⟩ : ∃ z, z = wq.heap.size := ⟨_, rfl⟩
        have hnT : Below wq.heap.size wq VT := by rw [hVT]; exact below_row (below_new _ _) (Nat.le_refl _) _
        have XT : Hid (Box VT bT 24 #[.slice aa na ca]) := Lib.hid (by rw [hVT, hbT]; exact box_new.row _)
        have HVT := Lib.hid hVT
        have HWT := Lib.hid hbT
        have HOW := Lib.hid (HOW.out.on hnT)
        have HD := Lib.hid (bch HD.out hnT)
        clear hVT hbT hnT
        have p0 := XT.out.cell (k := 0) rfl
        have hix := fun w => (index27 (.slice aa na ca) (.slice ab nb cb) w).1
        go_wp2_with (first | (refine wpList_store_row rfl 24 (.tmp 10) (.tmp 29) rfl wq.heap.size #[.slice aa na ca] rfl rfl 24 #[.slice none 0 0] box_new (info24 _) rfl (slice_one _ _ _) ?_; rw [← HVT.out, ← HWT.out]) | fail)
        clear p0 hix
        refine (tcheck_any fa _ VT HOW.out.rd (fun x h => Nat.le_trans (SA.out x h) (by decide)) (HT.out.on (bch HB.out HD.out)).tab).mono ?_
        rintro e w5 ⟨rfl, hb⟩
        rw [← HOK.out]
        have XT := Lib.hid (XT.out.on hb)
        have HOW := Lib.hid (HOW.out.on hb)
        have HD := Lib.hid (bch HD.out hb)
        clear hb
        have p0 := XT.out.cell (k := 0) rfl
        go_wp2_with fail
        clear p0
        refine (rtree_any fa _ w5 HOW.out.rd SA.out).mono ?_
        rintro e w6 ⟨rfl, hb⟩
        rw [← HOK.out]
        have HD := Lib.hid (bch HD.out hb)
        clear hb
        cases ok with
        | true =>
          unfold errT
          go_wp2_with fail
          go_roundw
          case rel => exact ⟨.inr (.inl rfl), HD⟩
          case measure => simp [Lib.intOf]
        | false =>
          unfold errT
          go_wp2_with fail
          go_roundw
          case rel => exact ⟨.inr (.inl rfl), HD⟩
          case measure => simp [Lib.intOf]
      · have HOW : Hid (OwnI wq w.heap.size (.slice ab nb cb) fb) := Lib.hid (OB.out.on HD.out)
        obtain ⟨ok, hok⟩ : ∃ z, z = validT fb := ⟨_, rfl⟩
        have HOK := Lib.hid hok
        clear hok
        obtain ⟨VT, hVT⟩ : ∃ z, z = (wq.alloc (.cells #[.slice none 0 0] 24)).setRow wq.heap.size #[.slice ab nb cb] := ⟨_, rfl⟩
        obtain ⟨bT, hbT⟩ : ∃ z, z = wq.heap.size := ⟨_, rfl⟩
        have hnT : Below wq.heap.size wq VT := by rw [hVT]; exact below_row (below_new _ _) (Nat.le_refl _) _
        have XT : Hid (Box VT bT 24 #[.slice ab nb cb]) := Lib.hid (by rw [hVT, hbT]; exact box_new.row _)
        have HVT := Lib.hid hVT
        have HWT := Lib.hid hbT
        have HOW := Lib.hid (HOW.out.on hnT)
        have HD := Lib.hid (bch HD.out hnT)
        clear hVT hbT hnT
        have p0 := XT.out.cell (k := 0) rfl
        have hix := fun w => (index27 (.slice aa na ca) (.slice ab nb cb) w).2
        go_wp2_with (first | (refine wpList_store_row rfl 24 (.tmp 10) (.tmp 29) rfl wq.heap.size #[.slice ab nb cb] rfl rfl 24 #[.slice none 0 0] box_new (info24 _) rfl (slice_one _ _ _) ?_; rw [← HVT.out, ← HWT.out]) | fail)
        clear p0 hix
        refine (tcheck_any fb _ VT HOW.out.rd (fun x h => Nat.le_trans (SB.out x h) (by decide)) (HT.out.on (bch HB.out HD.out)).tab).mono ?_
        rintro e w5 ⟨rfl, hb⟩
        rw [← HOK.out]
        have XT := Lib.hid (XT.out.on hb)
        have HOW := Lib.hid (HOW.out.on hb)
        have HD := Lib.hid (bch HD.out hb)
        clear hb
        have p0 := XT.out.cell (k := 0) rfl
        go_wp2_with fail
        clear p0
        refine (rtree_any fb _ w5 HOW.out.rd SB.out).mono ?_
        rintro e w6 ⟨rfl, hb⟩
        rw [← HOK.out]
        have HD := Lib.hid (bch HD.out hb)
        clear hb
        cases ok with
        | true =>
          unfold errT
          go_wp2_with fail
          go_roundw
          case rel => exact ⟨.inr (.inr rfl), HD⟩
          case measure => simp [Lib.intOf]
        | false =>
          unfold errT
          go_wp2_with fail
          go_roundw
          case rel => exact ⟨.inr (.inr rfl), HD⟩
          case measure => simp [Lib.intOf]
      · have XX := Lib.hid (XX.out.on HD.out)
        have Z7 := Lib.hid (Z7.out.on HD.out)
        have Z8 := Lib.hid (Z8.out.on HD.out)
        have OA := Lib.hid (OA.out.on HD.out)
        have OB := Lib.hid (OB.out.on HD.out)
        have HB := Lib.hid (bch HB.out HD.out)
        clear HD
        go_wp2_with fail
        refine (few_any ll _ wq (HL.out.on HB.out)).mono ?_
        rintro e w7 ⟨xv, rfl, hI, hb⟩
        rw [← HFL.out] at hI
        obtain ⟨a5, n5, c5, rfl⟩ := own_any hI
        have OL : Hid (OwnI w7 w.heap.size (.slice a5 n5 c5) F) := Lib.hid (own_base hI HB.out.size)
        have hcar : Below wq.heap.size wq w7 := hb
        have XX := Lib.hid (XX.out.on hcar)
        have Z7 := Lib.hid (Z7.out.on hcar)
        have Z8 := Lib.hid (Z8.out.on hcar)
        have OA := Lib.hid (OA.out.on hcar)
        have OB := Lib.hid (OB.out.on hcar)
        have HB := Lib.hid (bch HB.out hcar)
        clear hcar
        clear hI hb
        go_wp2_with fail
        refine (clone_any F _ w7 OL.out.rd (Nat.le_trans HFM.out (by decide))).mono ?_
        rintro e w8 ⟨xv, rfl, hI, hb⟩
        have hI2 : OwnI w8 w7.heap.size xv F := hI
        obtain ⟨a6, n6, c6, rfl⟩ := own_any hI2
        have OM : Hid (OwnI w8 w.heap.size (.slice a6 n6 c6) F) := Lib.hid (own_base hI2 HB.out.size)
        have hcar : Below w7.heap.size w7 w8 := hb
        have XX := Lib.hid (XX.out.on hcar)
        have Z7 := Lib.hid (Z7.out.on hcar)
        have Z8 := Lib.hid (Z8.out.on hcar)
        have OA := Lib.hid (OA.out.on hcar)
        have OB := Lib.hid (OB.out.on hcar)
        have OL := Lib.hid (OL.out.on hcar)
        have HB := Lib.hid (bch HB.out hcar)
        clear hcar
        clear hI hI2 hb
        go_wp2_with fail
        obtain ⟨tb, htb⟩ : ∃ z, z = treesB F := ⟨_, rfl⟩
        have HTB := Lib.hid htb
        obtain ⟨N, hN⟩ : ∃ z, z = ofL F := ⟨_, rfl⟩
        have HNN := Lib.hid hN
        clear htb hN
        have HKL : Hid (∀ k, (Value.slice a5 n5 c5).ownBlock = some k → k < w8.heap.size) := Lib.hid (fun k hk => (OL.out.lts k hk).2)
        have HKM : Hid (∀ k, (Value.slice a6 n6 c6).ownBlock = some k → k < w8.heap.size) := Lib.hid (fun k hk => (OM.out.lts k hk).2)
        have HKA : Hid (∀ k, (Value.slice aa na ca).ownBlock = some k → k < w8.heap.size) := Lib.hid (fun k hk => (OA.out.lts k hk).2)
        have HKB : Hid (∀ k, (Value.slice ab nb cb).ownBlock = some k → k < w8.heap.size) := Lib.hid (fun k hk => (OB.out.lts k hk).2)
        have HGW : Hid (w.heap.size ≤ w8.heap.size) := Lib.hid HB.out.size
        refine (tof_any F _ w8 OL.out.rd (fun x h => Nat.le_trans (SF.out x h) (by decide)) (HT.out.on HB.out).tab).mono ?_
        rintro e w9 ⟨xa, xn, xc, rfl, hxn, hI, hb⟩
        rw [← HTB.out]
        rw [← HNN.out] at hxn hI
        obtain ⟨er, her⟩ : ∃ z, z = (if tb = true then (0 : Int) else 160) := ⟨_, rfl⟩
        rw [← her]
        have HER := Lib.hid her
        clear her
        obtain ⟨B8, hB8⟩ : ∃ z, z = w8.heap.size := ⟨_, rfl⟩
        rw [← hB8] at HKL HKM HKA HKB HGW
        have HXN := Lib.hid hxn
        obtain ⟨VN, hVN⟩ : ∃ z, z = (w9.alloc (.cells #[.slice none 0 0] 24)).setRow w9.heap.size #[.slice xa xn xc] := ⟨_, rfl⟩
        obtain ⟨bN, hbN⟩ : ∃ z, z = w9.heap.size := ⟨_, rfl⟩
        have hnN : Below w9.heap.size w9 VN := by rw [hVN]; exact below_row (below_new _ _) (Nat.le_refl _) _
        have XN : Hid (Box VN bN 24 #[.slice xa xn xc]) := Lib.hid (by rw [hVN, hbN]; exact box_new.row _)
        have HVN := Lib.hid hVN
        have HWN := Lib.hid hbN
        have hcar : Below w8.heap.size w8 VN := bch hb hnN
        have XX := Lib.hid (XX.out.on hcar)
        have Z7 := Lib.hid (Z7.out.on hcar)
        have Z8 := Lib.hid (Z8.out.on hcar)
        have OA := Lib.hid (OA.out.on hcar)
        have OB := Lib.hid (OB.out.on hcar)
        have OL := Lib.hid (OL.out.on hcar)
        have OM := Lib.hid (OM.out.on hcar)
        have HB := Lib.hid (bch HB.out hcar)
        clear hcar
        have ON : Hid (OwnI VN B8 (.slice xa xn xc) N) := Lib.hid (by rw [hB8]; exact hI.on hnN)
        clear hI hb hnN hxn hB8
        clear hVN hbN
        go_wp2_with (first | (refine wpList_store_row rfl 24 (.tmp 13) (.tmp 53) rfl w9.heap.size #[.slice xa xn xc] rfl rfl 24 #[.slice none 0 0] box_new (info24 _) rfl (slice_one _ _ _) ?_; rw [← HVN.out, ← HWN.out]) | fail)
        refine (rof_any F _ VN OM.out.rd HFM.out SF.out).mono ?_
        rintro e w10 ⟨ya, yn, yc, rfl, hyn, hI, hb⟩
        rw [← HTB.out]
        rw [← HNN.out] at hyn hI
        obtain ⟨VM, hVM⟩ : ∃ z, z = (w10.alloc (.cells #[.slice none 0 0] 24)).setRow w10.heap.size #[.slice ya yn yc] := ⟨_, rfl⟩
        obtain ⟨bM, hbM⟩ : ∃ z, z = w10.heap.size := ⟨_, rfl⟩
        have hnM : Below w10.heap.size w10 VM := by rw [hVM]; exact below_row (below_new _ _) (Nat.le_refl _) _
        have XM : Hid (Box VM bM 24 #[.slice ya yn yc]) := Lib.hid (by rw [hVM, hbM]; exact box_new.row _)
        have HVM := Lib.hid hVM
        have HWM := Lib.hid hbM
        have hcar : Below VN.heap.size VN VM := bch hb hnM
        have XX := Lib.hid (XX.out.on hcar)
        have Z7 := Lib.hid (Z7.out.on hcar)
        have Z8 := Lib.hid (Z8.out.on hcar)
        have OA := Lib.hid (OA.out.on hcar)
        have OB := Lib.hid (OB.out.on hcar)
        have OL := Lib.hid (OL.out.on hcar)
        have OM := Lib.hid (OM.out.on hcar)
        have XN := Lib.hid (XN.out.on hcar)
        have ON := Lib.hid (ON.out.on hcar)
        have HB := Lib.hid (bch HB.out hcar)
        clear hcar
        have OQ : Hid (RdI VM (.slice ya yn yc) N) := Lib.hid ((hI.on hnM).rd)
        clear hI hb hnM hyn
        cases tb with
        | true =>
          obtain rfl : er = 0 := HER.out
          have p0 := XN.out.cell (k := 0) rfl
          have p1 := XM.out.cell (k := 0) rfl
          clear hVM hbM
          go_wp2_with (first | (refine wpList_store_row rfl 24 (.tmp 15) (.tmp 58) rfl w10.heap.size #[.slice ya yn yc] rfl rfl 24 #[.slice none 0 0] box_new (info24 _) rfl (slice_one _ _ _) ?_; rw [← HVM.out, ← HWM.out]) | fail)
          clear p0 p1
          refine (rsame6_any N N _ _ VM ON.out.rd OQ.out).mono ?_
          rintro e w11 ⟨he, hb⟩
          rw [eq_self] at he
          subst he
          have hcar : Below VM.heap.size VM w11 := hb
          have XX := Lib.hid (XX.out.on hcar)
          have Z7 := Lib.hid (Z7.out.on hcar)
          have Z8 := Lib.hid (Z8.out.on hcar)
          have OA := Lib.hid (OA.out.on hcar)
          have OB := Lib.hid (OB.out.on hcar)
          have OL := Lib.hid (OL.out.on hcar)
          have OM := Lib.hid (OM.out.on hcar)
          have XN := Lib.hid (XN.out.on hcar)
          have ON := Lib.hid (ON.out.on hcar)
          have XM := Lib.hid (XM.out.on hcar)
          have OQ := Lib.hid (OQ.out.on hcar)
          have HB := Lib.hid (bch HB.out hcar)
          clear hcar
          clear hb
          go_wp2_with fail
          refine (equal_any F F _ _ w11 OL.out.rd OM.out.rd).mono ?_
          rintro e w12 ⟨he, hb⟩
          rw [eq_self] at he
          subst he
          have hcar : Below w11.heap.size w11 w12 := hb
          have XX := Lib.hid (XX.out.on hcar)
          have Z7 := Lib.hid (Z7.out.on hcar)
          have Z8 := Lib.hid (Z8.out.on hcar)
          have OA := Lib.hid (OA.out.on hcar)
          have OB := Lib.hid (OB.out.on hcar)
          have OL := Lib.hid (OL.out.on hcar)
          have OM := Lib.hid (OM.out.on hcar)
          have XN := Lib.hid (XN.out.on hcar)
          have ON := Lib.hid (ON.out.on hcar)
          have XM := Lib.hid (XM.out.on hcar)
          have OQ := Lib.hid (OQ.out.on hcar)
          have HB := Lib.hid (bch HB.out hcar)
          clear hcar
          clear hb
          obtain ⟨gN, hgB, hgX, hgF⟩ := own_pick2 ON.out
          have HGB := Lib.hid hgB
          have HGX := Lib.hid hgX
          have HGF : Hid (0 < xn → ∃ c, Value.slice xa xn xc = .slice (some ⟨gN, 0, none⟩) xn c) := Lib.hid (fun h => by have h5 := hgF (by rw [← HXN.out]; exact h); rw [← HXN.out] at h5; exact h5)
          have HKS : Hid (PsI (flatI N) xn) := Lib.hid (by rw [HXN.out]; exact psI_flat N)
          have HOX : Hid (w12.ownsRow B8 33 3 (.slice xa xn xc) xn (flatI N)) := Lib.hid (by have := ON.out; unfold OwnI at this; rw [← HXN.out] at this; exact this)
          have hxm : xn ≤ 9223372036854775807 := by obtain ⟨a8, c8, e8, h8, h9⟩ := own_slice ON.out; unfold maxLen at h9; rw [← HXN.out] at h8; omega
          clear hgB hgX hgF XM OQ
          have p0 := XN.out.cell (k := 0) rfl
          go_wp2_with fail
          clear p0
          go_loopw [87] (fun i W => ∃ (j : Nat) (xs : List Value), j ≤ xn ∧ i = .int .i64 j ∧ Hid (PsI xs xn) ∧ Hid (W.ownsRow B8 33 3 (.slice xa xn xc) xn xs) ∧ Hid (Asd gN w12 W)) (fun i _ => xn - (Lib.intOf i).toNat)
          case atStart => exact ⟨0, flatI N, Nat.zero_le _, rfl, HKS, HOX, Lib.hid (Asd.refl _ _)⟩
          case round =>
            obtain ⟨j, xs, hj, rfl, HKJ, HOJ, HAJ⟩ := hrel
            obtain ⟨wj, hwj⟩ : ∃ q, q = wr := ⟨_, rfl⟩
            rw [← hwj] at HOJ HAJ ⊢
            clear hwj HOX HKS
            by_cases hjn : j < xn
            · obtain ⟨c9, hc9⟩ := HGF.out (by omega)
              cases hc9
              obtain ⟨z, hz⟩ := HKJ.out j hjn
              have j1 : (j : Int) < (xn : Int) := by omega
              have j2 : (0 : Int) ≤ (j : Int) := by omega
              have j4 : IntKind.i64.wrap ((j : Int) + 1) = (j : Int) + 1 := IntWalk.i64_in _ (by omega)
              have p0 := (HAJ.out.box XN.out (HGX.out _ _ XN.out)).cell (k := 0) rfl
              have p1 : wj.cell? ⟨gN, j * 3, none⟩ = some (.string z) := (HOJ.out.cellAt (j * 3) (by omega)).trans hz
              have f1 : wj.frozen? ⟨gN, j * 3, none⟩ = false := HOJ.out.frozenAt _
              clear hz
              go_wp2_with fail
              go_roundw
              case rel => exact ⟨j + 1, _, hjn, by go_num, Lib.hid (HKJ.out.set j _), Lib.hid (HOJ.out.stored (j * 3) _).1, Lib.hid (HAJ.out.set _ _)⟩
              case measure => simp [Lib.intOf]; omega
            · have j1 : ¬ ((j : Int) < (xn : Int)) := by omega
              have HBJ : Hid (Below w.heap.size w wj) := Lib.hid (HAJ.out.below HB.out (Nat.le_trans HGW.out HGB.out))
              have XX := Lib.hid (HAJ.out.box XX.out (HGX.out _ _ XX.out))
              have Z7 := Lib.hid (HAJ.out.box Z7.out (HGX.out _ _ Z7.out))
              have Z8 := Lib.hid (HAJ.out.box Z8.out (HGX.out _ _ Z8.out))
              have OA := Lib.hid (HAJ.out.own OA.out (fun k hk => by have := HKA.out k hk; have := HGB.out; omega))
              have OB := Lib.hid (HAJ.out.own OB.out (fun k hk => by have := HKB.out k hk; have := HGB.out; omega))
              have OL := Lib.hid (HAJ.out.own OL.out (fun k hk => by have := HKL.out k hk; have := HGB.out; omega))
              have OM := Lib.hid (HAJ.out.own OM.out (fun k hk => by have := HKM.out k hk; have := HGB.out; omega))
              have HB := HBJ
              clear HOJ HKJ HAJ HBJ HGX HGF HGB ON XN HKL HKM HKA HKB HGW
              obtain ⟨dd, hdd⟩ : ∃ z, z = decide (fa = fb) := ⟨_, rfl⟩
              have HDD := Lib.hid hdd
              clear hdd
              have td : (dd == dd) = true := by simp
              obtain ⟨v0, hv0⟩ : ∃ z, z = World.drew wj := ⟨_, rfl⟩
              go_upto_region 22 with fail
              refine wp_region_held_drew (S := fun w' => Below wj.heap.size wj w') (by kernel_rfl) (Below.refl _ _).drew (fun hHeld => ?_)
              rw [← hv0] at hHeld ⊢
              clear hv0
              refine wpAnyH_take (i := 0) (oi := { dst := some 96, op := Op.move (Operand.tmp 2), type := 22, pos := "law.go:52", after := #[], guard := none }) (v := ?_) rfl (by kernel_rfl) (by kernel_rfl) (by kernel_rfl) (fun _ _ _ h => h) (Or.inl ⟨by rfl, ?_⟩) hHeld ?_
              rotate_left
              · (intro w hSw; go_simp; try with_reducible rfl)
              (try simp only [Act.put, List.setIfInBounds_toArray, List.set_cons_zero, List.set_cons_succ])
              refine wpAnyH_take (i := 1) (oi := { dst := some 97, op := Op.move (Operand.tmp 12), type := 22, pos := "law.go:52", after := #[], guard := none }) (v := ?_) rfl (by kernel_rfl) (by kernel_rfl) (by kernel_rfl) (fun _ _ _ h => h) (Or.inl ⟨by rfl, ?_⟩) hHeld ?_
              rotate_left
              · (intro w hSw; go_simp; try with_reducible rfl)
              (try simp only [Act.put, List.setIfInBounds_toArray, List.set_cons_zero, List.set_cons_succ])
              refine wpAnyH_ready (rs := [2]) (by kernel_rfl) (by simp) (AllReadyH.cons (o := { dst := some 98, op := Op.call { callee := Callee.value (Operand.func 17), args := #[Operand.tmp 96, Operand.tmp 97], argTypes := #[22, 22] }, type := 4, pos := "law.go:52", after := #[{ on := 0, ground := Ground.data }, { on := 1, ground := Ground.data }], guard := none }) rfl (fun K hK => ?_) AllReadyH.nil)
              · go_simp
                refine (equal_any F F _ _ v0 ((OL.out.on hHeld).rd) ((OM.out.on hHeld).rd)).mono ?_
                rintro e v101 ⟨he, hba⟩
                rw [eq_self] at he
                subst he
                refine hK.out _ _ (bch hHeld hba) (fun hHeld => ?_)
                clear hba
                (try simp only [Act.put, List.setIfInBounds_toArray, List.set_cons_zero, List.set_cons_succ])
                refine wpAnyH_take (i := 3) (oi := { dst := some 99, op := Op.move (Operand.tmp 98), type := 4, pos := "law.go:52", after := #[{ on := 2, ground := Ground.data }, { on := 2, ground := Ground.chain }], guard := none }) (v := ?_) rfl (by kernel_rfl) (by kernel_rfl) (by kernel_rfl) (fun _ _ _ h => h) (Or.inl ⟨by rfl, ?_⟩) hHeld ?_
                rotate_left
                · (intro w hSw; go_simp; try with_reducible rfl)
                (try simp only [Act.put, List.setIfInBounds_toArray, List.set_cons_zero, List.set_cons_succ])
                refine wpAnyH_take (i := 4) (oi := { dst := some 100, op := Op.load 24 (Operand.tmp 7), type := 24, pos := "law.go:52", after := #[{ on := 3, ground := Ground.guard }], guard := some (3, true) }) (v := ?_) rfl (by kernel_rfl) (by kernel_rfl) (by kernel_rfl) (fun _ _ _ h => h) (Or.inl ⟨by rfl, ?_⟩) hHeld ?_
                rotate_left
                · (intro w hSw; have p0 := (Z7.out.on hSw).cell (k := 0) rfl; go_simp; try with_reducible rfl)
                (try simp only [Act.put, List.setIfInBounds_toArray, List.set_cons_zero, List.set_cons_succ])
                refine wpAnyH_take (i := 5) (oi := { dst := some 101, op := Op.load 24 (Operand.tmp 8), type := 24, pos := "law.go:52", after := #[{ on := 3, ground := Ground.guard }], guard := some (3, true) }) (v := ?_) rfl (by kernel_rfl) (by kernel_rfl) (by kernel_rfl) (fun _ _ _ h => h) (Or.inl ⟨by rfl, ?_⟩) hHeld ?_
                rotate_left
                · (intro w hSw; have p0 := (Z8.out.on hSw).cell (k := 0) rfl; go_simp; try with_reducible rfl)
                (try simp only [Act.put, List.setIfInBounds_toArray, List.set_cons_zero, List.set_cons_succ])
                refine wpAnyH_take (i := 7) (oi := { dst := some 103, op := Op.load 24 (Operand.tmp 7), type := 24, pos := "law.go:52", after := #[{ on := 3, ground := Ground.guard }], guard := some (3, true) }) (v := ?_) rfl (by kernel_rfl) (by kernel_rfl) (by kernel_rfl) (fun _ _ _ h => h) (Or.inl ⟨by rfl, ?_⟩) hHeld ?_
                rotate_left
                · (intro w hSw; have p0 := (Z7.out.on hSw).cell (k := 0) rfl; go_simp; try with_reducible rfl)
                (try simp only [Act.put, List.setIfInBounds_toArray, List.set_cons_zero, List.set_cons_succ])
                refine wpAnyH_take (i := 8) (oi := { dst := some 104, op := Op.load 24 (Operand.tmp 8), type := 24, pos := "law.go:52", after := #[{ on := 3, ground := Ground.guard }], guard := some (3, true) }) (v := ?_) rfl (by kernel_rfl) (by kernel_rfl) (by kernel_rfl) (fun _ _ _ h => h) (Or.inl ⟨by rfl, ?_⟩) hHeld ?_
                rotate_left
                · (intro w hSw; have p0 := (Z8.out.on hSw).cell (k := 0) rfl; go_simp; try with_reducible rfl)
                (try simp only [Act.put, List.setIfInBounds_toArray, List.set_cons_zero, List.set_cons_succ])
                refine wpAnyH_ready (rs := [6]) (by kernel_rfl) (by simp) (AllReadyH.cons (o := { dst := some 102, op := Op.call { callee := Callee.value (Operand.func 18), args := #[Operand.tmp 100, Operand.tmp 101], argTypes := #[24, 24] }, type := 4, pos := "law.go:52", after := #[{ on := 4, ground := Ground.data }, { on := 5, ground := Ground.data }, { on := 3, ground := Ground.chain }, { on := 3, ground := Ground.guard }], guard := some (3, true) }) rfl (fun K hK => ?_) AllReadyH.nil)
                · go_simp
                  refine (same_any fa fb _ _ v101 ((OA.out.on hHeld).rd) ((OB.out.on hHeld).rd)).mono ?_
                  rintro e v102 ⟨he, hba⟩
                  rw [← HDD.out] at he
                  subst he
                  refine hK.out _ _ (bch hHeld hba) (fun hHeld => ?_)
                  clear hba
                  (try simp only [Act.put, List.setIfInBounds_toArray, List.set_cons_zero, List.set_cons_succ])
                  refine wpAnyH_ready (rs := [9]) (by kernel_rfl) (by simp) (AllReadyH.cons (o := { dst := some 105, op := Op.call { callee := Callee.value (Operand.func 16), args := #[Operand.tmp 103, Operand.tmp 104], argTypes := #[24, 24] }, type := 4, pos := "law.go:52", after := #[{ on := 7, ground := Ground.data }, { on := 8, ground := Ground.data }, { on := 6, ground := Ground.chain }, { on := 3, ground := Ground.guard }], guard := some (3, true) }) rfl (fun K hK => ?_) AllReadyH.nil)
                  · go_simp
                    refine (rsame6_any fa fb _ _ v102 ((OA.out.on hHeld).rd) ((OB.out.on hHeld).rd)).mono ?_
                    rintro e v103 ⟨he, hba⟩
                    rw [← HDD.out] at he
                    subst he
                    refine hK.out _ _ (bch hHeld hba) (fun hHeld => ?_)
                    clear hba
                    (try simp only [Act.put, List.setIfInBounds_toArray, List.set_cons_zero, List.set_cons_succ])
                    refine wpAnyH_take (i := 10) (oi := { dst := some 106, op := Op.binOp BinOp.eql 4 (Operand.tmp 102) (Operand.tmp 105) 4, type := 4, pos := "law.go:52", after := #[{ on := 6, ground := Ground.data }, { on := 9, ground := Ground.data }, { on := 3, ground := Ground.guard }], guard := some (3, true) }) (v := ?_) rfl (by kernel_rfl) (by kernel_rfl) (by kernel_rfl) (fun _ _ _ h => h) (Or.inl ⟨by rfl, ?_⟩) hHeld ?_
                    rotate_left
                    · (intro w hSw; go_simp; try with_reducible rfl)
                    (try simp only [Act.put, List.setIfInBounds_toArray, List.set_cons_zero, List.set_cons_succ])
                    refine wpAnyH_take (i := 11) (oi := { dst := some 107, op := Op.pick (Operand.tmp 99) (Operand.tmp 106) (Operand.const (Value.bool false)), type := 4, pos := "law.go:52", after := #[{ on := 3, ground := Ground.data }, { on := 10, ground := Ground.data }], guard := none }) (v := ?_) rfl (by kernel_rfl) (by kernel_rfl) (by kernel_rfl) (fun _ _ _ h => h) (Or.inl ⟨by rfl, ?_⟩) hHeld ?_
                    rotate_left
                    · (intro w hSw; go_simp; try with_reducible rfl)
                    (try simp only [Act.put, List.setIfInBounds_toArray, List.set_cons_zero, List.set_cons_succ])
                    refine wpAnyH_take (i := 12) (oi := { dst := some 108, op := Op.move (Operand.tmp 107), type := 4, pos := "law.go:52", after := #[{ on := 11, ground := Ground.data }, { on := 9, ground := Ground.chain }], guard := none }) (v := ?_) rfl (by kernel_rfl) (by kernel_rfl) (by kernel_rfl) (fun _ _ _ h => h) (Or.inl ⟨by rfl, ?_⟩) hHeld ?_
                    rotate_left
                    · (intro w hSw; go_simp; try with_reducible rfl)
                    (try simp only [Act.put, List.setIfInBounds_toArray, List.set_cons_zero, List.set_cons_succ])
                    refine wpAnyH_take (i := 13) (oi := { dst := some 109, op := Op.load 24 (Operand.tmp 7), type := 24, pos := "law.go:52", after := #[{ on := 12, ground := Ground.guard }], guard := some (12, true) }) (v := ?_) rfl (by kernel_rfl) (by kernel_rfl) (by kernel_rfl) (fun _ _ _ h => h) (Or.inl ⟨by rfl, ?_⟩) hHeld ?_
                    rotate_left
                    · (intro w hSw; have p0 := (Z7.out.on hSw).cell (k := 0) rfl; go_simp; try with_reducible rfl)
                    (try simp only [Act.put, List.setIfInBounds_toArray, List.set_cons_zero, List.set_cons_succ])
                    refine wpAnyH_take (i := 14) (oi := { dst := some 110, op := Op.load 24 (Operand.tmp 3), type := 24, pos := "law.go:52", after := #[{ on := 12, ground := Ground.guard }], guard := some (12, true) }) (v := ?_) rfl (by kernel_rfl) (by kernel_rfl) (by kernel_rfl) (fun _ _ _ h => h) (Or.inl ⟨by rfl, ?_⟩) hHeld ?_
                    rotate_left
                    · (intro w hSw; have p0 := (XX.out.on hSw).cell (k := 0) rfl; go_simp; try with_reducible rfl)
                    (try simp only [Act.put, List.setIfInBounds_toArray, List.set_cons_zero, List.set_cons_succ])
                    refine wpAnyH_ready (rs := [15]) (by kernel_rfl) (by simp) (AllReadyH.cons (o := { dst := some 111, op := Op.call { callee := Callee.value (Operand.func 9), args := #[Operand.tmp 110], argTypes := #[24] }, type := 24, pos := "law.go:52", after := #[{ on := 14, ground := Ground.data }, { on := 12, ground := Ground.chain }, { on := 12, ground := Ground.guard }], guard := some (12, true) }) rfl (fun K hK => ?_) AllReadyH.nil)
                    · go_simp
                      refine (own6_any lx _ v103 ((HX.out.on HB.out).on hHeld)).mono ?_
                      rintro e v104 ⟨xv, rfl, hI, hba⟩
                      rw [← HFA.out] at hI
                      obtain ⟨a9, n9, c9, rfl⟩ := own_any hI
                      have R9 : Hid (RdI v104 (.slice a9 n9 c9) fa) := Lib.hid hI.rd
                      refine hK.out _ _ (bch hHeld hba) (fun hHeld => ?_)
                      clear hI hba
                      (try simp only [Act.put, List.setIfInBounds_toArray, List.set_cons_zero, List.set_cons_succ])
                      refine wpAnyH_ready (rs := [16]) (by kernel_rfl) (by simp) (AllReadyH.cons (o := { dst := some 112, op := Op.call { callee := Callee.value (Operand.func 18), args := #[Operand.tmp 109, Operand.tmp 111], argTypes := #[24, 24] }, type := 4, pos := "law.go:52", after := #[{ on := 13, ground := Ground.data }, { on := 15, ground := Ground.data }, { on := 15, ground := Ground.chain }, { on := 12, ground := Ground.guard }], guard := some (12, true) }) rfl (fun K hK => ?_) AllReadyH.nil)
                      · go_simp
                        refine (same_any fa fa _ _ v104 ((OA.out.on hHeld).rd) (R9.out)).mono ?_
                        rintro e v105 ⟨he, hba⟩
                        rw [eq_self] at he
                        subst he
                        refine hK.out _ _ (bch hHeld hba) (fun hHeld => ?_)
                        clear hba
                        (try simp only [Act.put, List.setIfInBounds_toArray, List.set_cons_zero, List.set_cons_succ])
                        refine wpAnyH_take (i := 17) (oi := { dst := some 113, op := Op.pick (Operand.tmp 108) (Operand.tmp 112) (Operand.const (Value.bool false)), type := 4, pos := "law.go:52", after := #[{ on := 12, ground := Ground.data }, { on := 16, ground := Ground.data }], guard := none }) (v := ?_) rfl (by kernel_rfl) (by kernel_rfl) (by kernel_rfl) (fun _ _ _ h => h) (Or.inl ⟨by rfl, ?_⟩) hHeld ?_
                        rotate_left
                        · (intro w hSw; go_simp; try with_reducible rfl)
                        (try simp only [Act.put, List.setIfInBounds_toArray, List.set_cons_zero, List.set_cons_succ])
                        refine wpAnyH_take (i := 18) (oi := { dst := some 6, op := Op.assign (Operand.tmp 113), type := 4, pos := "law.go:52", after := #[{ on := 17, ground := Ground.data }, { on := 16, ground := Ground.chain }, { on := 0, ground := Ground.phase }, { on := 1, ground := Ground.phase }, { on := 2, ground := Ground.phase }, { on := 3, ground := Ground.phase }, { on := 4, ground := Ground.phase }, { on := 5, ground := Ground.phase }, { on := 6, ground := Ground.phase }, { on := 7, ground := Ground.phase }, { on := 8, ground := Ground.phase }, { on := 9, ground := Ground.phase }, { on := 10, ground := Ground.phase }, { on := 11, ground := Ground.phase }, { on := 12, ground := Ground.phase }, { on := 13, ground := Ground.phase }, { on := 14, ground := Ground.phase }, { on := 15, ground := Ground.phase }, { on := 16, ground := Ground.phase }, { on := 17, ground := Ground.phase }], guard := none }) (v := ?_) rfl (by kernel_rfl) (by kernel_rfl) (by kernel_rfl) (fun _ _ _ h => h) (Or.inl ⟨by rfl, ?_⟩) hHeld ?_
                        rotate_left
                        · (intro w hSw; go_simp; try with_reducible rfl)
                        (try simp only [Act.put, List.setIfInBounds_toArray, List.set_cons_zero, List.set_cons_succ])
                        refine wpAnyH_done (by kernel_rfl) ?_ _
                        have HD := Lib.hid hHeld
                        clear hHeld
                        go_wp2_with fail
                        go_ret
                        exact ⟨rfl, bch HB.out HD.out⟩
        | false =>
          obtain rfl : er = 160 := HER.out
          have p0 := XN.out.cell (k := 0) rfl
          have p1 := XM.out.cell (k := 0) rfl
          clear hVM hbM
          go_wp2_with (first | (refine wpList_store_row rfl 24 (.tmp 15) (.tmp 58) rfl w10.heap.size #[.slice ya yn yc] rfl rfl 24 #[.slice none 0 0] box_new (info24 _) rfl (slice_one _ _ _) ?_; rw [← HVM.out, ← HWM.out]) | fail)
          clear p0 p1
          refine (rsame6_any N N _ _ VM ON.out.rd OQ.out).mono ?_
          rintro e w11 ⟨he, hb⟩
          rw [eq_self] at he
          subst he
          have hcar : Below VM.heap.size VM w11 := hb
          have XX := Lib.hid (XX.out.on hcar)
          have Z7 := Lib.hid (Z7.out.on hcar)
          have Z8 := Lib.hid (Z8.out.on hcar)
          have OA := Lib.hid (OA.out.on hcar)
          have OB := Lib.hid (OB.out.on hcar)
          have OL := Lib.hid (OL.out.on hcar)
          have OM := Lib.hid (OM.out.on hcar)
          have XN := Lib.hid (XN.out.on hcar)
          have ON := Lib.hid (ON.out.on hcar)
          have XM := Lib.hid (XM.out.on hcar)
          have OQ := Lib.hid (OQ.out.on hcar)
          have HB := Lib.hid (bch HB.out hcar)
          clear hcar
          clear hb
          go_wp2_with fail
          refine (equal_any F F _ _ w11 OL.out.rd OM.out.rd).mono ?_
          rintro e w12 ⟨he, hb⟩
          rw [eq_self] at he
          subst he
          have hcar : Below w11.heap.size w11 w12 := hb
          have XX := Lib.hid (XX.out.on hcar)
          have Z7 := Lib.hid (Z7.out.on hcar)
          have Z8 := Lib.hid (Z8.out.on hcar)
          have OA := Lib.hid (OA.out.on hcar)
          have OB := Lib.hid (OB.out.on hcar)
          have OL := Lib.hid (OL.out.on hcar)
          have OM := Lib.hid (OM.out.on hcar)
          have XN := Lib.hid (XN.out.on hcar)
          have ON := Lib.hid (ON.out.on hcar)
          have XM := Lib.hid (XM.out.on hcar)
          have OQ := Lib.hid (OQ.out.on hcar)
          have HB := Lib.hid (bch HB.out hcar)
          clear hcar
          clear hb
          obtain ⟨gN, hgB, hgX, hgF⟩ := own_pick2 ON.out
          have HGB := Lib.hid hgB
          have HGX := Lib.hid hgX
          have HGF : Hid (0 < xn → ∃ c, Value.slice xa xn xc = .slice (some ⟨gN, 0, none⟩) xn c) := Lib.hid (fun h => by have h5 := hgF (by rw [← HXN.out]; exact h); rw [← HXN.out] at h5; exact h5)
          have HKS : Hid (PsI (flatI N) xn) := Lib.hid (by rw [HXN.out]; exact psI_flat N)
          have HOX : Hid (w12.ownsRow B8 33 3 (.slice xa xn xc) xn (flatI N)) := Lib.hid (by have := ON.out; unfold OwnI at this; rw [← HXN.out] at this; exact this)
          have hxm : xn ≤ 9223372036854775807 := by obtain ⟨a8, c8, e8, h8, h9⟩ := own_slice ON.out; unfold maxLen at h9; rw [← HXN.out] at h8; omega
          clear hgB hgX hgF XM OQ
          have p0 := XN.out.cell (k := 0) rfl
          go_wp2_with fail
          clear p0
          go_loopw [87] (fun i W => ∃ (j : Nat) (xs : List Value), j ≤ xn ∧ i = .int .i64 j ∧ Hid (PsI xs xn) ∧ Hid (W.ownsRow B8 33 3 (.slice xa xn xc) xn xs) ∧ Hid (Asd gN w12 W)) (fun i _ => xn - (Lib.intOf i).toNat)
          case atStart => exact ⟨0, flatI N, Nat.zero_le _, rfl, HKS, HOX, Lib.hid (Asd.refl _ _)⟩
          case round =>
            obtain ⟨j, xs, hj, rfl, HKJ, HOJ, HAJ⟩ := hrel
            obtain ⟨wj, hwj⟩ : ∃ q, q = wr := ⟨_, rfl⟩
            rw [← hwj] at HOJ HAJ ⊢
            clear hwj HOX HKS
            by_cases hjn : j < xn
            · obtain ⟨c9, hc9⟩ := HGF.out (by omega)
              cases hc9
              obtain ⟨z, hz⟩ := HKJ.out j hjn
              have j1 : (j : Int) < (xn : Int) := by omega
              have j2 : (0 : Int) ≤ (j : Int) := by omega
              have j4 : IntKind.i64.wrap ((j : Int) + 1) = (j : Int) + 1 := IntWalk.i64_in _ (by omega)
              have p0 := (HAJ.out.box XN.out (HGX.out _ _ XN.out)).cell (k := 0) rfl
              have p1 : wj.cell? ⟨gN, j * 3, none⟩ = some (.string z) := (HOJ.out.cellAt (j * 3) (by omega)).trans hz
              have f1 : wj.frozen? ⟨gN, j * 3, none⟩ = false := HOJ.out.frozenAt _
              clear hz
              go_wp2_with fail
              go_roundw
              case rel => exact ⟨j + 1, _, hjn, by go_num, Lib.hid (HKJ.out.set j _), Lib.hid (HOJ.out.stored (j * 3) _).1, Lib.hid (HAJ.out.set _ _)⟩
              case measure => simp [Lib.intOf]; omega
            · have j1 : ¬ ((j : Int) < (xn : Int)) := by omega
              have HBJ : Hid (Below w.heap.size w wj) := Lib.hid (HAJ.out.below HB.out (Nat.le_trans HGW.out HGB.out))
              have XX := Lib.hid (HAJ.out.box XX.out (HGX.out _ _ XX.out))
              have Z7 := Lib.hid (HAJ.out.box Z7.out (HGX.out _ _ Z7.out))
              have Z8 := Lib.hid (HAJ.out.box Z8.out (HGX.out _ _ Z8.out))
              have OA := Lib.hid (HAJ.out.own OA.out (fun k hk => by have := HKA.out k hk; have := HGB.out; omega))
              have OB := Lib.hid (HAJ.out.own OB.out (fun k hk => by have := HKB.out k hk; have := HGB.out; omega))
              have OL := Lib.hid (HAJ.out.own OL.out (fun k hk => by have := HKL.out k hk; have := HGB.out; omega))
              have OM := Lib.hid (HAJ.out.own OM.out (fun k hk => by have := HKM.out k hk; have := HGB.out; omega))
              have HB := HBJ
              clear HOJ HKJ HAJ HBJ HGX HGF HGB ON XN HKL HKM HKA HKB HGW
              obtain ⟨dd, hdd⟩ : ∃ z, z = decide (fa = fb) := ⟨_, rfl⟩
              have HDD := Lib.hid hdd
              clear hdd
              have td : (dd == dd) = true := by simp
              obtain ⟨v0, hv0⟩ : ∃ z, z = World.drew wj := ⟨_, rfl⟩
              go_upto_region 22 with fail
              refine wp_region_held_drew (S := fun w' => Below wj.heap.size wj w') (by kernel_rfl) (Below.refl _ _).drew (fun hHeld => ?_)
              rw [← hv0] at hHeld ⊢
              clear hv0
              refine wpAnyH_take (i := 0) (oi := { dst := some 96, op := Op.move (Operand.tmp 2), type := 22, pos := "law.go:52", after := #[], guard := none }) (v := ?_) rfl (by kernel_rfl) (by kernel_rfl) (by kernel_rfl) (fun _ _ _ h => h) (Or.inl ⟨by rfl, ?_⟩) hHeld ?_
              rotate_left
              · (intro w hSw; go_simp; try with_reducible rfl)
              (try simp only [Act.put, List.setIfInBounds_toArray, List.set_cons_zero, List.set_cons_succ])
              refine wpAnyH_take (i := 1) (oi := { dst := some 97, op := Op.move (Operand.tmp 12), type := 22, pos := "law.go:52", after := #[], guard := none }) (v := ?_) rfl (by kernel_rfl) (by kernel_rfl) (by kernel_rfl) (fun _ _ _ h => h) (Or.inl ⟨by rfl, ?_⟩) hHeld ?_
              rotate_left
              · (intro w hSw; go_simp; try with_reducible rfl)
              (try simp only [Act.put, List.setIfInBounds_toArray, List.set_cons_zero, List.set_cons_succ])
              refine wpAnyH_ready (rs := [2]) (by kernel_rfl) (by simp) (AllReadyH.cons (o := { dst := some 98, op := Op.call { callee := Callee.value (Operand.func 17), args := #[Operand.tmp 96, Operand.tmp 97], argTypes := #[22, 22] }, type := 4, pos := "law.go:52", after := #[{ on := 0, ground := Ground.data }, { on := 1, ground := Ground.data }], guard := none }) rfl (fun K hK => ?_) AllReadyH.nil)
              · go_simp
                refine (equal_any F F _ _ v0 ((OL.out.on hHeld).rd) ((OM.out.on hHeld).rd)).mono ?_
                rintro e v101 ⟨he, hba⟩
                rw [eq_self] at he
                subst he
                refine hK.out _ _ (bch hHeld hba) (fun hHeld => ?_)
                clear hba
                (try simp only [Act.put, List.setIfInBounds_toArray, List.set_cons_zero, List.set_cons_succ])
                refine wpAnyH_take (i := 3) (oi := { dst := some 99, op := Op.move (Operand.tmp 98), type := 4, pos := "law.go:52", after := #[{ on := 2, ground := Ground.data }, { on := 2, ground := Ground.chain }], guard := none }) (v := ?_) rfl (by kernel_rfl) (by kernel_rfl) (by kernel_rfl) (fun _ _ _ h => h) (Or.inl ⟨by rfl, ?_⟩) hHeld ?_
                rotate_left
                · (intro w hSw; go_simp; try with_reducible rfl)
                (try simp only [Act.put, List.setIfInBounds_toArray, List.set_cons_zero, List.set_cons_succ])
                refine wpAnyH_take (i := 4) (oi := { dst := some 100, op := Op.load 24 (Operand.tmp 7), type := 24, pos := "law.go:52", after := #[{ on := 3, ground := Ground.guard }], guard := some (3, true) }) (v := ?_) rfl (by kernel_rfl) (by kernel_rfl) (by kernel_rfl) (fun _ _ _ h => h) (Or.inl ⟨by rfl, ?_⟩) hHeld ?_
                rotate_left
                · (intro w hSw; have p0 := (Z7.out.on hSw).cell (k := 0) rfl; go_simp; try with_reducible rfl)
                (try simp only [Act.put, List.setIfInBounds_toArray, List.set_cons_zero, List.set_cons_succ])
                refine wpAnyH_take (i := 5) (oi := { dst := some 101, op := Op.load 24 (Operand.tmp 8), type := 24, pos := "law.go:52", after := #[{ on := 3, ground := Ground.guard }], guard := some (3, true) }) (v := ?_) rfl (by kernel_rfl) (by kernel_rfl) (by kernel_rfl) (fun _ _ _ h => h) (Or.inl ⟨by rfl, ?_⟩) hHeld ?_
                rotate_left
                · (intro w hSw; have p0 := (Z8.out.on hSw).cell (k := 0) rfl; go_simp; try with_reducible rfl)
                (try simp only [Act.put, List.setIfInBounds_toArray, List.set_cons_zero, List.set_cons_succ])
                refine wpAnyH_take (i := 7) (oi := { dst := some 103, op := Op.load 24 (Operand.tmp 7), type := 24, pos := "law.go:52", after := #[{ on := 3, ground := Ground.guard }], guard := some (3, true) }) (v := ?_) rfl (by kernel_rfl) (by kernel_rfl) (by kernel_rfl) (fun _ _ _ h => h) (Or.inl ⟨by rfl, ?_⟩) hHeld ?_
                rotate_left
                · (intro w hSw; have p0 := (Z7.out.on hSw).cell (k := 0) rfl; go_simp; try with_reducible rfl)
                (try simp only [Act.put, List.setIfInBounds_toArray, List.set_cons_zero, List.set_cons_succ])
                refine wpAnyH_take (i := 8) (oi := { dst := some 104, op := Op.load 24 (Operand.tmp 8), type := 24, pos := "law.go:52", after := #[{ on := 3, ground := Ground.guard }], guard := some (3, true) }) (v := ?_) rfl (by kernel_rfl) (by kernel_rfl) (by kernel_rfl) (fun _ _ _ h => h) (Or.inl ⟨by rfl, ?_⟩) hHeld ?_
                rotate_left
                · (intro w hSw; have p0 := (Z8.out.on hSw).cell (k := 0) rfl; go_simp; try with_reducible rfl)
                (try simp only [Act.put, List.setIfInBounds_toArray, List.set_cons_zero, List.set_cons_succ])
                refine wpAnyH_ready (rs := [6]) (by kernel_rfl) (by simp) (AllReadyH.cons (o := { dst := some 102, op := Op.call { callee := Callee.value (Operand.func 18), args := #[Operand.tmp 100, Operand.tmp 101], argTypes := #[24, 24] }, type := 4, pos := "law.go:52", after := #[{ on := 4, ground := Ground.data }, { on := 5, ground := Ground.data }, { on := 3, ground := Ground.chain }, { on := 3, ground := Ground.guard }], guard := some (3, true) }) rfl (fun K hK => ?_) AllReadyH.nil)
                · go_simp
                  refine (same_any fa fb _ _ v101 ((OA.out.on hHeld).rd) ((OB.out.on hHeld).rd)).mono ?_
                  rintro e v102 ⟨he, hba⟩
                  rw [← HDD.out] at he
                  subst he
                  refine hK.out _ _ (bch hHeld hba) (fun hHeld => ?_)
                  clear hba
                  (try simp only [Act.put, List.setIfInBounds_toArray, List.set_cons_zero, List.set_cons_succ])
                  refine wpAnyH_ready (rs := [9]) (by kernel_rfl) (by simp) (AllReadyH.cons (o := { dst := some 105, op := Op.call { callee := Callee.value (Operand.func 16), args := #[Operand.tmp 103, Operand.tmp 104], argTypes := #[24, 24] }, type := 4, pos := "law.go:52", after := #[{ on := 7, ground := Ground.data }, { on := 8, ground := Ground.data }, { on := 6, ground := Ground.chain }, { on := 3, ground := Ground.guard }], guard := some (3, true) }) rfl (fun K hK => ?_) AllReadyH.nil)
                  · go_simp
                    refine (rsame6_any fa fb _ _ v102 ((OA.out.on hHeld).rd) ((OB.out.on hHeld).rd)).mono ?_
                    rintro e v103 ⟨he, hba⟩
                    rw [← HDD.out] at he
                    subst he
                    refine hK.out _ _ (bch hHeld hba) (fun hHeld => ?_)
                    clear hba
                    (try simp only [Act.put, List.setIfInBounds_toArray, List.set_cons_zero, List.set_cons_succ])
                    refine wpAnyH_take (i := 10) (oi := { dst := some 106, op := Op.binOp BinOp.eql 4 (Operand.tmp 102) (Operand.tmp 105) 4, type := 4, pos := "law.go:52", after := #[{ on := 6, ground := Ground.data }, { on := 9, ground := Ground.data }, { on := 3, ground := Ground.guard }], guard := some (3, true) }) (v := ?_) rfl (by kernel_rfl) (by kernel_rfl) (by kernel_rfl) (fun _ _ _ h => h) (Or.inl ⟨by rfl, ?_⟩) hHeld ?_
                    rotate_left
                    · (intro w hSw; go_simp; try with_reducible rfl)
                    (try simp only [Act.put, List.setIfInBounds_toArray, List.set_cons_zero, List.set_cons_succ])
                    refine wpAnyH_take (i := 11) (oi := { dst := some 107, op := Op.pick (Operand.tmp 99) (Operand.tmp 106) (Operand.const (Value.bool false)), type := 4, pos := "law.go:52", after := #[{ on := 3, ground := Ground.data }, { on := 10, ground := Ground.data }], guard := none }) (v := ?_) rfl (by kernel_rfl) (by kernel_rfl) (by kernel_rfl) (fun _ _ _ h => h) (Or.inl ⟨by rfl, ?_⟩) hHeld ?_
                    rotate_left
                    · (intro w hSw; go_simp; try with_reducible rfl)
                    (try simp only [Act.put, List.setIfInBounds_toArray, List.set_cons_zero, List.set_cons_succ])
                    refine wpAnyH_take (i := 12) (oi := { dst := some 108, op := Op.move (Operand.tmp 107), type := 4, pos := "law.go:52", after := #[{ on := 11, ground := Ground.data }, { on := 9, ground := Ground.chain }], guard := none }) (v := ?_) rfl (by kernel_rfl) (by kernel_rfl) (by kernel_rfl) (fun _ _ _ h => h) (Or.inl ⟨by rfl, ?_⟩) hHeld ?_
                    rotate_left
                    · (intro w hSw; go_simp; try with_reducible rfl)
                    (try simp only [Act.put, List.setIfInBounds_toArray, List.set_cons_zero, List.set_cons_succ])
                    refine wpAnyH_take (i := 13) (oi := { dst := some 109, op := Op.load 24 (Operand.tmp 7), type := 24, pos := "law.go:52", after := #[{ on := 12, ground := Ground.guard }], guard := some (12, true) }) (v := ?_) rfl (by kernel_rfl) (by kernel_rfl) (by kernel_rfl) (fun _ _ _ h => h) (Or.inl ⟨by rfl, ?_⟩) hHeld ?_
                    rotate_left
                    · (intro w hSw; have p0 := (Z7.out.on hSw).cell (k := 0) rfl; go_simp; try with_reducible rfl)
                    (try simp only [Act.put, List.setIfInBounds_toArray, List.set_cons_zero, List.set_cons_succ])
                    refine wpAnyH_take (i := 14) (oi := { dst := some 110, op := Op.load 24 (Operand.tmp 3), type := 24, pos := "law.go:52", after := #[{ on := 12, ground := Ground.guard }], guard := some (12, true) }) (v := ?_) rfl (by kernel_rfl) (by kernel_rfl) (by kernel_rfl) (fun _ _ _ h => h) (Or.inl ⟨by rfl, ?_⟩) hHeld ?_
                    rotate_left
                    · (intro w hSw; have p0 := (XX.out.on hSw).cell (k := 0) rfl; go_simp; try with_reducible rfl)
                    (try simp only [Act.put, List.setIfInBounds_toArray, List.set_cons_zero, List.set_cons_succ])
                    refine wpAnyH_ready (rs := [15]) (by kernel_rfl) (by simp) (AllReadyH.cons (o := { dst := some 111, op := Op.call { callee := Callee.value (Operand.func 9), args := #[Operand.tmp 110], argTypes := #[24] }, type := 24, pos := "law.go:52", after := #[{ on := 14, ground := Ground.data }, { on := 12, ground := Ground.chain }, { on := 12, ground := Ground.guard }], guard := some (12, true) }) rfl (fun K hK => ?_) AllReadyH.nil)
                    · go_simp
                      refine (own6_any lx _ v103 ((HX.out.on HB.out).on hHeld)).mono ?_
                      rintro e v104 ⟨xv, rfl, hI, hba⟩
                      rw [← HFA.out] at hI
                      obtain ⟨a9, n9, c9, rfl⟩ := own_any hI
                      have R9 : Hid (RdI v104 (.slice a9 n9 c9) fa) := Lib.hid hI.rd
                      refine hK.out _ _ (bch hHeld hba) (fun hHeld => ?_)
                      clear hI hba
                      (try simp only [Act.put, List.setIfInBounds_toArray, List.set_cons_zero, List.set_cons_succ])
                      refine wpAnyH_ready (rs := [16]) (by kernel_rfl) (by simp) (AllReadyH.cons (o := { dst := some 112, op := Op.call { callee := Callee.value (Operand.func 18), args := #[Operand.tmp 109, Operand.tmp 111], argTypes := #[24, 24] }, type := 4, pos := "law.go:52", after := #[{ on := 13, ground := Ground.data }, { on := 15, ground := Ground.data }, { on := 15, ground := Ground.chain }, { on := 12, ground := Ground.guard }], guard := some (12, true) }) rfl (fun K hK => ?_) AllReadyH.nil)
                      · go_simp
                        refine (same_any fa fa _ _ v104 ((OA.out.on hHeld).rd) (R9.out)).mono ?_
                        rintro e v105 ⟨he, hba⟩
                        rw [eq_self] at he
                        subst he
                        refine hK.out _ _ (bch hHeld hba) (fun hHeld => ?_)
                        clear hba
                        (try simp only [Act.put, List.setIfInBounds_toArray, List.set_cons_zero, List.set_cons_succ])
                        refine wpAnyH_take (i := 17) (oi := { dst := some 113, op := Op.pick (Operand.tmp 108) (Operand.tmp 112) (Operand.const (Value.bool false)), type := 4, pos := "law.go:52", after := #[{ on := 12, ground := Ground.data }, { on := 16, ground := Ground.data }], guard := none }) (v := ?_) rfl (by kernel_rfl) (by kernel_rfl) (by kernel_rfl) (fun _ _ _ h => h) (Or.inl ⟨by rfl, ?_⟩) hHeld ?_
                        rotate_left
                        · (intro w hSw; go_simp; try with_reducible rfl)
                        (try simp only [Act.put, List.setIfInBounds_toArray, List.set_cons_zero, List.set_cons_succ])
                        refine wpAnyH_take (i := 18) (oi := { dst := some 6, op := Op.assign (Operand.tmp 113), type := 4, pos := "law.go:52", after := #[{ on := 17, ground := Ground.data }, { on := 16, ground := Ground.chain }, { on := 0, ground := Ground.phase }, { on := 1, ground := Ground.phase }, { on := 2, ground := Ground.phase }, { on := 3, ground := Ground.phase }, { on := 4, ground := Ground.phase }, { on := 5, ground := Ground.phase }, { on := 6, ground := Ground.phase }, { on := 7, ground := Ground.phase }, { on := 8, ground := Ground.phase }, { on := 9, ground := Ground.phase }, { on := 10, ground := Ground.phase }, { on := 11, ground := Ground.phase }, { on := 12, ground := Ground.phase }, { on := 13, ground := Ground.phase }, { on := 14, ground := Ground.phase }, { on := 15, ground := Ground.phase }, { on := 16, ground := Ground.phase }, { on := 17, ground := Ground.phase }], guard := none }) (v := ?_) rfl (by kernel_rfl) (by kernel_rfl) (by kernel_rfl) (fun _ _ _ h => h) (Or.inl ⟨by rfl, ?_⟩) hHeld ?_
                        rotate_left
                        · (intro w hSw; go_simp; try with_reducible rfl)
                        (try simp only [Act.put, List.setIfInBounds_toArray, List.set_cons_zero, List.set_cons_succ])
                        refine wpAnyH_done (by kernel_rfl) ?_ _
                        have HD := Lib.hid hHeld
                        clear hHeld
                        go_wp2_with fail
                        go_ret
                        exact ⟨rfl, bch HB.out HD.out⟩
end Go.Proofs.YtjbbnecegomkcaaGreatDoor

namespace Go.Proofs.YtjbbnecegomkcaaGreatDoor.TreeMayP
open Go.ChangeShapes Go.WideShapes Go.ChangeAt Go.RowKit Go.Joins Go.Deep
open Go.ChangeMaps (open_string shut_string)

theorem met (os : Os) : laidMet Tryz.prog Rows.treeMayUptoRow.laid ((laidWorld os).forCall (fun _ _ => 0) ⟨#[], #[zeroTree, zeroTree, .slice none 0 0], []⟩).memory :=
  laid_met os _
theorem reads (os : Os) {H : Type} (enc : TypeId × Value → H) : ∃ places, DataW.whole enc Tryz.prog ((laidWorld os).forCall (fun _ _ => 0) ⟨#[], #[zeroTree, zeroTree, .slice none 0 0], []⟩).memory Tryz.f3.params.toList Rows.treeMaySpec.vars false #[zeroTree, zeroTree, Value.slice none 0 0].toList 8 = some ([zeroTreeD, zeroTreeD, .nil], [], places) :=
  ⟨[], by kernel_rfl⟩

set_option maxRecDepth 100000 in
theorem lifted (os : Os) (started : os.Started) (H : Type) (enc : TypeId × Value → H) (F : Stop.Interp) :
    ReturnsInHanded {} Tryz.checked os 3 .any ((Rows.OpenSpec.upto Rows.treeMaySpec).preRow enc Tryz.prog Tryz.f3 Rows.treeMayUptoRow.domain false Rows.treeMayUptoRow.laid) (((Rows.OpenSpec.upto Rows.treeMaySpec).at F).post enc Tryz.prog Tryz.f3 false true false false) := by
  obtain ⟨places, hx⟩ := reads os enc
  refine returnsInHanded_of_row (C := Tryz.checked) (s := Rows.OpenSpec.upto Rows.treeMaySpec) own0 started (by kernel_rfl) Tryz.func3
    (witness_row_at (enc := enc) (C := Tryz.checked) false (laidWorld os) #[zeroTree, zeroTree, .slice none 0 0] rfl (by kernel_rfl) (by kernel_rfl) (by kernel_rfl)
      (OpenSpec.preRow_of_cond 8 hx (by kernel_rfl) (fun k hk => by cases hk; kernel_rfl) (by kernel_rfl) (met os))) ?_
  intro W base args ds gs before hval0 hW _ hcond hsz0 hL hsh _
  have hval : ∀ (j : Nat) t v, Tryz.f3.params[j]? = some t → args[j]? = some v → Value.okWide Tryz.prog W .any base t v := hval0
  have hsm : Rows.uptoBulkAll (ds ++ gs) ≤ 1048576 := of_decide_eq_true (hcond _ rfl)
  clear hsz0 hcond
  have hW' := hW
  obtain ⟨p, q, hA0, hV, rfl, hfz, hnd⟩ := hW
  have hA : DataW.TrodAll enc Tryz.prog W 0 (fun _ => true) true Tryz.f3.params.toList args.toList ds p := hA0
  rw [Tryz.params3] at hA hval
  obtain ⟨v0, vs0, d0, ds0, p0, q0, hargs, rfl, rfl, h0, r0⟩ := trodAll_cons hA
  obtain ⟨v1, vs1, d1, ds1, p1, q1, rfl, rfl, rfl, h1, r1⟩ := trodAll_cons r0
  obtain ⟨v2, vs2, d2, ds2, p2, q2, rfl, rfl, rfl, h2, r2⟩ := trodAll_cons r1
  obtain ⟨rfl, rfl, rfl⟩ := trodAll_nil r2
  obtain rfl : args = #[v0, v1, v2] := by cases args; simp_all
  obtain ⟨rfl, rfl⟩ := trodVars_none hV
  obtain ⟨cs0, rfl⟩ := okWide_tree (hval 0 24 v0 rfl rfl)
  obtain ⟨cs1, rfl⟩ := okWide_tree (hval 1 24 v1 rfl rfl)
  obtain ⟨a2, n2, c2, rfl⟩ := okWide_slice Tryz.underlying22 (hval 2 22 v2 rfl rfl)
  have h0k := h0
  obtain ⟨fuel0, hf0⟩ := h0
  have h1k := h1
  obtain ⟨fuel1, hf1⟩ := h1
  have h2k := h2
  obtain ⟨fuel2, hf2⟩ := h2
  clear hA0 hval0
  simp only [List.append_nil] at hW'
  have hlt0 : ∀ x ∈ p0, x.block < W.heap.size := fun x hx => by simpa using hW'.lt x (by simp [hx])
  have hlt1 : ∀ x ∈ p1, x.block < W.heap.size := fun x hx => by simpa using hW'.lt x (by simp [hx])
  have hlt2 : ∀ x ∈ p2, x.block < W.heap.size := fun x hx => by simpa using hW'.lt x (by simp [hx])
  have hb0 : Rows.uptoBulk d0 ≤ 1048576 := Nat.le_trans (bulk_part (by simp)) hsm
  have hb1 : Rows.uptoBulk d1 ≤ 1048576 := Nat.le_trans (bulk_part (by simp)) hsm
  have hb2 : Rows.uptoBulk d2 ≤ 1048576 := Nat.le_trans (bulk_part (by simp)) hsm
  obtain ⟨x0, l0, rfl, hr0, hw0'⟩ := argT_of (by simpa [Value.cells] using hf0) hlt0
  have hw0 : ∀ y ∈ l0, y.path.length ≤ 2000000 := fun y hy => Nat.le_trans (hw0' y hy).2 (Nat.le_trans hb0 (by decide))
  obtain ⟨x1, l1, rfl, hr1, hw1'⟩ := argT_of (by simpa [Value.cells] using hf1) hlt1
  have hw1 : ∀ y ∈ l1, y.path.length ≤ 2000000 := fun y hy => Nat.le_trans (hw1' y hy).2 (Nat.le_trans hb1 (by decide))
  obtain ⟨l2, hr2, hw2'⟩ := argI_of (by simpa [Value.cells] using hf2) hlt2
  have hw2 : ∀ y ∈ l2, y.path.length ≤ 2000000 := fun y hy => Nat.le_trans (hw2' y hy).2 (Nat.le_trans hb2 (by decide))
  refine (may6_any l0 l1 l2 x0 x1 _ W hr0 hr1 hr2 hw0 hw1 hw2 (tabs hL hsh)).mono fun e W' ⟨he, hb⟩ => ?_
  subst he
  exact ⟨_, rfl, _, _, _, [], _, [], hW', (trodAll_cons_mk (shut_bool Tryz.underlying4 _) trodAll_mk0), (trodAll_cons_mk (Below.trod laidOut (by kernel_rfl) (of_decide_eq_true (by kernel_rfl)) h0k hb hlt0) (trodAll_cons_mk (Below.trod laidOut (by kernel_rfl) (of_decide_eq_true (by kernel_rfl)) h1k hb hlt1) (trodAll_cons_mk (Below.trod laidOut (by kernel_rfl) (of_decide_eq_true (by kernel_rfl)) h2k hb hlt2) trodAll_mk0))), rfl, hb.frame _, fun h => by cases h⟩

theorem said : Rows.TreeMayUptoSaid :=
  OpenClaim.holds_of_cond 3 Tryz.f3 rfl rfl rfl rfl rfl rfl rfl ⟨rfl, rfl, rfl, rfl, rfl⟩ rfl rfl rfl rfl rfl (by kernel_rfl) Tryz.func3 (by kernel_rfl)
    (of_decide_eq_true (by kernel_rfl)) (by unfold Func.isWrapper; first | (rw [if_pos (by decide +kernel)]; kernel_rfl) | (rw [if_neg (by decide +kernel)]; exact ⟨rfl, rfl⟩))
    (fun os started H enc _ F => by rw [OpenClaim.pre_eq_preRow]; exact lifted os started H enc F)

/-- No parameter wants a stand-in; the program's own looks are off: what the card asks. -/
theorem plain (f : FuncId) (fn : Func) (hf : Tryz.pinned.checked.prog.funcNamed "puncheon/puncheonlaw06.TreeMay" = some f) (hfn : Tryz.pinned.checked.prog.funcs[f]? = some fn) :
    false = Tryz.pinned.checked.prog.looks [] ∧ ∀ (j : Nat) t, fn.params[j]? = some t → Tryz.pinned.checked.prog.wantsStandIn t = false := by
  obtain rfl : f = 3 := Option.some.inj ((show Tryz.prog.funcNamed "puncheon/puncheonlaw06.TreeMay" = some 3 by kernel_rfl).symm.trans hf) |>.symm
  obtain rfl : fn = Tryz.f3 := (Option.some.inj (Tryz.func3.symm.trans hfn)).symm
  refine ⟨by kernel_rfl, fun j t ht => ?_⟩
  rw [Tryz.params3] at ht
  have hm : t ∈ [24, 24, 22] := by simpa using Array.mem_of_getElem? ht
  have hall : ([24, 24, 22].all fun u => !Tryz.prog.wantsStandIn u) = true := by kernel_rfl
  exact (show Tryz.prog.wantsStandIn t = false by simpa using List.all_eq_true.1 hall t hm)
end Go.Proofs.YtjbbnecegomkcaaGreatDoor.TreeMayP
namespace Go.Proofs.YtjbbnecegomkcaaGreatDoor
theorem treeMay_upto_card : Rows.TreeMayUptoCardSaid :=
  Claim7.holds_tied_plain_at .later [] _ _ _ _ TreeMayP.said (fun _ h => by cases h) (by kernel_rfl) (fun _ h => by cases h) treeMayUpto_row_tie rfl ⟨rfl, rfl⟩ (by kernel_rfl) rfl TreeMayP.plain (by kernel_rfl)
#print axioms treeMay_upto_card
end Go.Proofs.YtjbbnecegomkcaaGreatDoor
