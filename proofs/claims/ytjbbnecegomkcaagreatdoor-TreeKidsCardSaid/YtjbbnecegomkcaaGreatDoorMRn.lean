/- Proved: whatever tree, path and turn TreeKids of puncheonlaw06 is called with, the call returns true, and all read behind it as they read before (the statement Rows.TreeKidsCardSaid). No condition of ours: the tables stand as the program's text lays them (the card ties them), and the form's own reach. | slices.SortFunc of items, laid at this program's numbers: one table of numbers, a field a fact. | slices.Reverse of items, laid at this program's numbers: one table of numbers, a field a fact. | Proved here, of every program: no step of the machine takes back a draw; so a call of whatever contract ends with at least as many draws as it began with. | Proved here, of lists alone: what a tree of items is, in any order; what the reference puts together is that tree, or none. | Proved here: Of of puncheonref06, for every row of at most 2001 items. | Proved here: slices.SortFunc of items by the order of paths: the same items, in order. | Proved here: Of of package tree, for every row of items. | Proved here: slices.Reverse of the first items of a row in memory of the call's own. | Proved here: Base of puncheonref01 of a path that has a name, and Kids of puncheonref06 of a tree that may be; Below and Kids of package tree, of any tree. | Proved here: Check of package tree; plain facts on what is below a path. | Proved here: TreeKids of puncheonlaw06 returns true, for every tree, path and turn, wherever the tables stand. -/
import Derived.Shelf.SlLaysF0
import Derived.Test.YtjbbnecegomkcaaGreatDoorProg
import Derived.Shelf.SlicesQ.Reverse
import Derived.Calls
import Derived.StepT
import Derived.Test.YtjbbnecegomkcaaGreatDoorMRa
import Derived.Test.YtjbbnecegomkcaaGreatDoorMRb
import Derived.Test.YtjbbnecegomkcaaGreatDoorOIns
import Derived.Shelf.SlSortCmp.WholeK
import Derived.Test.YtjbbnecegomkcaaGreatDoorMRv
namespace Go.Proofs
open Go.Shelf
def Tryz.sortItems_ren : Go.Shelf.Ren := ⟨fun | 6 => 42 | 15 => 65 | 14 => 64 | 28 => 95 | 29 => 96 | 20 => 87 | 21 => 88 | 22 => 89 | 23 => 90 | 24 => 91 | 25 => 92 | 26 => 93 | 27 => 94 | 46 => 115 | 47 => 116 | 48 => 117 | 49 => 118 | 50 => 119 | 57 => 128 | n => n, fun | 22 => 22 | 24 => 33 | 25 => 66 | 3 => 3 | 39 => 60 | 0 => 0 | 53 => 118 | 55 => 120 | 4 => 4 | 46 => 112 | 45 => 111 | 50 => 98 | 5 => 5 | 9 => 9 | 66 => 130 | 70 => 134 | 76 => 143 | 77 => 144 | n => n, fun | n => n⟩
theorem Tryz.sortItems : Go.Proofs.SlLaysF0.n6 Tryz.prog Tryz.sortItems_ren := {
  mixed := by kernel_rfl
  f6 := ⟨Tryz.f42.name, by decide, Tryz.func42.trans (congrArg some (by kernel_rfl))⟩
  f14 := ⟨Tryz.f64.name, by decide, Tryz.func64.trans (congrArg some (by kernel_rfl))⟩
  f15 := Tryz.func65.trans (congrArg some (by kernel_rfl))
  f20 := ⟨Tryz.f87.name, by decide, Tryz.func87.trans (congrArg some (by kernel_rfl))⟩
  f21 := ⟨Tryz.f88.name, by decide, Tryz.func88.trans (congrArg some (by kernel_rfl))⟩
  f22 := ⟨Tryz.f89.name, by decide, Tryz.func89.trans (congrArg some (by kernel_rfl))⟩
  f23 := ⟨Tryz.f90.name, by decide, Tryz.func90.trans (congrArg some (by kernel_rfl))⟩
  f24 := ⟨Tryz.f91.name, by decide, Tryz.func91.trans (congrArg some (by kernel_rfl))⟩
  f25 := ⟨Tryz.f92.name, by decide, Tryz.func92.trans (congrArg some (by kernel_rfl))⟩
  f26 := ⟨Tryz.f93.name, by decide, Tryz.func93.trans (congrArg some (by kernel_rfl))⟩
  f27 := ⟨Tryz.f94.name, by decide, Tryz.func94.trans (congrArg some (by kernel_rfl))⟩
  f28 := Tryz.func95.trans (congrArg some (by kernel_rfl))
  f29 := Tryz.func96.trans (congrArg some (by kernel_rfl))
  f46 := ⟨Tryz.f115.name, by decide, Tryz.func115.trans (congrArg some (by kernel_rfl))⟩
  f47 := Tryz.func116.trans (congrArg some (by kernel_rfl))
  f48 := Tryz.func117.trans (congrArg some (by kernel_rfl))
  f49 := ⟨Tryz.f118.name, by decide, Tryz.func118.trans (congrArg some (by kernel_rfl))⟩
  f50 := ⟨Tryz.f119.name, by decide, Tryz.func119.trans (congrArg some (by kernel_rfl))⟩
  f57 := ⟨Tryz.f128.name, by decide, Tryz.func128.trans (congrArg some (by kernel_rfl))⟩
  t0 := Tryz.underlying0
  a0 := Tryz.isAgg0
  z0 := Tryz.sizeOf0
  v0 := Tryz.zeroValue0
  t3 := Tryz.underlying3
  a3 := Tryz.isAgg3
  z3 := Tryz.sizeOf3
  v3 := Tryz.zeroValue3
  t4 := Tryz.underlying4
  a4 := Tryz.isAgg4
  z4 := Tryz.sizeOf4
  v4 := Tryz.zeroValue4
  t5 := Tryz.underlying5
  a5 := Tryz.isAgg5
  z5 := Tryz.sizeOf5
  v5 := Tryz.zeroValue5
  t9 := Tryz.underlying9
  a9 := Tryz.isAgg9
  z9 := Tryz.sizeOf9
  v9 := Tryz.zeroValue9
  t22 := Tryz.underlying22
  a22 := Tryz.isAgg22
  z22 := Tryz.sizeOf22
  v22 := Tryz.zeroValue22
  t25 := Tryz.underlying66
  a25 := Tryz.isAgg66
  z25 := Tryz.sizeOf66
  v25 := Tryz.zeroValue66
  t39 := Tryz.underlying60
  a39 := Tryz.isAgg60
  z39 := Tryz.sizeOf60
  v39 := Tryz.zeroValue60
  t45 := Tryz.underlying111
  a45 := Tryz.isAgg111
  z45 := Tryz.sizeOf111
  v45 := Tryz.zeroValue111
  t46 := Tryz.underlying112
  a46 := Tryz.isAgg112
  z46 := Tryz.sizeOf112
  v46 := Tryz.zeroValue112
  t50 := Tryz.underlying98
  a50 := Tryz.isAgg98
  z50 := Tryz.sizeOf98
  v50 := Tryz.zeroValue98
  t53 := Tryz.underlying118
  a53 := Tryz.isAgg118
  z53 := Tryz.sizeOf118
  v53 := Tryz.zeroValue118
  t55 := Tryz.underlying120
  a55 := Tryz.isAgg120
  z55 := Tryz.sizeOf120
  v55 := Tryz.zeroValue120
  t66 := Tryz.underlying130
  a66 := Tryz.isAgg130
  z66 := Tryz.sizeOf130
  v66 := Tryz.zeroValue130
  t70 := Tryz.underlying134
  a70 := Tryz.isAgg134
  z70 := Tryz.sizeOf134
  v70 := Tryz.zeroValue134
  t76 := Tryz.underlying143
  a76 := Tryz.isAgg143
  z76 := Tryz.sizeOf143
  v76 := Tryz.zeroValue143
  t77 := Tryz.underlying144
  a77 := Tryz.isAgg144
  z77 := Tryz.sizeOf144
  v77 := Tryz.zeroValue144 }
end Go.Proofs

namespace Go.Proofs
open Go.Shelf
def Tryz.revItems_ren : Go.Shelf.Ren := ⟨fun | 35 => 37 | n => n, fun | 22 => 22 | 23 => 33 | 3 => 3 | 4 => 4 | 0 => 0 | n => n, fun | n => n⟩
theorem Tryz.revItems : Go.Proofs.SlLaysE0.n35 Tryz.prog Tryz.revItems_ren := {
  mixed := by kernel_rfl
  f35 := ⟨Tryz.f37.name, by decide, Tryz.func37.trans (congrArg some (by kernel_rfl))⟩
  t0 := Tryz.underlying0
  a0 := Tryz.isAgg0
  z0 := Tryz.sizeOf0
  v0 := Tryz.zeroValue0
  t3 := Tryz.underlying3
  a3 := Tryz.isAgg3
  z3 := Tryz.sizeOf3
  v3 := Tryz.zeroValue3
  t4 := Tryz.underlying4
  a4 := Tryz.isAgg4
  z4 := Tryz.sizeOf4
  v4 := Tryz.zeroValue4
  t22 := Tryz.underlying22
  a22 := Tryz.isAgg22
  z22 := Tryz.sizeOf22
  v22 := Tryz.zeroValue22 }
end Go.Proofs

namespace Go.Proofs.YtjbbnecegomkcaaGreatDoor.Draws

theorem ask_low {α : Type} (a : Ask α) (w : World) : w.drawn ≤ (w.ask a).2.drawn := by
  induction a generalizing w with
  | done a => exact Nat.le_refl _
  | ask what range k ih =>
    unfold World.ask
    simp only []
    split
    · exact ih _ _
    · exact Nat.le_trans (Nat.le_succ _) (ih _ { w with drawn := w.drawn + 1 })
theorem sys_low (w : World) (c : Sys) : w.drawn ≤ (w.sys c).2.drawn := by
  unfold World.sys
  have h := ask_low (Kernel.perform c w.os) w
  split
  · exact Nat.le_refl _
  · rename_i heq
    rw [heq] at h
    exact h
theorem viewStore_low {p : Program} {w : World} {at_ : Addr} {u : TypeId} {a : Addr} {v : Value} {b : Bool} {r : World × List Addr} (h : w.viewStore p at_ u a v b = .ok r) : r.1.drawn = w.drawn := by
  unfold World.viewStore at h
  simp only [bind, Except.bind, pure, Except.pure] at h
  repeat' split at h
  all_goals first | (cases h; done) | (cases h; rfl)
theorem farStore_low {p : Program} {w : World} {a : Addr} {v : Value} {b : Bool} {r : World × List Addr} (h : w.farStore p a v b = .ok r) : r.1.drawn = w.drawn := by
  unfold World.farStore at h
  split at h
  · split at h
    · rename_i heq
      cases h
      exact viewStore_low heq
    · cases h
  · cases h
def ResLow {α : Type} (d : Nat) : Result α → Prop
  | .ok _ w => d ≤ w.drawn
  | .halt _ w => d ≤ w.drawn
theorem ResLow.mono {α : Type} {d d' : Nat} {r : Result α} (h : ResLow d' r) (hd : d ≤ d') : ResLow d r := by
  cases r <;> exact Nat.le_trans hd h
theorem freeze_low (w : World) (a : Addr) (n : Nat) : (w.freeze a n).drawn = w.drawn := by
  unfold World.freeze
  split <;> rfl
theorem run_low {α : Type} (p : Program) (s : Sem α) (w : World) : ResLow w.drawn (s.run p w) := by
  induction s generalizing w with
  | pure a => exact Nat.le_refl _
  | load m a k ih =>
    simp only [Sem.run]
    split
    · exact ih _ _
    · split
      · exact ih _ _
      · exact Nat.le_refl _
  | store m a v k ih =>
    cases v
    all_goals first
      | exact Nat.le_refl w.drawn
      | (simp only [Sem.run]
         split
         · split
           · exact Nat.le_refl _
           · exact ih _
         · split
           · rename_i heq
             exact (ih _).mono (Nat.le_of_eq (farStore_low heq).symm)
           · exact Nat.le_refl _)
  | new o k ih => exact ih _ { w with heap := w.heap.push o }
  | shape r k ih => exact ih _ w
  | freeze a n k ih => exact (ih (w.freeze a n)).mono (Nat.le_of_eq (freeze_low w a n).symm)
  | frozen a k ih => exact ih _ w
  | getObj r k ih =>
    simp only [Sem.run]
    split
    · exact Nat.le_refl _
    · exact ih _ w
    · exact Nat.le_refl _
  | setObj r o k ih =>
    simp only [Sem.run]
    split
    · exact Nat.le_refl _
    · exact ih { w with heap := w.heap.setIfInBounds r o }
    · exact Nat.le_refl _
  | choose q k ih =>
    simp only [Sem.run]
    split
    · exact ih _ w
    · exact (ih _ { w with drawn := w.drawn + 1 }).mono (Nat.le_succ _)
  | sys c k ih => exact (ih _ _).mono (sys_low w c)
  | program k ih => exact ih p w
  | mark m k ih => exact ih w
  | halt h => exact Nat.le_refl _
theorem run_ok {α : Type} {p : Program} {s : Sem α} {w w' : World} {a : α} (h : s.run p w = .ok a w') : w.drawn ≤ w'.drawn := by
  have := run_low p s w
  rw [h] at this
  exact this
theorem run_halt {α : Type} {p : Program} {s : Sem α} {w w' : World} {a : Halt} (h : s.run p w = .halt a w') : w.drawn ≤ w'.drawn := by
  have := run_low p s w
  rw [h] at this
  exact this
theorem runT_res {α : Type} {p : Program} {s : Sem α} {w : World} {es es' : Array Event} {r : Result α} (h : s.runT p w es = (r, es')) : ResLow w.drawn r := by
  have h1 := Sem.runT_eq p s w es
  rw [h] at h1
  rw [(Prod.mk.inj h1).1]
  exact run_low p s w
theorem runT_ok {α : Type} {p : Program} {s : Sem α} {w w' : World} {es es' : Array Event} {a : α} (h : s.runT p w es = (.ok a w', es')) : w.drawn ≤ w'.drawn := runT_res h
theorem runT_halt {α : Type} {p : Program} {s : Sem α} {w w' : World} {es es' : Array Event} {a : Halt} (h : s.runT p w es = (.halt a w', es')) : w.drawn ≤ w'.drawn := runT_res h

theorem run_okp {α : Type} {p : Program} {s : Sem α} {w w' : World} {a : α} {e e' : Array Event} (h : (s.run p w, e) = (Result.ok a w', e')) : w.drawn ≤ w'.drawn := run_ok (Prod.mk.inj h).1
theorem run_haltp {α : Type} {p : Program} {s : Sem α} {w w' : World} {a : Halt} {e e' : Array Event} (h : (s.run p w, e) = (Result.halt a w', e')) : w.drawn ≤ w'.drawn := run_halt (Prod.mk.inj h).1
theorem run_oki {α : Type} {p : Program} {s : Sem α} {w w' : World} {a : α} {e e' : Array Event} {l : Bool} (h : (if l = true then (s.run p w, e) else (s.run p w, e')).1 = Result.ok a w') : w.drawn ≤ w'.drawn := by
  split at h <;> exact run_ok h
theorem run_halti {α : Type} {p : Program} {s : Sem α} {w w' : World} {a : Halt} {e e' : Array Event} {l : Bool} (h : (if l = true then (s.run p w, e) else (s.run p w, e')).1 = Result.halt a w') : w.drawn ≤ w'.drawn := by
  split at h <;> exact run_halt h

/-! ### A goroutine's step -/
def GLow (d : Nat) : GStep → Prop
  | .go _ w _ => d ≤ w.drawn
  | .comm _ _ _ _ w _ => d ≤ w.drawn
  | .spawn _ _ w _ => d ≤ w.drawn
  | .count _ w _ => d ≤ w.drawn
  | .timer _ _ w _ => d ≤ w.drawn
  | .alone _ _ w _ => d ≤ w.drawn
  | .newcoro _ _ _ w _ => d ≤ w.drawn
  | .coroswitch _ _ _ w _ => d ≤ w.drawn
  | .collect _ w _ => d ≤ w.drawn
  | .watch _ w _ => d ≤ w.drawn
  | .ended _ _ _ => True
theorem GLow.after {d : Nat} {s : GStep} {es : Array Event} (h : GLow d s) : GLow d (GStep.after es s) := by
  cases s <;> exact h
theorem endWith_low {d : Nat} {w : World} {fd : Nat} {t : ByteArray} {o : Outcome} (_ : d ≤ w.drawn) : GLow d (endWith w fd t o) := by
  unfold endWith
  repeat' (first | refine GLow.after ?_ | split)
  all_goals trivial
theorem endThrow_low {d : Nat} {fr : Frame} {m : String} {w : World} (h : d ≤ w.drawn) : GLow d (endThrow fr m w) := h
theorem endPrinting_low {d : Nat} {p : Program} {fr : Frame} {v : Value} {w : World} (h : d ≤ w.drawn) : GLow d (endPrinting p fr v w) := by
  unfold endPrinting
  try simp only []
  repeat' (first | refine GLow.after ?_ | split)
  all_goals (try have h2 := Nat.le_trans h (run_ok (by assumption)))
  all_goals (try have h3 := Nat.le_trans h (run_halt (by assumption)))
  all_goals (try have h2 := Nat.le_trans h (run_okp (by assumption)))
  all_goals (try have h3 := Nat.le_trans h (run_haltp (by assumption)))
  all_goals (try have h2 := Nat.le_trans h (run_oki (by assumption)))
  all_goals (try have h3 := Nat.le_trans h (run_halti (by assumption)))
  all_goals first | trivial | exact h | exact h2 | exact h3 | exact endThrow_low h
theorem endFatal_low {d : Nat} {p : Program} {fr : Frame} {cs : List Frame} {dy : Option Dying} {m : String} {w : World} (h : d ≤ w.drawn) : GLow d (endFatal p fr cs dy m w) := by
  unfold endFatal
  try simp only []
  repeat' (first | refine GLow.after ?_ | split)
  all_goals (try have h2 := Nat.le_trans h (run_ok (by assumption)))
  all_goals (try have h3 := Nat.le_trans h (run_halt (by assumption)))
  all_goals (try have h2 := Nat.le_trans h (run_okp (by assumption)))
  all_goals (try have h3 := Nat.le_trans h (run_haltp (by assumption)))
  all_goals (try have h2 := Nat.le_trans h (run_oki (by assumption)))
  all_goals (try have h3 := Nat.le_trans h (run_halti (by assumption)))
  all_goals first | trivial | exact h | exact h2 | exact h3
theorem writeOn_low {d : Nat} {p : Program} {fr : Frame} {dy : Dying} {f : Fatal} {w : World} (h : d ≤ w.drawn) : GLow d (writeOn p fr dy f w) := by
  unfold writeOn
  try simp only [Sem.runT_eq]
  repeat' (first | refine GLow.after ?_ | split)
  all_goals (try have h2 := Nat.le_trans h (run_ok (by assumption)))
  all_goals (try have h3 := Nat.le_trans h (run_halt (by assumption)))
  all_goals (try have h2 := Nat.le_trans h (run_okp (by assumption)))
  all_goals (try have h3 := Nat.le_trans h (run_haltp (by assumption)))
  all_goals (try have h2 := Nat.le_trans h (run_oki (by assumption)))
  all_goals (try have h3 := Nat.le_trans h (run_halti (by assumption)))
  all_goals first | trivial | exact h | exact h2 | exact h3
theorem die_low {d : Nat} {p : Program} {fr : Frame} {dy : Dying} {w : World} (h : d ≤ w.drawn) : GLow d (die p fr dy w) := by
  unfold die
  try simp only [Sem.runT_eq]
  repeat' (first | refine GLow.after ?_ | split)
  all_goals (try have h2 := Nat.le_trans h (run_ok (by assumption)))
  all_goals (try have h3 := Nat.le_trans h (run_halt (by assumption)))
  all_goals (try have h2 := Nat.le_trans h (run_okp (by assumption)))
  all_goals (try have h3 := Nat.le_trans h (run_haltp (by assumption)))
  all_goals (try have h2 := Nat.le_trans h (run_oki (by assumption)))
  all_goals (try have h3 := Nat.le_trans h (run_halti (by assumption)))
  all_goals first | trivial | exact h | exact h2 | exact h3 | exact writeOn_low h | exact endWith_low h | exact endPrinting_low h3
theorem doReturn_low {d : Nat} {p : Program} {b : Bool} {fr : Frame} {cs : List Frame} {dy : Option Dying} {v : Value} {w : World} (h : d ≤ w.drawn) : GLow d (doReturn p b fr cs dy v w) := by
  unfold doReturn
  try simp only []
  repeat' (first | refine GLow.after ?_ | split)
  all_goals (try have h2 := Nat.le_trans h (run_ok (by assumption)))
  all_goals (try have h3 := Nat.le_trans h (run_halt (by assumption)))
  all_goals (try have h2 := Nat.le_trans h (run_okp (by assumption)))
  all_goals (try have h3 := Nat.le_trans h (run_haltp (by assumption)))
  all_goals (try have h2 := Nat.le_trans h (run_oki (by assumption)))
  all_goals (try have h3 := Nat.le_trans h (run_halti (by assumption)))
  all_goals first | trivial | exact h | exact h2 | exact h3
theorem early_low {d : Nat} {p : Program} {fr : Frame} {cs : List Frame} {dy : Option Dying} {g : Nat} {w : World} (h : d ≤ w.drawn) : GLow d (early p fr cs dy g w) := by
  unfold early
  try simp only []
  repeat' (first | refine GLow.after ?_ | split)
  all_goals (try have h2 := Nat.le_trans h (run_ok (by assumption)))
  all_goals (try have h3 := Nat.le_trans h (run_halt (by assumption)))
  all_goals (try have h2 := Nat.le_trans h (run_okp (by assumption)))
  all_goals (try have h3 := Nat.le_trans h (run_haltp (by assumption)))
  all_goals (try have h2 := Nat.le_trans h (run_oki (by assumption)))
  all_goals (try have h3 := Nat.le_trans h (run_halti (by assumption)))
  all_goals first | trivial | exact h | exact h2 | exact h3
theorem callDeferred_low {d : Nat} {p : Program} {fr : Frame} {cs : List Frame} {dy : Option Dying} {q : Deferred} {w : World} (h : d ≤ w.drawn) : GLow d (callDeferred p fr cs dy q w) := by
  unfold callDeferred
  try simp only [Sem.runT_eq]
  repeat' (first | refine GLow.after ?_ | split)
  all_goals (try have h2 := Nat.le_trans h (run_ok (by assumption)))
  all_goals (try have h3 := Nat.le_trans h (run_halt (by assumption)))
  all_goals (try have h2 := Nat.le_trans h (run_okp (by assumption)))
  all_goals (try have h3 := Nat.le_trans h (run_haltp (by assumption)))
  all_goals (try have h2 := Nat.le_trans h (run_oki (by assumption)))
  all_goals (try have h3 := Nat.le_trans h (run_halti (by assumption)))
  all_goals first | trivial | exact h | exact h2 | exact h3 | exact endFatal_low h3 | exact endThrow_low h3
theorem unwind_low {d : Nat} {p : Program} {b : Bool} {fr : Frame} {cs : List Frame} {dy : Option Dying} {w : World} (h : d ≤ w.drawn) : GLow d (unwind p b fr cs dy w) := by
  unfold unwind
  try simp only [Sem.runT_eq]
  repeat' (first | refine GLow.after ?_ | split)
  all_goals (try have h2 := Nat.le_trans h (run_ok (by assumption)))
  all_goals (try have h3 := Nat.le_trans h (run_halt (by assumption)))
  all_goals (try have h2 := Nat.le_trans h (run_okp (by assumption)))
  all_goals (try have h3 := Nat.le_trans h (run_haltp (by assumption)))
  all_goals (try have h2 := Nat.le_trans h (run_oki (by assumption)))
  all_goals (try have h3 := Nat.le_trans h (run_halti (by assumption)))
  all_goals first | trivial | exact h | exact h2 | exact h3 | exact callDeferred_low h | exact doReturn_low h | exact doReturn_low h2 | exact endPrinting_low h
theorem apply_low {d : Nat} {p : Program} {l : Bool} {fr : Frame} {cs : List Frame} {dy : Option Dying} {s : Sem Next} {w : World} (h : d ≤ w.drawn) : GLow d (stepG.apply p l fr cs dy s w) := by
  unfold stepG.apply
  try simp only [Sem.runT_eq]
  repeat' (first | refine GLow.after ?_ | split)
  all_goals (try have h2 := Nat.le_trans h (run_ok (by assumption)))
  all_goals (try have h3 := Nat.le_trans h (run_halt (by assumption)))
  all_goals (try have h2 := Nat.le_trans h (run_okp (by assumption)))
  all_goals (try have h3 := Nat.le_trans h (run_haltp (by assumption)))
  all_goals (try have h2 := Nat.le_trans h (run_oki (by assumption)))
  all_goals (try have h3 := Nat.le_trans h (run_halti (by assumption)))
  all_goals first | trivial | exact h | exact h2 | exact h3 | exact endFatal_low h3 | exact endThrow_low h2 | exact endThrow_low h3 | exact early_low h3
theorem elim_low {α : Type} {d : Nat} {e : GStep} {f : α → GStep} {o : Option α} (he : GLow d e) (hf : ∀ a, GLow d (f a)) : GLow d (o.elim e f) := by
  cases o
  · exact he
  · exact hf _
theorem oper_low {d : Nat} {p : Program} {l : Bool} {fr : Frame} {cs : List Frame} {dy : Option Dying} {w : World} (h : d ≤ w.drawn) : GLow d (stepG.oper p l fr cs dy w) := by
  unfold stepG.oper
  try simp only [Sem.runT_eq]
  repeat' (first | exact apply_low h | refine GLow.after ?_ | split)
  all_goals (try have h2 := Nat.le_trans h (run_ok (by assumption)))
  all_goals (try have h3 := Nat.le_trans h (run_halt (by assumption)))
  all_goals (try have h2 := Nat.le_trans h (run_okp (by assumption)))
  all_goals (try have h3 := Nat.le_trans h (run_haltp (by assumption)))
  all_goals (try have h2 := Nat.le_trans h (run_oki (by assumption)))
  all_goals (try have h3 := Nat.le_trans h (run_halti (by assumption)))
  all_goals first | trivial | exact h | exact h2 | exact h3 | exact apply_low h
theorem exec_low {d : Nat} {p : Program} {b l : Bool} {fr : Frame} {cs : List Frame} {dy : Option Dying} {w : World} (h : d ≤ w.drawn) : GLow d (stepG.exec p b l fr cs dy w) := by
  unfold stepG.exec
  try simp only [Sem.runT_eq]
  repeat' (first | exact apply_low h | exact apply_low (Nat.le_trans h (run_ok (by assumption))) | exact oper_low h | refine elim_low ?_ (fun _ => ?_) | exact doReturn_low (Nat.le_trans h (run_ok (by assumption))) | refine GLow.after ?_ | split)
  all_goals (try have h2 := Nat.le_trans h (run_ok (by assumption)))
  all_goals (try have h3 := Nat.le_trans h (run_halt (by assumption)))
  all_goals (try have h2 := Nat.le_trans h (run_okp (by assumption)))
  all_goals (try have h3 := Nat.le_trans h (run_haltp (by assumption)))
  all_goals (try have h2 := Nat.le_trans h (run_oki (by assumption)))
  all_goals (try have h3 := Nat.le_trans h (run_halti (by assumption)))
  all_goals first | trivial | exact h | exact h2 | exact h3 | exact apply_low h | exact apply_low h2 | exact doReturn_low h2 | exact oper_low h
theorem stepG_low (p : Program) (b : Bool) (g : Goroutine) (w : World) (l : Bool) : GLow w.drawn (stepG p b g w l) := by
  unfold stepG
  split
  split
  · exact die_low (Nat.le_refl _)
  · exact exec_low (Nat.le_refl _)
  · exact unwind_low (Nat.le_refl _)

/-! ### The machine's step -/
def SLow (d : Nat) : Stepped → Prop
  | .next m => d ≤ m.world.drawn
  | .ended _ _ => True
def MLow (d : Nat) : Move → Prop
  | .goroutine m _ => d ≤ m.world.drawn
  | .machine s _ => SLow d s
theorem serve_low {d : Nat} {p : Program} {m : Machine} {k : Nat} (h : d ≤ m.world.drawn) : SLow d (serve p m k) := by
  unfold serve
  simp only []
  repeat' split
  all_goals first | trivial | exact h
theorem look_low {d : Nat} {p : Program} {gs : Array Goroutine} {r : Rest} {w : World} (h : d ≤ w.drawn) : SLow d (look p gs r w) := by
  unfold look
  simp only []
  repeat' split
  all_goals (try have h2 := Nat.le_trans h (run_ok (by assumption)))
  all_goals first | trivial | exact h | exact h2
theorem waiting_low {r : Rest} {cs : Array CommCase} {w w' : World} (h : waitingAt r cs w = some w') : w.drawn ≤ w'.drawn := by
  unfold waitingAt at h
  repeat' split at h
  all_goals first | (cases h; exact Nat.le_refl _) | cases h
theorem communicate_low {d : Nat} {p : Program} {r : Rest} {gs : Array Goroutine} {i : Nat} {g : Goroutine} {cs : Array CommCase} {b : Bool} {sh : CommShape} {w : World} (h : d ≤ w.drawn) :
    SLow d (communicate p r gs i g cs b sh w).1 := by
  unfold communicate
  simp only []
  repeat' split
  all_goals (try have h2 := Nat.le_trans h (run_ok (by assumption)))
  all_goals (try have h4 := Nat.le_trans h (waiting_low (by assumption)))
  all_goals (try have h5 := Nat.le_trans h2 (run_ok (by assumption)))
  all_goals (try have h6 := Nat.le_trans h2 (run_halt (by assumption)))
  all_goals first | trivial | exact h | exact h2 | exact h4 | exact h5 | exact h6
theorem drain_low (w : World) (c : Nat) : (drain w c).2.drawn = w.drawn := by
  unfold drain
  split <;> rfl
theorem retime_low (m : Machine) (k : Nat) (t : Timer) (a b : Nat) : (retime m k t a b).2.world.drawn = m.world.drawn := by
  unfold retime
  simp only []
  split
  · exact drain_low _ _
  · rfl
theorem named_low {m : Machine} {a : Addr} {f : Nat → Timer → Value × Machine} {r : Value × Machine} (hf : ∀ k t, (f k t).2.world.drawn = m.world.drawn) (h : timerOp.named m a f = .ok r) : r.2.world.drawn = m.world.drawn := by
  unfold timerOp.named at h
  split at h
  · cases h; exact hf _ _
  · cases h
theorem opened_low {m m' : Machine} {a : Addr} (h : timerOp.opened m a = some m') : m'.world.drawn = m.world.drawn := by
  unfold timerOp.opened at h
  repeat' split at h
  all_goals first | (cases h; rfl) | cases h
theorem timerOp_low {m : Machine} {op : TimerOp} {r : Value × Machine} (h : timerOp m op = .ok r) : r.2.world.drawn = m.world.drawn := by
  unfold timerOp at h
  split at h
  · repeat' split at h
    all_goals first | (cases h; rfl) | cases h
  · exact named_low (fun k t => retime_low _ _ _ _ _) h
  · split at h
    · rename_i heq
      have h0 := opened_low heq
      exact named_low (fun k t => (retime_low _ _ _ _ _).trans h0) h
    · cases h
  · cases h; rfl
theorem endThrow_is {d : Nat} {fr : Frame} {m : String} {w w' : World} {g : Goroutine} {es : Array Event} (h : d ≤ w.drawn) (e : endThrow fr m w = .go g w' es) : d ≤ w'.drawn := by
  have := endThrow_low (fr := fr) (m := m) h
  rw [e] at this
  exact this
theorem stepG_is {p : Program} {b : Bool} {g : Goroutine} {w : World} {l : Bool} {s : GStep} (h : stepG p b g w l = s) : GLow w.drawn s := by
  rw [← h]
  exact stepG_low p b g w l
theorem runM_low (p : Program) (m : Machine) (i : Nat) (l : Bool) : SLow m.world.drawn (runT p m i l).1 := by
  unfold runT
  simp only []
  split
  all_goals (have h := stepG_is (by assumption))
  all_goals first | trivial | exact h | exact communicate_low h | exact look_low h | skip
  all_goals (repeat' split)
  all_goals (try have h7 := endThrow_is h (by assumption))
  all_goals (try have h8 := Nat.le_trans h (Nat.le_of_eq (timerOp_low (by assumption)).symm))
  all_goals first | trivial | exact h | exact h7 | exact h8

theorem run_adv {α : Type} {p : Program} {s : Sem α} {w w' : World} {gs : Array Goroutine} {r : Rest} {t : Nat} {a : α} (h : s.run p (Machine.advanceTo { world := w, gs := gs, rest := r } t).world = .ok a w') : w.drawn ≤ w'.drawn := by
  have h1 := run_ok h
  exact h1
theorem askOn_low {d : Nat} {p : Program} {m : Machine} (h : d ≤ m.world.drawn) : MLow d (askOn p m) := by
  unfold askOn
  simp only []
  repeat' split
  all_goals (try have h2 := Nat.le_trans h (run_ok (by assumption)))
  all_goals (try have h3 := Nat.le_trans h2 (run_ok (by assumption)))
  all_goals (try have h4 := Nat.le_trans h3 (run_ok (by assumption)))
  all_goals (try have h5 := Nat.le_trans h4 (run_ok (by assumption)))
  all_goals (try have h6 := Nat.le_trans h3 (run_adv (by assumption)))
  all_goals (try have h7 := Nat.le_trans h6 (run_ok (by assumption)))
  all_goals first | trivial | exact h | exact h2 | exact h3 | exact h4 | exact h5 | exact h6 | exact h7 | (apply serve_low; exact h2)
theorem ask_lowM {d : Nat} {p : Program} {m : Machine} (h : d ≤ m.world.drawn) : MLow d (ask p m) := by
  unfold ask
  split
  · split
    · trivial
    · rename_i heq
      have hl := look_low (p := p) (gs := m.gs) (r := m.rest) (Nat.le_trans h (run_ok heq))
      split
      · rename_i heq2
        rw [heq2] at hl
        exact askOn_low hl
      · exact hl
    · rename_i heq
      exact askOn_low (m := { m with world := _ }) (Nat.le_trans h (run_ok heq))
  · exact askOn_low h
theorem move_low (p : Program) (m : Machine) : MLow m.world.drawn (move p m) := by
  unfold move
  split
  · split
    · exact Nat.le_refl _
    · trivial
  · split
    · split
      · exact Nat.le_refl _
      · exact ask_lowM (m := { m with rest := _ }) (Nat.le_refl _)
    · exact ask_lowM (Nat.le_refl _)
theorem step_low {p : Program} {m m' : Machine} (h : step p m = .next m') : m.world.drawn ≤ m'.world.drawn := by
  have hm := move_low p m
  unfold step stepT at h
  split at h
  · rename_i m1 i heq
    rw [heq] at hm
    have h1 := runM_low p m1 i true
    rw [h] at h1
    exact Nat.le_trans hm h1
  · rename_i s ops heq
    rw [heq] at hm
    rw [show s = .next m' from h] at hm
    exact hm
theorem steps_low {p : Program} {m m' : Machine} (h : Steps p m m') : m.world.drawn ≤ m'.world.drawn := by
  obtain ⟨n, hn⟩ := h
  induction n generalizing m with
  | zero => simp [runN] at hn; rw [hn]; exact Nat.le_refl _
  | succ n ih =>
    simp only [runN] at hn
    cases hs : step p m with
    | next m1 => rw [hs] at hn; exact Nat.le_trans (step_low hs) (ih hn)
    | ended o w => rw [hs] at hn; cases hn
/-- A CALL TAKES NO DRAW BACK: whatever a contract says, that may be said, too. -/
theorem calls_drawn {P : Program} {f : FuncId} {args : Array Value} {w : World} {R : Ending → World → Prop} (h : Calls P f args w R) (hR : ∀ e w', R e w' → ∃ v, e = .returned v) :
    Calls P f args w fun e w' => R e w' ∧ w.drawn ≤ w'.drawn := by
  intro cs
  obtain ⟨e, w', fr, hr, hc, hf, hl⟩ := h cs
  obtain ⟨v, rfl⟩ := hR e w' hr
  exact ⟨_, w', fr, ⟨hr, steps_low (m := lone _ cs w) (m' := lone fr cs w') hc⟩, hc, hf, hl⟩
end Go.Proofs.YtjbbnecegomkcaaGreatDoor.Draws

namespace Go.Proofs.YtjbbnecegomkcaaGreatDoor

theorem srt_nodup {l : List It} (h : Srt l) : (l.map (·.path)).Nodup := by
  unfold List.Nodup
  rw [List.pairwise_map]
  exact List.Pairwise.imp (fun h => cl_ne h) h
theorem nodup_of_paths {l : List It} (h : (l.map (·.path)).Nodup) : l.Nodup := by
  unfold List.Nodup at h ⊢
  rw [List.pairwise_map] at h
  exact List.Pairwise.imp (fun h e => h (by rw [e])) h
theorem valid_srt {l : List It} (h : validT l = true) : Srt l := (tree_ok h).sorted
/-- Of one row of items there is at most one tree. -/
theorem valid_uniq {S T l : List It} (hs : S.Perm l) (ht : T.Perm l) (vs : validT S = true) (vt : validT T = true) : S = T :=
  srt_ext (valid_srt vs) (valid_srt vt) fun x => by rw [hs.mem_iff, ht.mem_iff]
/-- A row in order, of no two of one path, is the tree, if there is one. -/
theorem sorted_uniq {S T l : List It} (hs : S.Perm l) (ht : T.Perm l) (vt : validT T = true) (ho : S.Pairwise fun a b => ¬ cmpL b.path a.path < 0) : S = T := by
  have hn : (S.map (·.path)).Nodup := ((hs.trans ht.symm).map (·.path)).nodup_iff.2 (srt_nodup (valid_srt vt))
  refine srt_ext ?_ (valid_srt vt) fun x => by rw [hs.mem_iff, ht.mem_iff]
  unfold List.Nodup at hn
  rw [List.pairwise_map] at hn
  refine List.Pairwise.imp (fun {a b} h => ?_) (ho.and hn)
  have h1 := cl_anti a.path b.path
  have h2 := cl_zero a.path b.path
  have h3 := h.1
  have h4 : cmpL a.path b.path ≠ 0 := fun e => h.2 (h2.1 e)
  omega

/-! ### What with leaves -/
def keepW (x : It) (l : List It) : List It := l.filter fun y => !decide (y.path = x.path)
theorem keep_cons (x y : It) (l : List It) : keepW x (y :: l) = if y.path = x.path then keepW x l else y :: keepW x l := by
  unfold keepW
  rw [List.filter_cons]
  by_cases h : y.path = x.path <;> simp [h]
theorem wfold_perm (x : It) : ∀ (l o : List It) (b : Bool), (wend x (l.foldl (wstep x) (o, b))).Perm (o ++ (if b = true then [] else [x]) ++ keepW x l)
  | [], o, b => by cases b <;> simp [wend, keepW]
  | y :: l, o, b => by
    rw [List.foldl_cons, keep_cons]
    by_cases he : y.path = x.path
    · rw [if_pos he]
      by_cases hc : b = false ∧ cmpL x.path y.path ≤ 0
      · have e : wstep x (o, b) y = (o ++ [x], true) := by unfold wstep; rw [if_pos he, if_pos hc]
        rw [e]
        refine (wfold_perm x l (o ++ [x]) true).trans ?_
        rw [hc.1]
        simp
      · have e : wstep x (o, b) y = (o, b) := by unfold wstep; rw [if_pos he, if_neg hc]
        rw [e]
        exact wfold_perm x l o b
    · rw [if_neg he]
      by_cases hc : b = false ∧ cmpL x.path y.path ≤ 0
      · have e : wstep x (o, b) y = (o ++ [x] ++ [y], true) := by unfold wstep; rw [if_neg he, if_pos hc]
        rw [e]
        refine (wfold_perm x l (o ++ [x] ++ [y]) true).trans ?_
        rw [hc.1]
        simp
      · have e : wstep x (o, b) y = (o ++ [y], b) := by unfold wstep; rw [if_neg he, if_neg hc]
        rw [e]
        refine (wfold_perm x l (o ++ [y]) b).trans ?_
        rw [List.append_assoc, List.append_assoc, List.append_assoc]
        refine List.Perm.append_left o ?_
        rw [← List.append_assoc]
        refine (List.Perm.append_right _ List.perm_append_comm).trans ?_
        rw [List.append_assoc]
        exact List.Perm.refl _
theorem with_perm (l : List It) (x : It) : (withR l x).Perm (x :: keepW x l) := by
  have := wfold_perm x l [] false
  simpa [withR] using this
theorem keep_len (x : It) (l : List It) : (keepW x l).length ≤ l.length := List.length_filter_le _ _
theorem keep_all {x : It} {l : List It} (h : l.length ≤ (keepW x l).length) : ∀ y ∈ l, y.path ≠ x.path := by
  intro y hy
  have h1 : (keepW x l).length = l.length := Nat.le_antisymm (keep_len x l) h
  have h2 := List.length_filter_eq_length_iff.1 h1 y hy
  simpa using h2
theorem fold_len : ∀ (m out : List It), (m.foldl withR out).length ≤ out.length + m.length ∧
    (out.length + m.length ≤ (m.foldl withR out).length → (m.map (·.path)).Nodup ∧ ∀ x ∈ m, ∀ y ∈ out, y.path ≠ x.path)
  | [], out => ⟨Nat.le_refl _, fun _ => ⟨List.nodup_nil, fun x hx => by cases hx⟩⟩
  | x :: m, out => by
    obtain ⟨h1, h2⟩ := fold_len m (withR out x)
    have hp := with_perm out x
    have hl : (withR out x).length = (keepW x out).length + 1 := by rw [hp.length_eq]; rfl
    have hk := keep_len x out
    refine ⟨by rw [List.foldl_cons, List.length_cons]; omega, fun h => ?_⟩
    rw [List.foldl_cons, List.length_cons] at h
    obtain ⟨n1, n2⟩ := h2 (by omega)
    have ha := keep_all (x := x) (l := out) (by omega)
    have hin : ∀ y ∈ out, y ∈ withR out x := fun y hy => hp.mem_iff.2 (List.mem_cons_of_mem _ (List.mem_filter.2 ⟨hy, by simp [ha y hy]⟩))
    refine ⟨?_, fun z hz y hy => ?_⟩
    · rw [List.map_cons, List.nodup_cons]
      refine ⟨fun hm => ?_, n1⟩
      obtain ⟨z, hz, e⟩ := List.mem_map.1 hm
      exact n2 z hz x (hp.mem_iff.2 (by simp)) e.symm
    · rcases List.mem_cons.1 hz with rfl | hz
      · exact ha y hy
      · exact n2 z hz y (hin y hy)
/-- What the reference puts together. -/
def allR (l : List It) : List It := l.foldl withR []
theorem allR_yes {l S : List It} (hp : S.Perm l) (hv : validT S = true) : allR l = S := by
  have hn : (l.map (·.path)).Nodup := (hp.map (·.path)).nodup_iff.1 (srt_nodup (valid_srt hv))
  obtain ⟨h1, h2⟩ := with_all l [] List.Pairwise.nil hn (fun x _ y hy => by cases hy)
  refine srt_ext h1 (valid_srt hv) fun x => ?_
  show x ∈ l.foldl withR [] ↔ _
  rw [h2, hp.mem_iff]
  simp
theorem allR_no {l : List It} (hl : (allR l).length = l.length) : (allR l).Perm l := by
  obtain ⟨_, h⟩ := fold_len l []
  have hn := (h (by simpa [allR] using Nat.le_of_eq hl.symm)).1
  obtain ⟨h1, h2⟩ := with_all l [] List.Pairwise.nil hn (fun x _ y hy => by cases hy)
  refine (List.perm_ext_iff_of_nodup (nodup_of_paths (srt_nodup h1)) (nodup_of_paths hn)).2 fun x => ?_
  show x ∈ l.foldl withR [] ↔ _
  rw [h2]
  simp
/-- Whether items are a tree's, in some order. -/
def treesB (l : List It) : Bool := decide ((allR l).length = l.length) && validT (allR l)
theorem trees_yes {l S : List It} (hp : S.Perm l) (hv : validT S = true) : treesB l = true ∧ allR l = S := by
  have e := allR_yes hp hv
  refine ⟨?_, e⟩
  unfold treesB
  rw [e, hv, hp.length_eq]
  simp
theorem trees_of {l : List It} (h : treesB l = true) : (allR l).Perm l ∧ validT (allR l) = true := by
  unfold treesB at h
  rw [Bool.and_eq_true, decide_eq_true_iff] at h
  exact ⟨allR_no h.1, h.2⟩
theorem trees_sorted {l S : List It} (hp : S.Perm l) (ho : S.Pairwise fun a b => ¬ cmpL b.path a.path < 0) : validT S = treesB l ∧ (treesB l = true → S = allR l) := by
  cases ht : treesB l with
  | true =>
    obtain ⟨h1, h2⟩ := trees_of ht
    have e := sorted_uniq hp h1 h2 ho
    exact ⟨by rw [e]; exact h2, fun _ => e⟩
  | false =>
    refine ⟨?_, fun h => by cases h⟩
    cases hv : validT S with
    | false => rfl
    | true => rw [(trees_yes hp hv).1] at ht; cases ht
end Go.Proofs.YtjbbnecegomkcaaGreatDoor

namespace Go.Proofs.YtjbbnecegomkcaaGreatDoor
open Go.RowKit Go.Shelf

/-- The tree of items, or none. -/
def ofL (l : List It) : List It := if treesB l = true then allR l else []
theorem fold_mem : ∀ (m out : List It) (z : It), z ∈ m.foldl withR out → z ∈ out ∨ z ∈ m
  | [], out, z, h => .inl h
  | x :: m, out, z, h => by
    rw [List.foldl_cons] at h
    rcases fold_mem m (withR out x) z h with h | h
    · rcases List.mem_cons.1 ((with_perm out x).mem_iff.1 h) with rfl | h
      · exact .inr (by simp)
      · exact .inl (List.mem_filter.1 h).1
    · exact .inr (by simp [h])
def ROf (l : List It) (w : World) (e : Ending) (w' : World) : Prop := ∃ a n c, e = .returned (.tuple #[.agg #[.slice a n c], .bool (treesB l)]) ∧ n = (ofL l).length ∧ OwnI w' w.heap.size (.slice a n c) (ofL l) ∧ Below w.heap.size w w'
theorem fold_take {l : List It} {k : Nat} {x : It} (h : l[k]? = some x) : allR (l.take (k + 1)) = withR (allR (l.take k)) x := by
  unfold allR
  rw [List.take_add_one, h, Option.toList_some, List.foldl_append, List.foldl_cons, List.foldl_nil]
theorem fold_len2 (l : List It) : (allR l).length ≤ l.length := by
  have := (fold_len l []).1
  simpa [allR] using this
set_option maxRecDepth 100000 in
set_option maxHeartbeats 16000000 in
theorem rof_any (l : List It) (v : Value) (w : World) (hv : RdI w v l) (hl : l.length ≤ 2001) (hsz : ∀ y ∈ l, y.path.length ≤ 2000000) : Calls Tryz.prog 15 #[v] w (ROf l w) := by
  obtain ⟨w1, hw1⟩ : ∃ z, z = (w.alloc (.cells #[.slice none 0 0] 24)).alloc (.cells #[.slice none 0 0] 24) := ⟨_, rfl⟩
  obtain ⟨b2, hb2⟩ : ∃ z, z = w.heap.size := ⟨_, rfl⟩
  have X2 : Hid (Box w1 b2 24 #[.slice none 0 0]) := Lib.hid (by rw [hw1, hb2]; exact box_new.alloc _)
  have X4 : Hid (Box w1 (b2 + 1) 24 #[.slice none 0 0]) := Lib.hid (by rw [hw1, hb2, show w.heap.size + 1 = (w.alloc (.cells #[.slice none 0 0] 24)).heap.size from by simp]; exact box_new)
  have HB : Hid (Below w.heap.size w w1) := Lib.hid (by rw [hw1]; exact bch (below_new _ _) (below_new _ _))
  have H2 : Hid (w.heap.size ≤ b2) := Lib.hid (by omega)
  have HV : Hid (RdI w v l) := Lib.hid hv
  have HSZ := Lib.hid hsz
  have HBE := Lib.hid hb2
  obtain ⟨a, c, rfl, hlc, hcm, _⟩ := hv.open
  obtain ⟨n, hn⟩ : ∃ m, m = l.length := ⟨_, rfl⟩
  rw [← hn] at HV hl hlc ⊢
  have HN := Lib.hid hn
  have OS0 : Hid (OwnI w1 w.heap.size (.slice none 0 0) []) := Lib.hid (World.ownsRow_nil _ _ _ _)
  unfold maxLen at hcm
  clear hv hsz hb2 hn
  go_enter Tryz.func15, Tryz.ntmps15
  go_upto_region 2 with fail
  rw [← hw1, ← HBE.out]
  clear hw1
  go_wp2_with fail
  go_loopw [9] (fun i W => ∃ (k : Nat) (a3 : Option Addr) (m3 c3 : Nat), k ≤ n ∧ i = .int .i64 k ∧ Hid (m3 = (allR (l.take k)).length) ∧ Hid (Box W (b2 + 1) 24 #[.slice a3 m3 c3]) ∧ Hid (OwnI W w.heap.size (.slice a3 m3 c3) (allR (l.take k))) ∧ Hid (Below w.heap.size w W) ∧ Hid (Box W b2 24 #[.slice none 0 0])) (fun i _ => n - (Lib.intOf i).toNat)
  case atStart => exact ⟨0, none, 0, 0, Nat.zero_le _, rfl, Lib.hid rfl, X4, OS0, HB, X2⟩
  case round =>
    clear X2 X4 HB OS0
    obtain ⟨k, a3, m3, c3, hk, rfl, HM, X4, HO, HB, X2⟩ := hrel
    obtain ⟨wq, hwq⟩ : ∃ q, q = wr := ⟨_, rfl⟩
    rw [← hwq] at X2 HO HB X4 ⊢
    clear hwq
    have hm3 : m3 ≤ 2001 := by
      have h1 := fold_len2 (l.take k)
      rw [← HM.out, List.length_take] at h1
      have := HN.out
      omega
    by_cases hlt : k < n
    · obtain ⟨x, hx⟩ : ∃ x, l[k]? = some x := ⟨_, List.getElem?_eq_getElem (by rw [← HN.out]; exact hlt)⟩
      obtain ⟨a', c', e, _, _, hc⟩ := (HV.out.on HB.out).open
      rw [← HN.out] at e
      cases e
      obtain ⟨g, o, rfl, hg, hc⟩ := hc (by rw [← HN.out]; omega)
      obtain ⟨q0, q1, q2⟩ := hc k x hx
      have k1 : (k : Int) < (n : Int) := by omega
      have k2 : (0 : Int) ≤ (k : Int) := by omega
      have k4 : IntKind.i64.wrap ((k : Int) + 1) = (k : Int) + 1 := IntWalk.i64_in _ (by omega)
      obtain ⟨w5, hw5⟩ : ∃ q, q = wq.alloc (.cells #[.string ⟨x.path.toArray⟩, .int .i64 x.kind, .string ⟨x.data.toArray⟩] 33) := ⟨_, rfl⟩
      have hb5 : Below wq.heap.size wq w5 := by rw [hw5]; exact below_new _ _
      have HX5 : Hid (Box w5 wq.heap.size 33 x.arr) := Lib.hid (by rw [hw5]; exact box_new)
      have HB5 : Hid (Below w.heap.size w w5) := Lib.hid (bch HB.out hb5)
      have HO5 := Lib.hid (HO.out.on hb5)
      have X25 := Lib.hid (X2.out.on hb5)
      have X45 := Lib.hid (X4.out.on hb5)
      have HFT := Lib.hid (fold_take hx)
      have HSX : Hid (x.path.length ≤ 2000000) := Lib.hid (HSZ.out x (List.mem_of_getElem? hx))
      have HSA : Hid (∀ y ∈ allR (l.take k), y.path.length ≤ 2000000) := Lib.hid (fun y hy => by
        rcases fold_mem _ _ y hy with h | h
        · cases h
        · exact HSZ.out y (List.mem_of_mem_take h))
      clear hc hx hb5 hg HO
      go_upto_region 5 with fail
      obtain ⟨b7, hb7⟩ : ∃ q, q = wq.heap.size := ⟨_, rfl⟩
      rw [← hb7] at HX5 ⊢
      rw [← hw5]
      clear hw5 hb7 q0 q1 q2 HB X2 X4
      have d0 : w5.cell? ⟨b7, 0, none⟩ = some (.string ⟨x.path.toArray⟩) := HX5.out.cell (k := 0) rfl
      have d1 : w5.cell? ⟨b7, 1, none⟩ = some (.int .i64 x.kind) := HX5.out.cell (k := 1) rfl
      have d2 : w5.cell? ⟨b7, 2, none⟩ = some (.string ⟨x.data.toArray⟩) := HX5.out.cell (k := 2) rfl
      have p0 := X45.out.cell (k := 0) rfl
      go_wp2_with fail
      clear d0 d1 d2 p0
      refine (rwith_any _ _ x w5 HO5.out.rd (by rw [← HM.out]; omega) HSA.out HSX.out).mono ?_
      rintro e w6 ⟨v6, rfl, hI, hb⟩
      obtain ⟨a5, c5, rfl, _, _⟩ := own_slice hI
      obtain ⟨m5, hm5⟩ : ∃ z, z = (withR (allR (l.take k)) x).length := ⟨_, rfl⟩
      rw [← hm5] at hI ⊢
      have HM5 : Hid (m5 = (allR (l.take (k + 1))).length) := Lib.hid (by rw [HFT.out]; exact hm5)
      have HO6 : Hid (OwnI w6 w.heap.size (.slice a5 m5 c5) (allR (l.take (k + 1)))) := Lib.hid (by rw [HFT.out]; exact own_base hI HB5.out.size)
      have X26 := Lib.hid (X25.out.on hb)
      have X46 := Lib.hid (X45.out.on hb)
      have HB6 := Lib.hid (bch HB5.out hb)
      clear hb hI hm5
      go_wp2_with (first
        | (refine wpList_store_row rfl 24 (.tmp 4) (.tmp 15) rfl (b2 + 1) #[.slice a5 m5 c5] rfl rfl 24 _ X46.out (info24 _) rfl (slice_one _ _ _) ?_)
        | fail)
      go_roundw
      case rel => exact ⟨k + 1, a5, m5, c5, hlt, by go_num, HM5, Lib.hid (X46.out.row _), Lib.hid (own_row HO6.out X46.out), Lib.hid (below_row HB6.out (Nat.le_succ_of_le H2.out) _), Lib.hid (X26.out.far_row (by omega) _)⟩
      case measure => simp [Lib.intOf]; omega
    · have k1 : ¬ ((k : Int) < (n : Int)) := by omega
      have hkn : l.take k = l := List.take_of_length_le (by have := HN.out; omega)
      rw [hkn] at HM HO
      have HTN := Lib.hid hlt
      clear hkn hlt
      have p0 := X4.out.cell (k := 0) rfl
      by_cases hm : m3 = n
      · have t1 : ((m3 : Int) != (n : Int)) = false := by subst hm; simp
        have HLE : Hid ((allR l).length = l.length) := Lib.hid (by rw [← HM.out, hm]; exact HN.out)
        clear hm
        go_wp2_with fail
        refine (rtree_any (allR l) _ wq HO.out.rd (fun y hy => by
          rcases fold_mem _ _ y hy with h | h
          · cases h
          · exact HSZ.out y h)).mono ?_
        rintro e w6 ⟨rfl, hb⟩
        obtain ⟨ok, hok⟩ : ∃ z, z = validT (allR l) := ⟨_, rfl⟩
        have HTB : Hid (treesB l = ok) := Lib.hid (by unfold treesB; rw [← hok, HLE.out]; simp)
        rw [← hok]
        have X26 := Lib.hid (X2.out.on hb)
        have X46 := Lib.hid (X4.out.on hb)
        have HO6 := Lib.hid (HO.out.on hb)
        have HB6 := Lib.hid (bch HB.out hb)
        clear hb hok p0
        cases ok with
        | true =>
          have HF : Hid (ofL l = allR l) := Lib.hid (by unfold ofL; rw [if_pos HTB.out])
          have p0 := X46.out.cell (k := 0) rfl
          go_wp2_with (first
            | (refine wpList_store_row rfl 24 (.tmp 2) (.tmp 29) rfl b2 #[.slice a3 m3 c3] rfl rfl 24 _ X26.out (info24 _) rfl (slice_one _ _ _) ?_)
            | fail)
          exact bodyPost_ret (end_tree2 rfl _ (X26.out.row _) rfl rfl) rfl ⟨a3, m3, c3, by rw [HTB.out]; rfl, by rw [HF.out]; exact HM.out, by rw [HF.out]; exact own_row HO6.out X26.out, below_row HB6.out H2.out _⟩
        | false =>
          have HF : Hid (ofL l = []) := Lib.hid (by unfold ofL; rw [if_neg (by rw [HTB.out]; simp)])
          go_wp2_with (first
            | (refine wpList_store_row rfl 24 (.tmp 2) (.tmp 28) rfl b2 #[.slice none 0 0] rfl rfl 24 _ X26.out (info24 _) rfl (slice_one _ _ _) ?_)
            | fail)
          exact bodyPost_ret (end_tree2 rfl _ (X26.out.row _) rfl rfl) rfl ⟨none, 0, 0, by rw [HTB.out]; rfl, by rw [HF.out]; rfl, by rw [HF.out]; exact World.ownsRow_nil _ _ _ _, below_row HB6.out H2.out _⟩
      · have t1 : ((m3 : Int) != (n : Int)) = true := by simp; omega
        have HTB : Hid (treesB l = false) := Lib.hid (by
          unfold treesB
          rw [← HM.out, ← HN.out]
          simp [hm])
        have HF : Hid (ofL l = []) := Lib.hid (by unfold ofL; rw [if_neg (by rw [HTB.out]; simp)])
        clear hm
        go_wp2_with (first
          | (refine wpList_store_row rfl 24 (.tmp 2) (.tmp 28) rfl b2 #[.slice none 0 0] rfl rfl 24 _ X2.out (info24 _) rfl (slice_one _ _ _) ?_)
          | fail)
        exact bodyPost_ret (end_tree2 rfl _ (X2.out.row _) rfl rfl) rfl ⟨none, 0, 0, by rw [HTB.out]; rfl, by rw [HF.out]; rfl, by rw [HF.out]; exact World.ownsRow_nil _ _ _ _, below_row HB.out H2.out _⟩
end Go.Proofs.YtjbbnecegomkcaaGreatDoor

namespace Go.Proofs.YtjbbnecegomkcaaGreatDoor
open Go.RowKit Go.Shelf Go.Lib
open Go.Sort hiding Below

theorem grow_of {W W' : World} (hb : Below W.heap.size W W') (hd : W.drawn ≤ W'.drawn) : ∃ q os, W' = grow (W.drewN q) os := by
  refine ⟨W'.drawn - W.drawn, W'.heap.extract W.heap.size W'.heap.size, ?_⟩
  obtain ⟨heap', tape', drawn', os', output'⟩ := W'
  have e1 : os' = W.os := hb.os
  have e2 : tape' = W.tape := hb.tape
  have e3 : output' = W.output := hb.output
  have hs : W.heap.size ≤ heap'.size := hb.size
  have hk : ∀ k, k < W.heap.size → heap'[k]? = W.heap[k]? := hb.block
  have hd' : W.drawn ≤ drawn' := hd
  subst e1 e2 e3
  have e4 : W.drawn + (drawn' - W.drawn) = drawn' := by omega
  have eh : heap' = W.heap ++ heap'.extract W.heap.size heap'.size := by
    apply Array.ext_getElem?
    intro k
    by_cases h : k < W.heap.size
    · rw [Array.getElem?_append_left h]; exact hk k h
    · rw [Array.getElem?_append_right (by omega), Array.getElem?_extract]
      by_cases h2 : k < heap'.size
      · rw [if_pos (by omega)]; congr 1; omega
      · rw [if_neg (by omega), Array.getElem?_eq_none (by omega)]
  show (⟨heap', W.tape, drawn', W.os, W.output⟩ : World) = ⟨W.heap ++ heap'.extract W.heap.size heap'.size, W.tape, W.drawn + (drawn' - W.drawn), W.os, W.output⟩
  rw [e4, ← eh]

/-- Items whose paths a machine can hold. -/
def SIt : Type := {x : It // x.path.length ≤ 140737488355328}
instance : Inhabited SIt := ⟨⟨.nil, Nat.zero_le _⟩⟩
def SIt.it (x : SIt) : It := x.1
def encT (x : SIt) : List Value := x.1.cells
def cfT (x y : SIt) : Int := cmpL x.1.path y.1.path
theorem lt_iff (x y : SIt) : ltOf cfT x y = true ↔ cmpL x.1.path y.1.path < 0 := by
  unfold ltOf cfT
  rw [decide_eq_true_iff]
theorem swoT : SWO (ltOf cfT) where
  irrefl x := by
    cases h : ltOf cfT x x with
    | false => rfl
    | true => exact absurd ((lt_iff x x).1 h) cl_irr
  trans x y z h1 h2 := (lt_iff x z).2 (cl_lt_trans ((lt_iff x y).1 h1) ((lt_iff y z).1 h2))
  ntrans x y z h1 h2 := by
    cases h : ltOf cfT x z with
    | false => rfl
    | true =>
      have n1 : ¬ cmpL x.1.path y.1.path < 0 := fun e => by rw [(lt_iff x y).2 e] at h1; cases h1
      have n2 : ¬ cmpL y.1.path z.1.path < 0 := fun e => by rw [(lt_iff y z).2 e] at h2; cases h2
      have n3 := (lt_iff x z).1 h
      have a1 := cl_anti x.1.path y.1.path
      have a2 := cl_anti y.1.path z.1.path
      have a3 := cl_anti x.1.path z.1.path
      have := cl_trans z.1.path y.1.path x.1.path (by omega) (by omega)
      omega
set_option maxHeartbeats 1000000 in
theorem oflit_any (x y : SIt) (W : World) : Calls Tryz.prog 43 #[.agg #[.string ⟨x.1.path.toArray⟩, .int .i64 x.1.kind, .string ⟨x.1.data.toArray⟩], .agg #[.string ⟨y.1.path.toArray⟩, .int .i64 y.1.kind, .string ⟨y.1.data.toArray⟩]] W fun e w' => e = .returned (.int .i64 (cmpL x.1.path y.1.path)) ∧ Below W.heap.size W w' := by
  obtain ⟨r, hr⟩ : ∃ z, z = cmpL x.1.path y.1.path := ⟨_, rfl⟩
  have HC : Hid (∀ W, Calls Tryz.prog 34 #[.string ⟨x.1.path.toArray⟩, .string ⟨y.1.path.toArray⟩] W fun e w' => e = .returned (.int .i64 r) ∧ Below W.heap.size W w') := Lib.hid (fun W => by
    have h := cmp_any ⟨x.1.path.toArray⟩ ⟨y.1.path.toArray⟩ (by show x.1.path.toArray.size ≤ _; rw [List.size_toArray]; exact x.2) (by show y.1.path.toArray.size ≤ _; rw [List.size_toArray]; exact y.2) W
    rw [hr]
    exact h)
  rw [← hr]
  clear hr
  obtain ⟨w1, hw1⟩ : ∃ z, z = (W.alloc (.cells #[.string ⟨x.1.path.toArray⟩, .int .i64 x.1.kind, .string ⟨x.1.data.toArray⟩] 33)).alloc (.cells #[.string ⟨y.1.path.toArray⟩, .int .i64 y.1.kind, .string ⟨y.1.data.toArray⟩] 33) := ⟨_, rfl⟩
  have HB : Hid (Below W.heap.size W w1) := Lib.hid (by rw [hw1]; exact bch (below_new _ _) (below_new _ _))
  go_enter Tryz.func43, Tryz.ntmps43
  go_wp2_with fail
  rw [← hw1]
  refine (HC.out w1).mono ?_
  rintro e w2 ⟨rfl, hb⟩
  go_wp2
  go_ret
  exact ⟨rfl, bch HB.out hb⟩
theorem lays43 (blk off size : Nat) (w : World) : CmpLays Tryz.prog 43 #[] encT 3 cfT blk off size w := fun m os dk _ x y =>
  (Draws.calls_drawn (oflit_any x y (sortWorldK encT 3 w blk off m dk os)) (fun _ _ h => ⟨_, h.1⟩)).mono fun _ _ h => ⟨h.1.1, grow_of h.1.2 h.2⟩
/-! ### Rows, and what the sort leaves -/
theorem flatK_list (d : Array SIt) : (flatK encT 3 d).toList = flatI (d.toList.map SIt.it) := by
  apply List.ext_getElem?
  intro t
  by_cases ht : t < d.size * 3
  · obtain ⟨q, r, hr, rfl⟩ : ∃ q r, r < 3 ∧ t = q * 3 + r := ⟨t / 3, t % 3, by omega, by omega⟩
    have hq : q < d.size := by omega
    rw [flat3 _ q r hr, Array.getElem?_toList]
    have h1 : (flatK encT 3 d)[q * 3 + r]? = some (flatK encT 3 d)[q * 3 + r]! := by
      rw [getElem!_pos _ _ (by rw [size_flatK]; exact ht)]
      exact Array.getElem?_eq_getElem _
    rw [h1, get_flatK _ _ _ _ ht, show (q * 3 + r) / 3 = q by omega, show (q * 3 + r) % 3 = r by omega, List.getElem?_map, Array.getElem?_toList, Array.getElem?_eq_getElem hq, getElem!_pos d q hq]
    show some ((encT d[q])[r]!) = ((d[q]).1.cells)[r]?
    have h2 : r < ((d[q]).1.cells).length := hr
    unfold encT
    rw [getElem!_pos ((d[q]).1.cells) r h2, List.getElem?_eq_getElem h2]
  · rw [List.getElem?_eq_none (by rw [Array.length_toList, size_flatK]; omega), List.getElem?_eq_none (by rw [flatI_len, List.length_map, Array.length_toList]; omega)]
theorem holds_own {w : World} {B g n c : Nat} {d : Array SIt} (hn : n = d.size) (h : w.ownsRow B 33 3 (.slice (some ⟨g, 0, none⟩) n c) n (flatI (d.toList.map SIt.it))) : HoldsK encT 3 w g 0 d := by
  intro j hj
  rw [size_flatK] at hj
  refine ⟨?_, by rw [Nat.zero_add]; exact h.frozenAt j⟩
  rw [Nat.zero_add, h.cellAt j (by omega), ← flatK_list, Array.getElem?_toList, getElem!_pos _ _ (by rw [size_flatK]; exact hj)]
  exact Array.getElem?_eq_getElem _
theorem heap_sortedT {w : World} {g n : Nat} {os : Array Obj} {cur : Array Value} {e : TypeId} {fr : Nat × Nat} (d : Array SIt) (hb : w.heap[g]? = some (.cells cur e fr)) :
    (sortWorldK encT 3 w g 0 n d os).heap[g]? = some (.cells (putCells id 0 (flatK encT 3 d) cur) e fr) := by
  have hg : g < w.heap.size := (Array.getElem?_eq_some_iff.1 hb).1
  unfold sortWorldK putRowK
  rw [heap_grow_old _ _ (by simpa using hg)]
  simp [putRow, mapBlock, Sort.ahead, Array.getElem?_modify, hb, onCells]
theorem below_sortedT {w : World} {B g n : Nat} {os : Array Obj} (d : Array SIt) (hB : B ≤ g) (hBs : B ≤ w.heap.size) : Below B w (sortWorldK encT 3 w g 0 n d os) := by
  unfold sortWorldK putRowK
  refine ⟨rfl, rfl, rfl, by simp [grow, putRow, mapBlock, Sort.ahead], fun k hk => ?_⟩
  rw [heap_grow_old _ _ (by simp [putRow, mapBlock, Sort.ahead]; omega)]
  have : g ≠ k := by omega
  simp [putRow, mapBlock, Sort.ahead, Array.getElem?_modify, this]
theorem take_putT (cur F : Array Value) (h : F.size ≤ cur.size) : (putCells id 0 F cur).toList.take F.size = F.toList := by
  apply List.ext_getElem?
  intro j
  by_cases hj : j < F.size
  · rw [List.getElem?_take_of_lt hj, Array.getElem?_toList]
    simp [putCells, hj, show j < cur.size by omega]
  · rw [List.getElem?_take_eq_none (by omega), List.getElem?_eq_none (by simp; omega)]
theorem own_sortedT {w : World} {B g n c m : Nat} {os : Array Obj} {d d' : Array SIt} (hn : n = d.size) (hs : d'.size = d.size) (h : w.ownsRow B 33 3 (.slice (some ⟨g, 0, none⟩) n c) n (flatI (d.toList.map SIt.it))) :
    (sortWorldK encT 3 w g 0 m d' os).ownsRow B 33 3 (.slice (some ⟨g, 0, none⟩) n c) n (flatI (d'.toList.map SIt.it)) := by
  rcases h.2 with ⟨h', _⟩ | ⟨g', c', cur, h', hB, hg, hnc, hcm, hcs, _⟩
  · simp at h'
  · simp only [Value.slice.injEq, Option.some.injEq, Addr.mk.injEq, and_true, true_and] at h'
    obtain ⟨rfl, rfl⟩ := h'
    refine ⟨by rw [flatI_len, List.length_map, Array.length_toList, hs, hn], .inr ⟨g, c, _, rfl, hB, heap_sortedT d' hg, hnc, hcm, by simp [putCells, hcs], ?_⟩⟩
    have := take_putT cur (flatK encT 3 d') (by rw [size_flatK, hcs, hs]; omega)
    rw [size_flatK, hs, ← hn, flatK_list] at this
    exact this
/-- The row of items, as the sort sees it. -/
def attT : (l : List It) → (∀ x ∈ l, x.path.length ≤ 140737488355328) → List SIt
  | [], _ => []
  | x :: l, h => ⟨x, h x (by simp)⟩ :: attT l fun y hy => h y (by simp [hy])
theorem attT_val : ∀ (l : List It) (h : ∀ x ∈ l, x.path.length ≤ 140737488355328), (attT l h).map SIt.it = l
  | [], _ => rfl
  | x :: l, h => by
    show x :: (attT l fun y hy => h y (by simp [hy])).map SIt.it = x :: l
    rw [attT_val l]
/-! ### A row of none -/
set_option maxHeartbeats 2000000 in
theorem ins_none (a : Option Addr) (c : Nat) (fv : Value) (w : World) : Calls Tryz.prog 87 #[.slice a 0 c, .int .i64 0, .int .i64 0, fv] w fun e w' => e = .returned (.tuple #[]) ∧ w' = w := by
  go_enter Tryz.func87, Tryz.ntmps87
  go_wp2
  refine wp_loop_rounds 1 ?_
  rw [rounds_succ]
  go_wp2
  go_end0
  exact ⟨rfl, rfl⟩
set_option maxHeartbeats 2000000 in
theorem pdq_none (a : Option Addr) (c : Nat) (z : Int) (fv : Value) (w : World) : Calls Tryz.prog 64 #[.slice a 0 c, .int .i64 0, .int .i64 0, .int .i64 z, fv] w fun e w' => e = .returned (.tuple #[]) ∧ w' = w := by
  go_enter Tryz.func64, Tryz.ntmps64
  go_wp2
  refine wp_loop_rounds 1 ?_
  rw [rounds_succ]
  go_wp2_with (go_at_call 87; refine (ins_none a c fv _).mono ?_; rintro e w' ⟨rfl, rfl⟩)
  (try simp only [Exit.inBlock, Exit.then])
  refine bodyPost_ret (results_none rfl _ _ _) rfl ?_
  exact ⟨rfl, rfl⟩
theorem len_none (w : World) : Calls Tryz.prog 65 #[.int .u64 0] w fun e w' => e = .returned (.int .i64 (Lib.bitLen 0 : Nat)) ∧ w' = w := by
  have L := Tryz.sortItems
  exact Any.bits_Len (SlLaysF0.n15.bits (P := Tryz.prog) (ρ := Tryz.sortItems_ren) { L with }) 0 w (by omega) (by omega)
set_option maxHeartbeats 2000000 in
theorem sort_none (a : Option Addr) (c : Nat) (fv : Value) (w : World) : Calls Tryz.prog 42 #[.slice a 0 c, fv] w fun e w' => e = .returned (.tuple #[]) ∧ w' = w := by
  go_enter Tryz.func42, Tryz.ntmps42
  go_wp2_with (first | (go_at_call 65; refine (len_none _).mono ?_; rintro e w' ⟨rfl, rfl⟩) | (go_at_call 64; refine (pdq_none a c _ fv _).mono ?_; rintro e w' ⟨rfl, rfl⟩))
  go_end0
  exact ⟨rfl, rfl⟩
def SortP (l : List It) (B g c : Nat) (w : World) (e : Ending) (w' : World) : Prop :=
  e = .returned (.tuple #[]) ∧ ∃ S : List It, S.Perm l ∧ (S.Pairwise fun a b => ¬ cmpL b.path a.path < 0) ∧ OwnI w' B (.slice (some ⟨g, 0, none⟩) l.length c) S ∧ Below B w w'
theorem sort_any (l : List It) (B g c : Nat) (w : World) (ho : OwnI w B (.slice (some ⟨g, 0, none⟩) l.length c) l) (hx : ∀ x ∈ l, x.path.length ≤ 140737488355328) (hB : B ≤ w.heap.size) (hl : l.length ≤ 1000000) :
    Calls Tryz.prog 42 #[.slice (some ⟨g, 0, none⟩) l.length c, .func (.func 43) #[] #[]] w (SortP l B g c w) := by
  have hv := attT_val l hx
  obtain ⟨d, hd⟩ : ∃ z, z = (attT l hx).toArray := ⟨_, rfl⟩
  have hdl : d.toList.map SIt.it = l := by rw [hd]; exact hv
  have hds : d.size = l.length := by rw [← hdl, List.length_map, Array.length_toList]
  have ho2 : w.ownsRow B 33 3 (.slice (some ⟨g, 0, none⟩) l.length c) l.length (flatI (d.toList.map SIt.it)) := by rw [hdl]; exact ho
  have hg := ho2.lt g rfl
  have eg : ∀ args w, (callFunc 43 args).run Tryz.prog w = .ok (.enter 43 args) w := enters_of Tryz.func43 (by kernel_rfl) rfl
  have hc := AnyQ.slices_SortFunc Tryz.sortItems 3 Tryz.isAgg33 Tryz.sizeOf33 encT (fun _ => rfl) (fun x v h => it_one x.1 v h) cfT swoT 43 #[] g 0 c d w eg (lays43 g 0 d.size w) (holds_own hds.symm ho2) hg.2 (by omega)
  change Calls Tryz.prog 42 _ _ _ at hc
  rw [hds] at hc
  refine hc.mono ?_
  rintro e w' ⟨rfl, d', n, os, hp, hs, rfl⟩
  obtain ⟨hps, _, hpp⟩ := hp
  rw [← hds] at hpp hs
  have hpl : d'.toList.Perm d.toList := by
    rw [show d'.extract 0 d.size = d' by rw [← (show d'.size = d.size from hps)]; exact Array.extract_size, Array.extract_size] at hpp
    exact hpp
  refine ⟨rfl, d'.toList.map SIt.it, by rw [← hdl]; exact hpl.map _, ?_, ?_, below_sortedT d' hg.1 hB⟩
  · rw [List.pairwise_map, List.pairwise_iff_getElem]
    intro i j hi hj hij h
    rw [Array.length_toList] at hi hj
    have h1 := hs i j (Nat.zero_le _) hij (by rw [← (show d'.size = d.size from hps)]; exact hj)
    rw [getElem!_pos d' i hi, getElem!_pos d' j hj] at h1
    have h5 : cmpL d'[j].it.path d'[i].it.path < 0 := by simpa using h
    rw [(lt_iff d'[j] d'[i]).2 h5] at h1
    cases h1
  · have h9 := own_sortedT (m := n) (os := os) hds.symm hps ho2
    unfold OwnI
    rw [show (d'.toList.map SIt.it).length = l.length by rw [List.length_map, Array.length_toList, hps, hds]]
    exact h9
end Go.Proofs.YtjbbnecegomkcaaGreatDoor

namespace Go.Proofs.YtjbbnecegomkcaaGreatDoor
open Go.RowKit Go.Shelf

theorem trees_many {l : List It} (h : 2000 < l.length) : treesB l = false := by
  cases e : treesB l with
  | false => rfl
  | true =>
    obtain ⟨h1, h2⟩ := trees_of e
    have := (tree_ok h2).many
    rw [h1.length_eq] at this
    omega
def OfU (l : List It) (w : World) (e : Ending) (w' : World) : Prop := ∃ a n c, e = .returned (.tuple #[.agg #[.slice a n c], .int .i64 (if treesB l = true then 0 else 160)]) ∧ n = (ofL l).length ∧ OwnI w' w.heap.size (.slice a n c) (ofL l) ∧ Below w.heap.size w w'
/-- The sort, of a row that may be none. -/
theorem sort_u (l : List It) (B n : Nat) (a : Option Addr) (c : Nat) (w : World) (hn : n = l.length) (ho : OwnI w B (.slice a n c) l) (hx : ∀ x ∈ l, x.path.length ≤ 140737488355328) (hB : B ≤ w.heap.size) (hl : l.length ≤ 1000000) :
    Calls Tryz.prog 42 #[.slice a n c, .func (.func 43) #[] #[]] w fun e w' => e = .returned (.tuple #[]) ∧ ∃ S : List It, S.Perm l ∧ (S.Pairwise fun a b => ¬ cmpL b.path a.path < 0) ∧ OwnI w' B (.slice a n c) S ∧ Below B w w' := by
  subst hn
  rcases own_form ho with ⟨rfl, h0⟩ | ⟨b, c', e, _⟩
  · have ha : a = none := by
      have hh := ho.2
      rcases hh with ⟨h, _⟩ | ⟨g, c', cur, h, _⟩
      · cases h; rfl
      · rw [h] at h0; cases h0
    subst ha
    refine (sort_none none c _ w).mono ?_
    rintro e w' ⟨rfl, rfl⟩
    exact ⟨rfl, [], List.Perm.refl _, List.Pairwise.nil, ho, Below.refl _ _⟩
  · cases e
    exact sort_any l B b c w ho hx hB hl
set_option maxRecDepth 100000 in
set_option maxHeartbeats 4000000 in
theorem tof_any (l : List It) (v : Value) (w : World) (hv : RdI w v l) (hx : ∀ x ∈ l, x.path.length ≤ 140737488355328) (hT : Tabs w) : Calls Tryz.prog 14 #[v] w (OfU l w) := by
  obtain ⟨w1, hw1⟩ : ∃ z, z = w.alloc (.cells #[.slice none 0 0] 24) := ⟨_, rfl⟩
  obtain ⟨b2, hb2⟩ : ∃ z, z = w.heap.size := ⟨_, rfl⟩
  have X2 : Hid (Box w1 b2 24 #[.slice none 0 0]) := Lib.hid (by rw [hw1, hb2]; exact box_new)
  have HB : Hid (Below w.heap.size w w1) := Lib.hid (by rw [hw1]; exact below_new _ _)
  have H2 : Hid (w.heap.size ≤ b2) := Lib.hid (by omega)
  have HV : Hid (RdI w1 v l) := Lib.hid (hv.on HB.out)
  have HX := Lib.hid hx
  have HT := Lib.hid hT
  obtain ⟨a, c, rfl, hlc, hcm, _⟩ := hv.open
  obtain ⟨n, hn⟩ : ∃ m, m = l.length := ⟨_, rfl⟩
  rw [← hn] at HV hlc ⊢
  have HN := Lib.hid hn
  unfold maxLen at hcm
  clear hv hx hT hn
  by_cases hm : 2000 < n
  · have t1 : (2000 : Int) < (n : Int) := by omega
    have HTB : Hid (treesB l = false) := Lib.hid (trees_many (by rw [← HN.out]; exact hm))
    have HF : Hid (ofL l = []) := Lib.hid (by unfold ofL; rw [if_neg (by rw [HTB.out]; simp)])
    clear hm
    go_enter Tryz.func14, Tryz.ntmps14
    go_upto_region 1 with fail
    rw [← hw1, ← hb2]
    clear hw1 hb2
    go_wp2_with (first
      | (refine wpList_store_row rfl 24 (.tmp 2) (.tmp 8) rfl b2 #[.slice none 0 0] rfl rfl 24 _ X2.out (info24 _) rfl (slice_one _ _ _) ?_)
      | fail)
    exact bodyPost_ret (end_tree2 rfl _ (X2.out.row _) rfl rfl) rfl ⟨none, 0, 0, by rw [HTB.out]; rfl, by rw [HF.out]; rfl, by rw [HF.out]; exact World.ownsRow_nil _ _ _ _, below_row HB.out H2.out _⟩
  · have t1 : ¬ ((2000 : Int) < (n : Int)) := by omega
    have t1' : (n : Int) ≤ 2000 := by omega
    go_enter Tryz.func14, Tryz.ntmps14
    go_upto_region 1 with fail
    rw [← hw1, ← hb2]
    clear hw1 hb2
    go_wp2_with fail
    refine (clone_any l _ w1 HV.out (by rw [← HN.out]; omega)).mono ?_
    rintro e w2 ⟨x, rfl, hI, hb⟩
    have hI2 : OwnI w2 w1.heap.size x l := hI
    obtain ⟨a3, c3, rfl, _, _⟩ := own_slice hI2
    rw [← HN.out] at hI2 ⊢
    have HO := Lib.hid hI2
    have X22 := Lib.hid (X2.out.on hb)
    have HB2 := Lib.hid (bch HB.out hb)
    have HS : Hid (w1.heap.size ≤ w2.heap.size) := Lib.hid hb.size
    have HG : Hid (b2 < w1.heap.size) := Lib.hid X2.out.lt
    clear hI hI2 hb
    go_wp2_with fail
    refine (sort_u l w1.heap.size n a3 c3 w2 HN.out HO.out HX.out HS.out (by rw [← HN.out]; omega)).mono ?_
    rintro e w3 ⟨rfl, S, hp, hs, hI, hb⟩
    have X23 := Lib.hid (X22.out.below hb HG.out)
    have HB3 : Hid (Below w.heap.size w w3) := Lib.hid (HB2.out.trans (hb.mono HB.out.size))
    have hts := trees_sorted hp hs
    obtain ⟨ok, hok⟩ : ∃ z, z = treesB l := ⟨_, rfl⟩
    rw [← hok] at hts
    have HTB := Lib.hid hok
    have HVS : Hid (ok = validT S) := Lib.hid hts.1.symm
    have HSE := Lib.hid hts.2
    have HIS := Lib.hid hI
    have HXS : Hid (∀ x ∈ S, x.path.length ≤ 140737488355328) := Lib.hid (fun x h => HX.out x (hp.mem_iff.1 h))
    have HPL : Hid (S.length = n) := Lib.hid (by rw [hp.length_eq]; exact HN.out.symm)
    clear hp hs hI hb hts hok
    go_wp2_with fail
    refine (tvalid_is S ok HVS.out _ w3 HIS.out.rd HXS.out (HT.out.on HB3.out)).mono ?_
    rintro e w4 ⟨rfl, hb⟩
    have X24 := Lib.hid (X23.out.on hb)
    have HB4 := Lib.hid (bch HB3.out hb)
    have HI4 := Lib.hid (HIS.out.on hb)
    clear hb
    cases ok with
    | true =>
      have HF : Hid (ofL l = S) := Lib.hid (by unfold ofL; rw [← HTB.out, if_pos rfl]; exact (HSE.out rfl).symm)
      have bx := b24x a3 n c3
      go_wp2_with (first
        | (refine wpList_store_row rfl 24 (.tmp 2) (.tmp 18) rfl b2 #[.slice a3 n c3] rfl rfl 24 _ X24.out (info24 _) rfl (slice_one _ _ _) ?_)
        | fail)
      exact bodyPost_ret (end_tree2 rfl _ (X24.out.row _) rfl rfl) rfl ⟨a3, n, c3, by rw [← HTB.out]; rfl, by rw [HF.out]; exact HPL.out.symm, by rw [HF.out]; exact own_base (own_row HI4.out X24.out) HB.out.size, below_row HB4.out H2.out _⟩
    | false =>
      have HF : Hid (ofL l = []) := Lib.hid (by unfold ofL; rw [← HTB.out]; rfl)
      go_wp2_with (first
        | (refine wpList_store_row rfl 24 (.tmp 2) (.tmp 16) rfl b2 #[.slice none 0 0] rfl rfl 24 _ X24.out (info24 _) rfl (slice_one _ _ _) ?_)
        | fail)
      exact bodyPost_ret (end_tree2 rfl _ (X24.out.row _) rfl rfl) rfl ⟨none, 0, 0, by rw [← HTB.out]; rfl, by rw [HF.out]; rfl, by rw [HF.out]; exact World.ownsRow_nil _ _ _ _, below_row HB4.out H2.out _⟩
end Go.Proofs.YtjbbnecegomkcaaGreatDoor

namespace Go.Proofs.YtjbbnecegomkcaaGreatDoor
open Go.RowKit Go.Shelf Go.Lib
open Go.Sort hiding Below

instance : Inhabited It := ⟨.nil⟩
theorem flatK_it (d : Array It) : (flatK It.cells 3 d).toList = flatI d.toList := by
  apply List.ext_getElem?
  intro t
  by_cases ht : t < d.size * 3
  · obtain ⟨q, r, hr, rfl⟩ : ∃ q r, r < 3 ∧ t = q * 3 + r := ⟨t / 3, t % 3, by omega, by omega⟩
    have hq : q < d.size := by omega
    rw [flat3 _ q r hr, Array.getElem?_toList]
    have h1 : (flatK It.cells 3 d)[q * 3 + r]? = some (flatK It.cells 3 d)[q * 3 + r]! := by
      rw [getElem!_pos _ _ (by rw [size_flatK]; exact ht)]
      exact Array.getElem?_eq_getElem _
    rw [h1, get_flatK _ _ _ _ ht, show (q * 3 + r) / 3 = q by omega, show (q * 3 + r) % 3 = r by omega, Array.getElem?_toList, Array.getElem?_eq_getElem hq, getElem!_pos d q hq]
    show some (((d[q]).cells)[r]!) = ((d[q]).cells)[r]?
    have h2 : r < ((d[q]).cells).length := hr
    rw [getElem!_pos ((d[q]).cells) r h2, List.getElem?_eq_getElem h2]
  · rw [List.getElem?_eq_none (by rw [Array.length_toList, size_flatK]; omega), List.getElem?_eq_none (by rw [flatI_len, Array.length_toList]; omega)]
theorem put_list (cur F : Array Value) (h : F.size ≤ cur.size) : (putCells id 0 F cur).toList = F.toList ++ cur.toList.drop F.size := by
  apply List.ext_getElem?
  intro j
  by_cases hj : j < F.size
  · rw [List.getElem?_append_left (by simpa using hj), Array.getElem?_toList]
    simp [putCells, hj, show j < cur.size by omega]
  · rw [List.getElem?_append_right (by simpa using hj), Array.getElem?_toList, List.getElem?_drop, Array.length_toList, Array.getElem?_toList]
    simp only [putCells, Array.getElem?_mapIdx]
    rw [show F.size + (j - F.size) = j by omega]
    cases h2 : cur[j]? with
    | none => rfl
    | some v => simp [hj]
theorem heap_put {w : World} {g n : Nat} {cur : Array Value} {e : TypeId} {fr : Nat × Nat} (d : Array It) (hb : w.heap[g]? = some (.cells cur e fr)) :
    (putRowK It.cells 3 (Sort.ahead w n) g 0 d).heap[g]? = some (.cells (putCells id 0 (flatK It.cells 3 d) cur) e fr) := by
  unfold putRowK
  simp [putRow, mapBlock, Sort.ahead, Array.getElem?_modify, hb, onCells]
theorem below_put {w : World} {B g n : Nat} (d : Array It) (hB : B ≤ g) : Below B w (putRowK It.cells 3 (Sort.ahead w n) g 0 d) := by
  unfold putRowK
  refine ⟨rfl, rfl, rfl, by simp [putRow, mapBlock, Sort.ahead], fun k hk => ?_⟩
  have : g ≠ k := by omega
  simp [putRow, mapBlock, Sort.ahead, Array.getElem?_modify, this]
/-- A row whose first items are turned round. -/
def turnL (l : List It) (k : Nat) : List It := (l.take k).reverse ++ l.drop k
theorem turn_perm (l : List It) (k : Nat) : (turnL l k).Perm l := by
  unfold turnL
  refine (List.Perm.append_right _ (List.reverse_perm _)).trans ?_
  rw [List.take_append_drop]
theorem turn_len (l : List It) (k : Nat) : (turnL l k).length = l.length := (turn_perm l k).length_eq
theorem rev_any (l : List It) (B g n c k : Nat) (w : World) (hn : n = l.length) (ho : OwnI w B (.slice (some ⟨g, 0, none⟩) n c) l) (hk : k ≤ n) (hl : l.length ≤ 1000000) :
    Calls Tryz.prog 37 #[.slice (some ⟨g, 0, none⟩) k c] w fun e w' => e = .returned (.tuple #[]) ∧ OwnI w' B (.slice (some ⟨g, 0, none⟩) n c) (turnL l k) ∧ Below B w w' := by
  have hO : w.ownsRow B 33 3 (.slice (some ⟨g, 0, none⟩) n c) n (flatI l) := by subst hn; exact ho
  obtain ⟨d, hd⟩ : ∃ z, z = (l.take k).toArray := ⟨_, rfl⟩
  have hds : d.size = k := by rw [hd, List.size_toArray, List.length_take]; omega
  have hdl : d.toList = l.take k := by rw [hd]
  have hH : HoldsK It.cells 3 w g 0 d := by
    intro j hj
    rw [size_flatK, hds] at hj
    refine ⟨?_, by rw [Nat.zero_add]; exact hO.frozenAt j⟩
    rw [Nat.zero_add, hO.cellAt j (by omega)]
    have h1 : (flatI l)[j]? = (flatK It.cells 3 d).toList[j]? := by
      rw [flatK_it, hdl, flatI_take, List.getElem?_take_of_lt hj]
    rw [h1, Array.getElem?_toList]
    show _ = some (id _)
    rw [id, getElem!_pos _ _ (by rw [size_flatK, hds]; exact hj)]
    exact Array.getElem?_eq_getElem _
  have hc := AnyQ.slices_Reverse Tryz.revItems 3 Tryz.isAgg33 Tryz.sizeOf33 It.cells (fun _ => rfl) it_one g 0 c d w hH (by omega)
  change Calls Tryz.prog 37 _ _ _ at hc
  rw [hds] at hc
  refine hc.mono ?_
  rintro e w' ⟨rfl, q, rfl⟩
  rcases hO.2 with ⟨h', _⟩ | ⟨g', c', cur, h', hB, hg, hnc, hcm, hcs, htk⟩
  · simp at h'
  · simp only [Value.slice.injEq, Option.some.injEq, Addr.mk.injEq, and_true, true_and] at h'
    obtain ⟨rfl, rfl⟩ := h'
    refine ⟨rfl, ?_, below_put _ hB⟩
    have hsz : (flatK It.cells 3 d.reverse).size = k * 3 := by rw [size_flatK, Array.size_reverse, hds]
    unfold OwnI
    rw [turn_len, ← hn]
    refine ⟨by rw [flatI_len, turn_len, hn], .inr ⟨g, c, _, rfl, hB, heap_put d.reverse hg, hnc, hcm, by simp [putCells, hcs], ?_⟩⟩
    have hle : k * 3 ≤ n * 3 := by omega
    rw [put_list _ _ (by rw [hsz, hcs]; omega), hsz, flatK_it, Array.toList_reverse, hdl]
    unfold turnL
    rw [flatI_append, List.take_append, flatI_len, List.length_reverse, List.length_take]
    rw [List.take_of_length_le (by rw [flatI_len, List.length_reverse, List.length_take]; omega)]
    congr 1
    rw [show min k l.length = k by omega, List.take_drop, show k * 3 + (n * 3 - k * 3) = n * 3 by omega, htk]
    rw [show l.drop k = l.drop k from rfl]
    have : flatI l = flatI (l.take k) ++ flatI (l.drop k) := by rw [← flatI_append, List.take_append_drop]
    rw [this, List.drop_append, flatI_len, List.length_take, show min k l.length = k by omega]
    simp [flatI_len, List.length_take]
    omega
theorem rev_none (a : Option Addr) (c : Nat) (w : World) : Calls Tryz.prog 37 #[.slice a 0 c] w fun e w' => e = .returned (.tuple #[]) ∧ w' = w := AnyQ.slices_Reverse_empty Tryz.revItems a c w
end Go.Proofs.YtjbbnecegomkcaaGreatDoor

namespace Go.Proofs.YtjbbnecegomkcaaGreatDoor
open Go.RowKit Go.Shelf Go.Maps

set_option maxHeartbeats 2000000 in
theorem rbase_any (p : ByteArray) (hp : p.size ≤ 2000000) (hv : validB p.data.toList = true) (h0 : namesL p.data.toList ≠ []) (w : World) : Calls Tryz.prog 47 #[.string p] w fun e w' => e = .returned (.string ⟨(baseL p.data.toList).toArray⟩) ∧ Below w.heap.size w w' := by
  obtain ⟨n, hn⟩ : ∃ n, (namesL p.data.toList).length = n := ⟨_, rfl⟩
  have hn0 : 0 < n := by have := List.length_pos_iff.2 h0; omega
  obtain ⟨x, hx⟩ : ∃ x, (namesL p.data.toList)[n - 1]? = some x := ⟨_, List.getElem?_eq_getElem (by omega)⟩
  have e : baseL p.data.toList = x := by
    rw [baseL, if_pos hv, List.getLast?_eq_getElem?, hn, hx]; rfl
  rw [e]
  have HV := Lib.hid hv
  have hpb := (valid_join _ hv).2
  have hn40 : n ≤ 40 := by have := ((parts_iff _).1 hpb).1; omega
  have HN := Lib.hid hn
  have HX := Lib.hid hx
  have d0 : ((n : Int) == 0) = false := by rw [beq_eq_false_iff_ne]; omega
  have q1 : IntKind.i64.wrap ((n : Int) - 1) = ((n - 1 : Nat) : Int) := by rw [IntWalk.i64_in _ (by omega)]; omega
  have q2 : (0 : Int) ≤ ((n - 1 : Nat) : Int) := by omega
  have q3 : ((n - 1 : Nat) : Int) < (n : Int) := by omega
  clear hv h0 e hpb hn hx
  go_enter Tryz.func47, Tryz.ntmps47
  go_wp2_with fail
  refine ((rnames_any p hp _).1 HV.out).mono ?_
  rintro e w1 ⟨v, rfl, hr, hb⟩
  obtain ⟨a, cap, rfl, hc1, hc2, hc⟩ := hr
  obtain ⟨g, o, rfl, hg, hc⟩ := hc (by have := HN.out; omega)
  rw [HN.out]
  have p1 := hc (n - 1) x HX.out
  clear hc hc1 hc2 hg
  go_wp2
  go_ret
  exact ⟨rfl, hb⟩

theorem kL_one (l : List It) (q : Str) {k : Nat} {x : It} (h : l[k]? = some x) : kL q (l.take (k + 1)) = kL q (l.take k) ++ (if upL x.path = q then [baseL x.path] else []) := by
  rw [List.take_add_one, h, Option.toList_some]
  by_cases e : upL x.path = q
  · rw [kL_snoc_yes e, if_pos e]
  · rw [kL_snoc_no e, if_neg e, List.append_nil]
def KidsO (l : List It) (q : Str) (w : World) (e : Ending) (w' : World) : Prop := ∃ a n c, e = .returned (.slice a n c) ∧ n = (kL q l).length ∧ w'.ownsRow w.heap.size 9 1 (.slice a n c) n ((kL q l).map encS) ∧ Below w.heap.size w w'
set_option maxRecDepth 100000 in
set_option maxHeartbeats 8000000 in
theorem rkids_any (l : List It) (v : Value) (q : Str) (w : World) (hv : RdI w v l) (h : TreeOk l) : Calls Tryz.prog 22 #[.agg #[v], .string ⟨q.toArray⟩] w (KidsO l q w) := by
  obtain ⟨w1, hw1⟩ : ∃ z, z = w.alloc (.cells #[v] 24) := ⟨_, rfl⟩
  have X : Hid (Box w1 w.heap.size 24 #[v]) := Lib.hid (by rw [hw1]; exact box_new)
  have HB1 : Hid (Below w.heap.size w w1) := Lib.hid (by rw [hw1]; exact below_new _ _)
  have HV := Lib.hid (hv.on HB1.out)
  obtain ⟨a, c, rfl, hlc, hcm, _⟩ := hv.open
  obtain ⟨n, hn⟩ : ∃ n, n = l.length := ⟨_, rfl⟩
  have hl := h.many
  rw [← hn] at HV X hlc hw1 hl ⊢
  have HN := Lib.hid hn
  have HOK := Lib.hid h
  have c0 := X.out.cell (k := 0) rfl
  obtain ⟨i0, hi, hz0, hz1, hz2⟩ := info_parts info9
  have OS0 : Hid (w1.ownsRow w1.heap.size 9 1 (.slice none 0 0) 0 []) := Lib.hid (World.ownsRow_nil _ _ _ _)
  clear hv hn h
  unfold maxLen at hcm
  go_enter Tryz.func22, Tryz.ntmps22
  go_upto_region 1 with fail
  rw [← hw1]
  clear hw1
  go_wp2_with fail
  clear c0
  go_loopw [5, 11] (fun s i W => ∃ (k m : Nat) (a3 : Option Addr) (c3 : Nat), s = .slice a3 m c3 ∧ k ≤ n ∧ i = .int .i64 k ∧ Hid (m = (kL q (l.take k)).length) ∧ Hid (W.ownsRow w1.heap.size 9 1 (.slice a3 m c3) m ((kL q (l.take k)).map encS)) ∧ Hid (Below w1.heap.size w1 W)) (fun s i _ => n - (Lib.intOf i).toNat)
  case atStart => exact ⟨0, 0, none, 0, rfl, Nat.zero_le _, rfl, Lib.hid rfl, OS0, Lib.hid (Below.refl _ _)⟩
  case round =>
    clear OS0
    obtain ⟨k, m, a3, c3, rfl, hk, rfl, HM, HO, HBk⟩ := hrel
    obtain ⟨wq, hwq⟩ : ∃ q, q = wr := ⟨_, rfl⟩
    rw [← hwq] at HBk HO ⊢
    clear hwq
    have hmb : m ≤ 2000 := by
      have := kL_len q (l.take k)
      rw [HM.out]
      rw [List.length_take] at this
      have := HN.out
      omega
    by_cases hlt : k < n
    · obtain ⟨x, hx⟩ : ∃ x, l[k]? = some x := ⟨_, List.getElem?_eq_getElem (by rw [← HN.out]; exact hlt)⟩
      obtain ⟨a', c', e, _, _, hc⟩ := (HV.out.on HBk.out).open
      rw [← HN.out] at e
      cases e
      obtain ⟨g, o, rfl, hg, hc⟩ := hc (by rw [← HN.out]; omega)
      obtain ⟨q0, q1, q2⟩ := hc k x hx
      have k1 : (k : Int) < (n : Int) := by omega
      have k2 : (0 : Int) ≤ (k : Int) := by omega
      have k4 : IntKind.i64.wrap ((k : Int) + 1) = (k : Int) + 1 := IntWalk.i64_in _ (by omega)
      obtain ⟨w5, hw5⟩ : ∃ q, q = wq.alloc (.cells #[.string ⟨x.path.toArray⟩, .int .i64 x.kind, .string ⟨x.data.toArray⟩] 33) := ⟨_, rfl⟩
      have hb5 : Below wq.heap.size wq w5 := by rw [hw5]; exact below_new _ _
      have HX5 : Hid (Box w5 wq.heap.size 33 x.arr) := Lib.hid (by rw [hw5]; exact box_new)
      have HB5 : Hid (Below w1.heap.size w1 w5) := Lib.hid (bch HBk.out hb5)
      replace HO := Lib.hid (ownR_below HO.out hb5)
      obtain ⟨u, hu⟩ : ∃ u, u = upL x.path := ⟨_, rfl⟩
      obtain ⟨y, hy⟩ : ∃ y, y = baseL x.path := ⟨_, rfl⟩
      have hkd := (HOK.out.kid x (List.mem_of_getElem? hx)).1
      have hxs : (⟨x.path.toArray⟩ : ByteArray).size ≤ 2000000 := by
        show x.path.toArray.size ≤ _
        rw [List.size_toArray]
        exact Nat.le_trans (valid_len x.path hkd.1) (by decide)
      have HUP : Hid (∀ W, Calls Tryz.prog 41 #[.string ⟨x.path.toArray⟩] W fun e w' => e = .returned (.string ⟨u.toArray⟩) ∧ Below W.heap.size W w') := Lib.hid (fun W => by rw [hu]; exact rup_any ⟨x.path.toArray⟩ hxs W)
      have HBA : Hid (∀ W, Calls Tryz.prog 47 #[.string ⟨x.path.toArray⟩] W fun e w' => e = .returned (.string ⟨y.toArray⟩) ∧ Below W.heap.size W w') := Lib.hid (fun W => by rw [hy]; exact rbase_any ⟨x.path.toArray⟩ hxs hkd.1 (fun e => hkd.2.1 ((names_root _ hkd.1).1 e)) W)
      have HKL : Hid (kL q (l.take (k + 1)) = kL q (l.take k) ++ (if u = q then [y] else [])) := Lib.hid (by rw [hu, hy]; exact kL_one l q hx)
      clear hc hx hb5 hg hu hy hkd hxs
      go_upto_region 5 with fail
      obtain ⟨b7, hb7⟩ : ∃ q, q = wq.heap.size := ⟨_, rfl⟩
      rw [← hb7] at HX5 ⊢
      rw [← hw5]
      clear hw5 hb7 q0 q1 q2 HBk
      have d0 := HX5.out.it.c0
      go_wp2_with fail
      refine (HUP.out _).mono ?_
      rintro e w6 ⟨rfl, hb⟩
      have HX6 := Lib.hid (HX5.out.on hb)
      have HB6 := Lib.hid (bch HB5.out hb)
      have HO6 := Lib.hid (ownR_below HO.out hb)
      clear hb d0 HO HUP
      by_cases he : u = q
      · have t1 : (u == q) = true := by simp [he]
        have HR : Hid (kL q (l.take (k + 1)) = kL q (l.take k) ++ [y]) := Lib.hid (by rw [HKL.out, if_pos he])
        clear he
        have d0 := HX6.out.it.c0
        go_wp2_with fail
        refine (HBA.out _).mono ?_
        rintro e w7 ⟨rfl, hb⟩
        have HB7 := Lib.hid (bch HB6.out hb)
        have HO7 := Lib.hid (ownR_below HO6.out hb)
        have HBQ : Hid (∀ z, (Value.slice a3 m c3).ownBlock = some z → w1.heap.size ≤ z) := Lib.hid (fun z hz => (ownR_blk HO7.out hz).1)
        have hws : w1.heap.size ≤ w7.heap.size := HB7.out.size
        clear hb d0 HO6
        go_wp2_with (at_builtin; refine wpList_append_own _ rfl _ _ 41 rfl w1.heap.size 9 i0 (.string ⟨#[]⟩) 1 16 Tryz.underlying41 hi hz0 hz1 hz2 rfl (by decide) _ _ _ rfl (HO7.out.alloc _) ⟨w7.heap.size, 0, none⟩ 1 1 [.string ⟨y.toArray⟩] rfl rfl (cell_one_new _ _ _) (by simp [Value.oneCell']) (by unfold maxLen; omega) (by omega) (by simp; omega) ?_)
        intro v9 w9 hown9 hgrow9 _
        have HB9 : Hid (Below w1.heap.size w1 w9) := Lib.hid ((HB7.out.alloc hws _).grown hgrow9 (by simp; omega) HBQ.out)
        obtain ⟨g9, c9, rfl⟩ := ownsRow_succ hown9
        have HO9 := Lib.hid hown9
        clear hown9 hgrow9
        go_wp2_with fail
        go_roundw
        case rel => exact ⟨k + 1, m + 1, _, _, rfl, hlt, by go_num, Lib.hid (by rw [HR.out, List.length_append, ← HM.out]; rfl), Lib.hid (by rw [HR.out, List.map_append]; exact HO9.out), HB9⟩
        case measure => simp [Lib.intOf]; omega
      · have t1 : (u == q) = false := by simp [he]
        have HR : Hid (kL q (l.take (k + 1)) = kL q (l.take k)) := Lib.hid (by rw [HKL.out, if_neg he, List.append_nil])
        clear he
        go_wp2_with fail
        go_roundw
        case rel => exact ⟨k + 1, m, _, _, rfl, hlt, by go_num, Lib.hid (by rw [HR.out]; exact HM.out), Lib.hid (by rw [HR.out]; exact HO6.out), HB6⟩
        case measure => simp [Lib.intOf]; omega
    · have k1 : ¬ ((k : Int) < (n : Int)) := by omega
      have HR : Hid (kL q (l.take k) = kL q l) := Lib.hid (by rw [List.take_of_length_le (by have := HN.out; omega)])
      go_wp2_with fail
      go_ret
      exact ⟨a3, m, c3, rfl, by rw [← HR.out]; exact HM.out, by rw [← HR.out]; exact own_base HO.out HB1.out.size, bch HB1.out HBk.out⟩

end Go.Proofs.YtjbbnecegomkcaaGreatDoor

namespace Go.Proofs.YtjbbnecegomkcaaGreatDoor
open Go.RowKit Go.Shelf Go.Maps
attribute [local go_sem] Oper.semAt_some
def NilR (w : World) (e : Ending) (w' : World) : Prop := e = .returned (.slice none 0 0) ∧ Below w.heap.size w w'
set_option maxRecDepth 100000 in
set_option maxHeartbeats 4000000 in
theorem below_no (l : List It) (v : Value) (p : Str) (w : World) (hv : RdI w v l) (h : validT l = false) (hx : ∀ x ∈ l, x.path.length ≤ 140737488355328) (hT : Tabs w) :
    Calls Tryz.prog 24 #[.agg #[v], .string ⟨p.toArray⟩] w (NilR w) := by
  refine (callsIn_wide (n := 5)).1 ?_
  obtain ⟨w1, hw1⟩ : ∃ z, z = w.alloc (.cells #[v] 24) := ⟨_, rfl⟩
  obtain ⟨b2, hb2⟩ : ∃ z, z = w.heap.size := ⟨_, rfl⟩
  have HB1 : Hid (Below w.heap.size w w1) := Lib.hid (by rw [hw1]; exact below_new _ _)
  have X1 : Hid (Box w1 b2 24 #[v]) := Lib.hid (by rw [hw1, hb2]; exact box_new)
  have HVA := Lib.hid (tvalid_is l false h.symm v w1 (hv.on HB1.out) hx (hT.on HB1.out))
  obtain ⟨a, c, rfl, _⟩ := hv.open
  obtain ⟨n, hn⟩ : ∃ n, n = l.length := ⟨_, rfl⟩
  rw [← hn] at hw1 X1 HVA ⊢
  have HW1 := Lib.hid hw1
  have HB2 := Lib.hid hb2
  have c0 : (w.alloc (.cells #[.slice a n c] 24)).cell? ⟨w.heap.size, 0, none⟩ = some (.slice a n c) := by rw [← hw1, ← hb2]; exact X1.out.cell (k := 0) rfl
  clear hv h hT hw1 hb2 hn hx
  refine callsIn_of_wp_marks Tryz.func24 rfl trivial ?_ rfl
  simp only [Tryz.ntmps24, List.size_toArray, List.length_cons, List.length_nil, Nat.reduceAdd, Nat.reduceSub, Array.replicate_succ, Array.replicate_zero, List.push_toArray, List.append_toArray, List.nil_append, List.cons_append]
  gi_wp2_with (first | (refine ⟨trivial, ?_⟩; gi_at_call 38; rw [← HW1.out, ← HB2.out]; refine (callsIn_wide.2 HVA.out).mono ?_; rintro e w2 ⟨rfl, hb⟩; have HB3 := Lib.hid (bch HB1.out hb); clear hb c0))
  refine ⟨.slice none 0 0, ?_, ?_⟩
  · simp [results, Tryz.f24, go_sem]
  · exact ⟨rfl, HB3.out⟩
set_option maxRecDepth 100000 in
set_option maxHeartbeats 4000000 in
theorem kids_no (l : List It) (v : Value) (p : Str) (w : World) (hv : RdI w v l) (h : validT l = false) (hx : ∀ x ∈ l, x.path.length ≤ 140737488355328) (hT : Tabs w) :
    Calls Tryz.prog 26 #[.agg #[v], .string ⟨p.toArray⟩] w (NilR w) := by
  refine (callsIn_wide (n := 5)).1 ?_
  obtain ⟨w1, hw1⟩ : ∃ z, z = (w.alloc (.cells #[v] 24)).alloc (.cells #[.string ⟨p.toArray⟩] 9) := ⟨_, rfl⟩
  obtain ⟨b2, hb2⟩ : ∃ z, z = w.heap.size := ⟨_, rfl⟩
  have HB1 : Hid (Below w.heap.size w w1) := Lib.hid (by rw [hw1]; exact bch (below_new _ _) (below_new _ _))
  have X1 : Hid (Box w1 b2 24 #[v]) := Lib.hid (by rw [hw1, hb2]; exact box_new.alloc _)
  obtain ⟨b3, hb3⟩ : ∃ z, z = w.heap.size + 1 := ⟨_, rfl⟩
  have HB3e := Lib.hid hb3
  have HVA := Lib.hid (tvalid_is l false h.symm v w1 (hv.on HB1.out) hx (hT.on HB1.out))
  obtain ⟨a, c, rfl, _⟩ := hv.open
  obtain ⟨n, hn⟩ : ∃ n, n = l.length := ⟨_, rfl⟩
  rw [← hn] at hw1 X1 HVA ⊢
  have HW1 := Lib.hid hw1
  have HB2 := Lib.hid hb2
  have c0 : ((w.alloc (.cells #[.slice a n c] 24)).alloc (.cells #[.string ⟨p.toArray⟩] 9)).cell? ⟨w.heap.size, 0, none⟩ = some (.slice a n c) := by rw [← hw1, ← hb2]; exact X1.out.cell (k := 0) rfl
  clear hv h hT hw1 hb2 hn hx
  refine callsIn_of_wp_marks Tryz.func26 rfl trivial ?_ rfl
  simp only [Tryz.ntmps26, List.size_toArray, List.length_cons, List.length_nil, Nat.reduceAdd, Nat.reduceSub, Array.replicate_succ, Array.replicate_zero, List.push_toArray, List.append_toArray, List.nil_append, List.cons_append]
  gi_wp2_with (first | (refine ⟨trivial, ?_⟩; gi_at_call 38; rw [← HW1.out, ← HB2.out]; refine (callsIn_wide.2 HVA.out).mono ?_; rintro e w2 ⟨rfl, hb⟩; have HB3 := Lib.hid (bch HB1.out hb); clear hb c0))
  refine ⟨.slice none 0 0, ?_, ?_⟩
  · simp [results, Tryz.f26, go_sem]
  · exact ⟨rfl, HB3.out⟩

/-- What Below and Kids hand back. -/
def belT (l : List It) (p : Str) : List It := if validT l = true then belowL l p else []
def kidT (l : List It) (p : Str) : List Str := if validT l = true then kL p (belowL l p) else []
def BelU (l : List It) (p : Str) (w : World) (e : Ending) (w' : World) : Prop := ∃ a n c, e = .returned (.slice a n c) ∧ n = (belT l p).length ∧ OwnI w' w.heap.size (.slice a n c) (belT l p) ∧ Below w.heap.size w w'
def KidU (l : List It) (p : Str) (w : World) (e : Ending) (w' : World) : Prop := ∃ a n c, e = .returned (.slice a n c) ∧ n = (kidT l p).length ∧ w'.ownsRow w.heap.size 9 1 (.slice a n c) n ((kidT l p).map encS) ∧ Below w.heap.size w w'
theorem below_u (B : Nat) (l : List It) (v : Value) (p : Str) (w : World) (ho : OwnI w B v l) (hx : ∀ x ∈ l, x.path.length ≤ 140737488355328) (hp : p.length ≤ 140737488355328) (hT : Tabs w) :
    Calls Tryz.prog 24 #[.agg #[v], .string ⟨p.toArray⟩] w (BelU l p w) := by
  by_cases h : validT l = true
  · refine (below_any B l v p w ho (tree_ok h) hp hT).mono ?_
    rintro e w' ⟨x, rfl, hI, hb⟩
    obtain ⟨a, c, rfl, _⟩ := own_slice hI
    unfold BelU belT
    rw [if_pos h]
    exact ⟨a, _, c, rfl, rfl, hI, hb⟩
  · refine (below_no l v p w ho.rd (by simpa using h) hx hT).mono ?_
    rintro e w' ⟨rfl, hb⟩
    unfold BelU belT
    rw [if_neg h]
    exact ⟨none, 0, 0, rfl, rfl, World.ownsRow_nil _ _ _ _, hb⟩
theorem ownsS_slice {w : World} {B : Nat} {v : Value} {l : List Str} (h : w.ownsRow B 9 1 v l.length (l.map encS)) : ∃ a c, v = .slice a l.length c := by
  rcases h.2 with ⟨rfl, h0⟩ | ⟨g, c, cur, rfl, _⟩
  · exact ⟨none, 0, by rw [h0]⟩
  · exact ⟨_, _, rfl⟩
theorem kids_u (B : Nat) (l : List It) (v : Value) (p : Str) (w : World) (ho : OwnI w B v l) (hx : ∀ x ∈ l, x.path.length ≤ 140737488355328) (hp : p.length ≤ 140737488355328) (hT : Tabs w) :
    Calls Tryz.prog 26 #[.agg #[v], .string ⟨p.toArray⟩] w (KidU l p w) := by
  by_cases h : validT l = true
  · refine (kids_any B l v p w ho (tree_ok h) hp hT).mono ?_
    rintro e w' ⟨x, rfl, hI, hb⟩
    obtain ⟨a, c, rfl⟩ := ownsS_slice hI
    unfold KidU kidT
    rw [if_pos h]
    exact ⟨a, _, c, rfl, rfl, hI, hb⟩
  · refine (kids_no l v p w ho.rd (by simpa using h) hx hT).mono ?_
    rintro e w' ⟨rfl, hb⟩
    unfold KidU kidT
    rw [if_neg h]
    exact ⟨none, 0, 0, rfl, rfl, World.ownsRow_nil _ _ _ _, hb⟩
theorem under_no {a p : Str} (h : validB p = false) : underB a p = false := by
  cases e : underB a p with
  | false => rfl
  | true => rw [(under_form e).2.1] at h; cases h
/-- What the reference asks, where the path is one. -/
theorem tells_yes {l : List It} {p : Str} (h : validT l = true) : refG l p = ((getT l p).getD .nil, (getT l p).isSome) ∧ belowR l p = belT l p ∧ kL p l = kidT l p := by
  have ht := tree_ok h
  refine ⟨?_, ?_, ?_⟩
  · unfold refG getT getI
    rw [if_pos h]
    by_cases e : p = [47]
    · rw [if_pos e, if_pos e]; rfl
    · rw [if_neg e, if_neg e]
      cases l.find? (fun x => x.path == p) <;> rfl
  · unfold belT
    rw [if_pos h, below_is (srt_of ht)]
  · unfold kidT
    rw [if_pos h, ← below_is (srt_of ht)]
    unfold kL belowR
    rw [List.filter_filter]
    congr 1
    refine List.filter_congr fun x hx => ?_
    have hk := (ht.kid x hx).1
    by_cases e : upL x.path = p
    · have hu : Kid p x.path := by rw [← e]; exact hk
      have h9 : ¬ x.path = p := fun e2 => hu.ne e2.symm
      simp [e, hu.under, h9]
    · simp [e]
theorem tells_no {l : List It} {p : Str} (h : validT l = false ∨ validB p = false) : getT l p = none ∧ belT l p = [] ∧ kidT l p = [] := by
  by_cases hv : validT l = true
  · have hp : validB p = false := h.resolve_left (by simp [hv])
    have ht := tree_ok hv
    have hb : belowL l p = [] := by
      rw [← below_is (srt_of ht)]
      unfold belowR
      rw [List.filter_eq_nil_iff]
      intro x _
      simp [under_no hp]
    refine ⟨?_, ?_, ?_⟩
    · unfold getT getI
      rw [if_pos hv, if_neg (fun e => by rw [e, validB_root] at hp; cases hp), List.find?_eq_none]
      intro x hx
      have := (ht.kid x hx).1.1
      simp only [beq_iff_eq]
      intro e
      rw [e, hp] at this
      cases this
    · unfold belT; rw [if_pos hv, hb]
    · unfold kidT; rw [if_pos hv, hb]; rfl
  · unfold getT belT kidT
    rw [if_neg hv, if_neg hv, if_neg hv]
    exact ⟨rfl, rfl, rfl⟩
end Go.Proofs.YtjbbnecegomkcaaGreatDoor

namespace Go.Proofs.YtjbbnecegomkcaaGreatDoor
open Go.RowKit Go.Shelf

theorem few_self {l : List It} (h : l.length ≤ 120) : fewL l = l := by
  unfold fewL
  rw [if_neg (by omega), List.take_of_length_le h]
theorem few_few (l : List It) : fewL (fewL l) = fewL l := by
  by_cases h : 2000 < l.length
  · have e : fewL l = l.take 2001 := by unfold fewL; rw [if_pos h]
    rw [e]
    unfold fewL
    rw [if_pos (by rw [List.length_take]; omega), List.take_take, Nat.min_self]
  · exact few_self (by unfold fewL; rw [if_neg h, List.length_take]; omega)
theorem few_mem {l : List It} {x : It} (h : x ∈ fewL l) : x ∈ l := by
  unfold fewL at h
  split at h
  · exact List.mem_of_mem_take h
  · exact List.mem_of_mem_take h
theorem few_2001 (l : List It) : (fewL l).length ≤ 2001 := by
  unfold fewL
  split <;> rw [List.length_take] <;> omega
set_option maxHeartbeats 1000000 in
theorem tcheck_any (l : List It) (v : Value) (w : World) (hv : RdI w v l) (hx : ∀ x ∈ l, x.path.length ≤ 140737488355328) (hT : Tabs w) : Calls Tryz.prog 10 #[.agg #[v]] w fun e w' => e = .returned (.int .i64 (errT (validT l))) ∧ Below w.heap.size w w' := by
  obtain ⟨w1, hw1⟩ : ∃ z, z = w.alloc (.cells #[v] 24) := ⟨_, rfl⟩
  obtain ⟨bX, hbX⟩ : ∃ z, z = w.heap.size := ⟨_, rfl⟩
  have XX : Hid (Box w1 bX 24 #[v]) := Lib.hid (by rw [hw1, hbX]; exact box_new)
  have HB : Hid (Below w.heap.size w w1) := Lib.hid (by rw [hw1]; exact below_new _ _)
  obtain ⟨ok, hok⟩ : ∃ z, z = validT l := ⟨_, rfl⟩
  have HV := Lib.hid (tvalid_is l ok hok v w1 (hv.on HB.out) hx (hT.on HB.out))
  rw [← hok]
  obtain ⟨a, c, rfl, _⟩ := hv.open
  obtain ⟨q, hq⟩ : ∃ z, z = l.length := ⟨_, rfl⟩
  rw [← hq] at HV XX hw1 ⊢
  clear hv hx hT hok hq
  go_enter Tryz.func10, Tryz.ntmps10
  go_upto_region 1 with fail
  rw [← hbX, ← hw1]
  clear hw1 hbX
  have p0 := XX.out.cell (k := 0) rfl
  go_wp2_with fail
  refine HV.out.mono ?_
  rintro e w2 ⟨rfl, hb⟩
  cases ok <;> (go_wp2; go_ret; exact ⟨rfl, bch HB.out hb⟩)
/-- A row of texts in memory of its own. -/
def OwnT (w : World) (B : Nat) (v : Value) (S : List Str) : Prop := w.ownsRow B 9 1 v S.length (S.map encS)
theorem OwnT.on {w w' : World} {B : Nat} {v : Value} {S : List Str} (h : OwnT w B v S) (hb : Below w.heap.size w w') : OwnT w' B v S := ownR_below h hb
theorem bel_few {l : List It} (h : l.length ≤ 2001) (p : Str) : (belT l p).length ≤ 2001 := by
  unfold belT
  split
  · have h3 : (belowL l p).length ≤ l.length := ((tw_sub _ _).trans (List.drop_sublist _ _)).length_le
    omega
  · simp
theorem kid_few2 {l : List It} (h : l.length ≤ 2001) (p : Str) : (kidT l p).length ≤ 1000000 := by
  unfold kidT
  split
  · have h2 := kL_len p (belowL l p)
    have h3 : (belowL l p).length ≤ l.length := ((tw_sub _ _).trans (List.drop_sublist _ _)).length_le
    omega
  · simp
theorem bel_mem {l : List It} {p : Str} (h : validT l = true) : ∀ y ∈ belT l p, underB y.path p = true ∧ y.path ≠ p ∧ y ∈ l := by
  intro y hy
  unfold belT at hy
  rw [if_pos h, below_mem (srt_of (tree_ok h))] at hy
  exact ⟨hy.2.1, hy.2.2, hy.1⟩
theorem bel_srt {l : List It} {p : Str} (h : validT l = true) : Srt (belT l p) := by
  unfold belT
  rw [if_pos h]
  exact (srt_of (tree_ok h)).sublist ((tw_sub _ _).trans (List.drop_sublist _ _))
theorem bel_root {l : List It} (h : validT l = true) : belT l [47] = l := by
  unfold belT
  rw [if_pos h, ← below_is (srt_of (tree_ok h))]
  unfold belowR
  refine List.filter_eq_self.2 fun x hx => ?_
  have hk := ((tree_ok h).kid x hx).1
  have h1 : underB x.path [47] = true := under_of hk.1 validB_root (s := namesL x.path) (by rw [show namesL [47] = [] from rfl]; rfl)
  simp [h1, hk.2.1]
theorem srt_next {l : List It} (h : Srt l) {j : Nat} {x y : It} (hx : l[j]? = some x) (hy : l[j + 1]? = some y) : cmpL x.path y.path = -1 := by
  obtain ⟨h1, e1⟩ := List.getElem?_eq_some_iff.1 hx
  obtain ⟨h2, e2⟩ := List.getElem?_eq_some_iff.1 hy
  have h3 := List.pairwise_iff_getElem.1 h j (j + 1) h1 h2 (by omega)
  rw [e1, e2] at h3
  rcases cl_range x.path y.path with h4 | h4 | h4 <;> omega
theorem cell_takeI {w : World} {B g n c k : Nat} {l : List It} (hn : n = l.length) (h : OwnI w B (.slice (some ⟨g, 0, none⟩) n c) l) (hk : k ≤ n) : ∀ j u, (flatI (l.take k))[j]? = some u → w.cell? ⟨g, j, none⟩ = some u := by
  intro j u hj
  have h' : w.ownsRow B 33 3 (.slice (some ⟨g, 0, none⟩) n c) n (flatI l) := by subst hn; exact h
  rw [flatI_take, List.getElem?_take] at hj
  split at hj
  · rename_i hlt
    rw [h'.cellAt j (by omega)]
    exact hj
  · cases hj
theorem rd_dropI {w : World} {B g n c k : Nat} {l : List It} (hn : n = l.length) (h : OwnI w B (.slice (some ⟨g, 0, none⟩) n c) l) (hk : k ≤ n) : RdI w (.slice (some ⟨g, k * 3, none⟩) (n - k) (c - k)) (l.drop k) := by
  have h' : w.ownsRow B 33 3 (.slice (some ⟨g, 0, none⟩) n c) n (flatI l) := by subst hn; exact h
  have hg := (h'.lt g rfl).2
  rcases h'.2 with ⟨h0, _⟩ | ⟨g', c', cur, h0, _, _, hnc, hcm, _⟩
  · simp at h0
  · simp only [Value.slice.injEq, Option.some.injEq, Addr.mk.injEq, and_true, true_and] at h0
    obtain ⟨rfl, rfl⟩ := h0
    have hl : (l.drop k).length = n - k := by rw [List.length_drop, hn]
    unfold RdI
    rw [hl]
    refine ⟨_, _, rfl, by omega, by unfold maxLen at hcm ⊢; omega, fun _ => ⟨g, k * 3, rfl, hg, fun j u hj => ?_⟩⟩
    have hf : flatI l = flatI (l.take k) ++ flatI (l.drop k) := by rw [← flatI_append, List.take_append_drop]
    have hj2 := (List.getElem?_eq_some_iff.1 hj).1
    rw [flatI_len, hl] at hj2
    rw [h'.cellAt (k * 3 + j) (by omega), hf, List.getElem?_append_right (by rw [flatI_len, List.length_take]; omega), flatI_len, List.length_take, show k * 3 + j - min k l.length * 3 = j by omega]
    exact hj
theorem drop_take_perm (l : List It) (k : Nat) : (l.drop k ++ l.take k).Perm l := by
  refine List.perm_append_comm.trans ?_
  rw [List.take_append_drop]
theorem own_some {w : World} {B n : Nat} {v : Value} {xs : List Value} (h : w.ownsRow B 33 3 v n xs) (h0 : 0 < n) : ∃ g c, v = .slice (some ⟨g, 0, none⟩) n c ∧ B ≤ g ∧ g < w.heap.size ∧ n ≤ c ∧ c ≤ maxLen := by
  have hh := h
  rcases h.2 with ⟨_, h1⟩ | ⟨g, c, cur, rfl, hB, hg, hnc, hcm, _⟩
  · omega
  · exact ⟨g, c, rfl, hB, (hh.lt g rfl).2, hnc, hcm⟩
theorem ownR_lt {w : World} {B : Nat} {v : Value} {l : List It} (h : OwnI w B v l) : ∀ k, v.ownBlock = some k → k < w.heap.size := fun k hk => by
  obtain ⟨_, cs, h2⟩ := ownR_blk h hk
  exact (Array.getElem?_eq_some_iff.1 h2).1
theorem own_belowB {w w' : World} {B C : Nat} {v : Value} {l : List It} (h : OwnI w B v l) (hb : Below C w w') (hC : ∀ k, v.ownBlock = some k → k < C) : OwnI w' B v l := ownR_far h fun k hk => hb.block k (hC k hk)
end Go.Proofs.YtjbbnecegomkcaaGreatDoor

namespace Go.Proofs.YtjbbnecegomkcaaGreatDoor
open Go.RowKit Go.Shelf

set_option maxRecDepth 100000 in
set_option maxHeartbeats 16000000 in
theorem kids7_any (l : List It) (v : Value) (p : Str) (z : Int) (w : World) (hv : RdI w v l) (hx : ∀ x ∈ l, x.path.length ≤ 140737488355328) (hp : p.length ≤ 140737488355328) (hT : TabS w) :
    Calls Tryz.prog 7 #[.agg #[v], .string ⟨p.toArray⟩, .int .i64 z] w (EqR true w) := by
  obtain ⟨w1, hw1⟩ : ∃ z, z = w.alloc (.cells #[v] 24) := ⟨_, rfl⟩
  obtain ⟨bX, hbX⟩ : ∃ z, z = w.heap.size := ⟨_, rfl⟩
  have XX : Hid (Box w1 bX 24 #[v]) := Lib.hid (by rw [hw1, hbX]; exact box_new)
  have HB : Hid (Below w.heap.size w w1) := Lib.hid (by rw [hw1]; exact below_new _ _)
  have HV : Hid (RdI w v l) := Lib.hid hv
  obtain ⟨a, c, rfl, _⟩ := hv.open
  obtain ⟨L, hL⟩ : ∃ z, z = fewL l := ⟨_, rfl⟩
  have HL := Lib.hid hL
  have HXL : Hid (∀ x ∈ L, x.path.length ≤ 140737488355328) := Lib.hid (fun x h => hx x (few_mem (by rw [← hL]; exact h)))
  have HLM : Hid (L.length ≤ 2001) := Lib.hid (by rw [hL]; exact few_2001 l)
  have HT := Lib.hid hT
  have HPL := Lib.hid hp
  have HPS : Hid ((⟨p.toArray⟩ : ByteArray).size ≤ 140737488355328) := Lib.hid (by show p.toArray.size ≤ _; rw [List.size_toArray]; exact hp)
  obtain ⟨ok, hok⟩ : ∃ b, b = validT L := ⟨_, rfl⟩
  have HOK := Lib.hid hok
  obtain ⟨q, hq⟩ : ∃ z, z = l.length := ⟨_, rfl⟩
  rw [← hq] at HV XX hw1 ⊢
  clear hv hx hp hT hL hq hok
  go_enter Tryz.func7, Tryz.ntmps7
  go_upto_region 1 with fail
  rw [← hbX, ← hw1]
  clear hw1 hbX
  go_wp2_with fail
  refine (wakes6_any w1 (HT.out.on HB.out)).mono ?_
  rintro e w2 ⟨rfl, hb⟩
  have hcar : Below w1.heap.size w1 w2 := hb
  have XX := Lib.hid (XX.out.on hcar)
  have HB := Lib.hid (bch HB.out hcar)
  clear hcar
  have p0 := XX.out.cell (k := 0) rfl
  have HS2 : Hid (w.heap.size ≤ w2.heap.size) := Lib.hid HB.out.size
  clear hb
  go_wp2_with fail
  clear p0
  refine (own6_any l _ w2 (HV.out.on HB.out)).mono ?_
  rintro e w3 ⟨xv, rfl, hI, hb⟩
  rw [← HL.out] at hI
  obtain ⟨a1, c1, rfl, _, _⟩ := own_slice hI
  obtain ⟨n1, hn1⟩ : ∃ z, z = L.length := ⟨_, rfl⟩
  rw [← hn1] at hI ⊢
  have HN1 := Lib.hid hn1
  clear hn1
  obtain ⟨VT, hVT⟩ : ∃ z, z = (w3.alloc (.cells #[.slice none 0 0] 24)).setRow w3.heap.size #[.slice a1 n1 c1] := ⟨_, rfl⟩
  obtain ⟨bT, hbT⟩ : ∃ z, z = w3.heap.size := ⟨_, rfl⟩
  have hnT : Below w3.heap.size w3 VT := by rw [hVT]; exact below_row (below_new _ _) (Nat.le_refl _) _
  have XT : Hid (Box VT bT 24 #[.slice a1 n1 c1]) := Lib.hid (by rw [hVT, hbT]; exact box_new.row _)
  have HVT := Lib.hid hVT
  have HWT := Lib.hid hbT
  have hcar : Below w2.heap.size w2 VT := bch hb hnT
  have XX := Lib.hid (XX.out.on hcar)
  have HB := Lib.hid (bch HB.out hcar)
  clear hcar
  have OT : Hid (OwnI VT w.heap.size (.slice a1 n1 c1) L) := Lib.hid (own_base (hI.on hnT) HS2.out)
  obtain ⟨M, hM⟩ : ∃ z, z = belT L p := ⟨_, rfl⟩
  have HMM := Lib.hid hM
  obtain ⟨S, hS⟩ : ∃ z, z = kidT L p := ⟨_, rfl⟩
  have HSS := Lib.hid hS
  have HSL : Hid (S.length ≤ 1000000) := Lib.hid (by rw [hS]; exact kid_few2 HLM.out p)
  have HML : Hid (M.length ≤ 2001) := Lib.hid (by rw [hM]; exact bel_few HLM.out p)
  clear hI hb hnT HS2 hM hS XX
  clear hVT hbT
  go_upto_region 4 with (first | (refine wpList_store_row rfl 24 (.tmp 7) (.tmp 20) rfl w3.heap.size #[.slice a1 n1 c1] rfl rfl 24 #[.slice none 0 0] box_new (info24 _) rfl (slice_one _ _ _) ?_; rw [← HVT.out, ← HWT.out]) | fail)
  obtain ⟨v0, hv0⟩ : ∃ z, z = World.drew VT := ⟨_, rfl⟩
  refine wp_region_held_drew (S := fun w' => Below VT.heap.size VT w') (by kernel_rfl) (Below.refl _ _).drew (fun hHeld => ?_)
  rw [← hv0] at hHeld ⊢
  clear hv0
  refine wpAnyH_take (i := 0) (oi := { dst := some 21, op := Op.load 24 (Operand.tmp 7), type := 24, pos := "outright.go:74", after := #[], guard := none }) (v := ?_) rfl (by kernel_rfl) (by kernel_rfl) (by kernel_rfl) (fun _ _ _ h => h) (Or.inl ⟨by rfl, ?_⟩) hHeld ?_
  rotate_left
  · (intro w hSw; have p0 := (XT.out.on hSw).cell (k := 0) rfl; go_simp; try with_reducible rfl)
  (try simp only [Act.put, List.setIfInBounds_toArray, List.set_cons_zero, List.set_cons_succ])
  refine wpAnyH_take (i := 1) (oi := { dst := some 22, op := Op.move (Operand.tmp 1), type := 9, pos := "outright.go:74", after := #[], guard := none }) (v := ?_) rfl (by kernel_rfl) (by kernel_rfl) (by kernel_rfl) (fun _ _ _ h => h) (Or.inl ⟨by rfl, ?_⟩) hHeld ?_
  rotate_left
  · (intro w hSw; go_simp; try with_reducible rfl)
  (try simp only [Act.put, List.setIfInBounds_toArray, List.set_cons_zero, List.set_cons_succ])
  refine wpAnyH_take (i := 3) (oi := { dst := some 24, op := Op.load 24 (Operand.tmp 7), type := 24, pos := "outright.go:74", after := #[], guard := none }) (v := ?_) rfl (by kernel_rfl) (by kernel_rfl) (by kernel_rfl) (fun _ _ _ h => h) (Or.inl ⟨by rfl, ?_⟩) hHeld ?_
  rotate_left
  · (intro w hSw; have p0 := (XT.out.on hSw).cell (k := 0) rfl; go_simp; try with_reducible rfl)
  (try simp only [Act.put, List.setIfInBounds_toArray, List.set_cons_zero, List.set_cons_succ])
  refine wpAnyH_take (i := 4) (oi := { dst := some 25, op := Op.move (Operand.tmp 1), type := 9, pos := "outright.go:74", after := #[], guard := none }) (v := ?_) rfl (by kernel_rfl) (by kernel_rfl) (by kernel_rfl) (fun _ _ _ h => h) (Or.inl ⟨by rfl, ?_⟩) hHeld ?_
  rotate_left
  · (intro w hSw; go_simp; try with_reducible rfl)
  (try simp only [Act.put, List.setIfInBounds_toArray, List.set_cons_zero, List.set_cons_succ])
  refine wpAnyH_ready (rs := [2]) (by kernel_rfl) (by simp) (AllReadyH.cons (o := { dst := some 23, op := Op.call { callee := Callee.value (Operand.func 24), args := #[Operand.tmp 21, Operand.tmp 22], argTypes := #[24, 9] }, type := 22, pos := "outright.go:74", after := #[{ on := 0, ground := Ground.data }, { on := 1, ground := Ground.data }], guard := none }) rfl (fun K hK => ?_) AllReadyH.nil)
  · go_simp
    refine (below_u w.heap.size L _ p _ (OT.out.on hHeld) HXL.out HPL.out (HT.out.on (bch HB.out hHeld)).tab).mono ?_
    rintro e v101 ⟨la, ln, lc, rfl, hln, hI, hba⟩
    rw [← HMM.out] at hln hI
    have HLN := Lib.hid hln
    have O1 : Hid (OwnI v101 0 (.slice la ln lc) M) := Lib.hid (own_base hI (Nat.zero_le _))
    clear hI hln
    refine hK.out _ _ (bch hHeld hba) (fun hHeld => ?_)
    clear hba
    (try simp only [Act.put, List.setIfInBounds_toArray, List.set_cons_zero, List.set_cons_succ])
    refine wpAnyH_ready (rs := [5]) (by kernel_rfl) (by simp) (AllReadyH.cons (o := { dst := some 26, op := Op.call { callee := Callee.value (Operand.func 26), args := #[Operand.tmp 24, Operand.tmp 25], argTypes := #[24, 9] }, type := 41, pos := "outright.go:74", after := #[{ on := 3, ground := Ground.data }, { on := 4, ground := Ground.data }, { on := 2, ground := Ground.chain }], guard := none }) rfl (fun K hK => ?_) AllReadyH.nil)
    · go_simp
      refine (kids_u w.heap.size L _ p _ (OT.out.on hHeld) HXL.out HPL.out (HT.out.on (bch HB.out hHeld)).tab).mono ?_
      rintro e v103 ⟨ka, kn, kc, rfl, hkn, hI, hba⟩
      rw [← HSS.out] at hkn hI
      have HKN := Lib.hid hkn
      have OS : Hid (OwnT v103 0 (.slice ka kn kc) S) := Lib.hid (by unfold OwnT; rw [hkn] at hI ⊢; exact own_base hI (Nat.zero_le _))
      have OM := Lib.hid (O1.out.on hba)
      clear hI hkn
      refine hK.out _ _ (bch hHeld hba) (fun hHeld => ?_)
      clear hba
      (try simp only [Act.put, List.setIfInBounds_toArray, List.set_cons_zero, List.set_cons_succ])
      refine wpAnyH_take (i := 6) (oi := { dst := some 8, op := Op.assign (Operand.tmp 23), type := 22, pos := "outright.go:74", after := #[{ on := 2, ground := Ground.data }, { on := 5, ground := Ground.chain }, { on := 0, ground := Ground.phase }, { on := 1, ground := Ground.phase }, { on := 2, ground := Ground.phase }, { on := 3, ground := Ground.textOnly Departure.lateStores }, { on := 4, ground := Ground.textOnly Departure.lateStores }, { on := 5, ground := Ground.textOnly Departure.lateStoresUnsure }], guard := none }) (v := ?_) rfl (by kernel_rfl) (by kernel_rfl) (by kernel_rfl) (fun _ _ _ h => h) (Or.inl ⟨by rfl, ?_⟩) hHeld ?_
      rotate_left
      · (intro w hSw; go_simp; try with_reducible rfl)
      (try simp only [Act.put, List.setIfInBounds_toArray, List.set_cons_zero, List.set_cons_succ])
      refine wpAnyH_take (i := 7) (oi := { dst := some 9, op := Op.assign (Operand.tmp 26), type := 41, pos := "outright.go:74", after := #[{ on := 5, ground := Ground.data }, { on := 6, ground := Ground.chain }, { on := 0, ground := Ground.phase }, { on := 1, ground := Ground.phase }, { on := 2, ground := Ground.phase }, { on := 3, ground := Ground.phase }, { on := 4, ground := Ground.phase }, { on := 5, ground := Ground.phase }, { on := 6, ground := Ground.phase }], guard := none }) (v := ?_) rfl (by kernel_rfl) (by kernel_rfl) (by kernel_rfl) (fun _ _ _ h => h) (Or.inl ⟨by rfl, ?_⟩) hHeld ?_
      rotate_left
      · (intro w hSw; go_simp; try with_reducible rfl)
      (try simp only [Act.put, List.setIfInBounds_toArray, List.set_cons_zero, List.set_cons_succ])
      refine wpAnyH_done (by kernel_rfl) ?_ _
      have HD := Lib.hid hHeld
      clear hHeld
      have XT := Lib.hid (XT.out.on HD.out)
      have OT := Lib.hid (OT.out.on HD.out)
      have HB := Lib.hid (bch HB.out HD.out)
      clear HD O1
      have p0 := XT.out.cell (k := 0) rfl
      go_wp2_with fail
      clear p0
      refine (tcheck_any L _ v103 OT.out.rd HXL.out (HT.out.on HB.out).tab).mono ?_
      rintro e w105 ⟨rfl, hb⟩
      rw [← HOK.out]
      have XT := Lib.hid (XT.out.on hb)
      have OT := Lib.hid (OT.out.on hb)
      have OM := Lib.hid (OM.out.on hb)
      have OS := Lib.hid (OS.out.on hb)
      have HB := Lib.hid (bch HB.out hb)
      clear hb
      cases ok with
      | false =>
        unfold errT
        have hno := tells_no (l := L) (p := p) (.inl HOK.out.symm)
        obtain rfl : ln = 0 := by rw [HLN.out, HMM.out, hno.2.1]; rfl
        obtain rfl : kn = 0 := by rw [HKN.out, HSS.out, hno.2.2]; rfl
        clear hno
        go_wp2_with fail
        go_ret
        exact ⟨rfl, HB.out⟩
      | true =>
        unfold errT
        have HTO : Hid (TreeOk L) := Lib.hid (tree_ok HOK.out.symm)
        have HSK : Hid (S = kL p M) := Lib.hid (by rw [HSS.out, HMM.out]; unfold kidT belT; rw [if_pos HOK.out.symm, if_pos HOK.out.symm])
        have HBM : Hid (∀ y ∈ M, underB y.path p = true ∧ y.path ≠ p ∧ y ∈ L) := Lib.hid (by rw [HMM.out]; exact bel_mem HOK.out.symm)
        have HSM : Hid (Srt M) := Lib.hid (by rw [HMM.out]; exact bel_srt HOK.out.symm)
        obtain ⟨wb, hwb⟩ : ∃ z, z = w105 := ⟨_, rfl⟩
        rw [← hwb] at XT OT OM OS HB ⊢
        clear hwb
        obtain ⟨i0, hi, hz0, hz1, hz2⟩ := info_parts info9
        have OS0 : Hid (wb.ownsRow wb.heap.size 9 1 (.slice none 0 0) 0 []) := Lib.hid (World.ownsRow_nil _ _ _ _)
        go_wp2_with fail
        go_loopw [10, 38] (fun s i W => ∃ (k m : Nat) (a3 : Option Addr) (c3 : Nat), s = .slice a3 m c3 ∧ k ≤ ln ∧ i = .int .i64 k ∧ Hid (m = (kL p (M.take k)).length) ∧ Hid (W.ownsRow wb.heap.size 9 1 (.slice a3 m c3) m ((kL p (M.take k)).map encS)) ∧ Hid (Below wb.heap.size wb W)) (fun s i _ => ln - (Lib.intOf i).toNat)
        case atStart => exact ⟨0, 0, none, 0, rfl, Nat.zero_le _, rfl, Lib.hid rfl, OS0, Lib.hid (Below.refl _ _)⟩
        case round =>
          clear OS0
          obtain ⟨k, m, a3, c3, rfl, hk, rfl, HM, HO, HBk⟩ := hrel
          obtain ⟨wq, hwq⟩ : ∃ q, q = wr := ⟨_, rfl⟩
          rw [← hwq] at HBk HO ⊢
          clear hwq
          have hmb : m ≤ 2001 := by
            have := kL_len p (M.take k)
            rw [HM.out]
            rw [List.length_take] at this
            have := HML.out
            omega
          have hlb : ln ≤ 2001 := by rw [HLN.out]; exact HML.out
          by_cases hlt : k < ln
          · obtain ⟨y, hy⟩ : ∃ x, M[k]? = some x := ⟨_, List.getElem?_eq_getElem (by rw [← HLN.out]; exact hlt)⟩
            obtain ⟨a', c', e, _, _, hc⟩ := ((OM.out.on HBk.out).rd).open
            rw [← HLN.out] at e
            cases e
            obtain ⟨g, o, rfl, hg, hc⟩ := hc (by rw [← HLN.out]; omega)
            obtain ⟨q0, q1, q2⟩ := hc k y hy
            have HPV : Hid (∀ j x, M[j]? = some x → wq.cell? ⟨g, o + j * 3, none⟩ = some (.string ⟨x.path.toArray⟩)) := Lib.hid (fun j x h => (hc j x h).c0)
            have HG : Hid (g < wq.heap.size) := Lib.hid hg
            have k1 : (k : Int) < (ln : Int) := by omega
            have k2 : (0 : Int) ≤ (k : Int) := by omega
            have k4 : IntKind.i64.wrap ((k : Int) + 1) = (k : Int) + 1 := IntWalk.i64_in _ (by omega)
            obtain ⟨w5, hw5⟩ : ∃ q, q = wq.alloc (.cells #[.string ⟨y.path.toArray⟩, .int .i64 y.kind, .string ⟨y.data.toArray⟩] 33) := ⟨_, rfl⟩
            have hb5 : Below wq.heap.size wq w5 := by rw [hw5]; exact below_new _ _
            have HX5 : Hid (Box w5 wq.heap.size 33 y.arr) := Lib.hid (by rw [hw5]; exact box_new)
            have HB5 : Hid (Below wb.heap.size wb w5) := Lib.hid (bch HBk.out hb5)
            have HO5 := Lib.hid (ownR_below HO.out hb5)
            have HPV : Hid (∀ j x, M[j]? = some x → w5.cell? ⟨g, o + j * 3, none⟩ = some (.string ⟨x.path.toArray⟩)) := Lib.hid (fun j x h => (hb5.cell (p := ⟨g, o + j * 3, none⟩) HG.out).trans (HPV.out j x h))
            have HG : Hid (g < w5.heap.size) := Lib.hid (Nat.lt_of_lt_of_le HG.out hb5.size)
            obtain ⟨u, hu⟩ : ∃ u, u = upL y.path := ⟨_, rfl⟩
            obtain ⟨yb, hyb⟩ : ∃ u, u = baseL y.path := ⟨_, rfl⟩
            have HYM := Lib.hid (HBM.out y (List.mem_of_getElem? hy))
            have hyl : y.path.length ≤ 140737488355328 := HXL.out y HYM.out.2.2
            have HYS : Hid ((⟨y.path.toArray⟩ : ByteArray).size ≤ 140737488355328) := Lib.hid (by show y.path.toArray.size ≤ _; rw [List.size_toArray]; exact hyl)
            have HUN : Hid (∀ W, Calls Tryz.prog 33 #[.string ⟨y.path.toArray⟩, .string ⟨p.toArray⟩] W fun e w' => e = .returned (.bool true) ∧ Below W.heap.size W w') := Lib.hid (fun W => by
              have h := under_any ⟨y.path.toArray⟩ ⟨p.toArray⟩ HYS.out HPS.out W
              rw [show underB (⟨y.path.toArray⟩ : ByteArray).data.toList (⟨p.toArray⟩ : ByteArray).data.toList = true from HYM.out.1] at h
              exact h)
            have HUP : Hid (∀ W, Calls Tryz.prog 35 #[.string ⟨y.path.toArray⟩] W fun e w' => e = .returned (.string ⟨u.toArray⟩) ∧ Below W.heap.size W w') := Lib.hid (fun W => up_is y.path hyl u hu.symm W)
            have HBA : Hid (∀ W, Calls Tryz.prog 36 #[.string ⟨y.path.toArray⟩] W fun e w' => e = .returned (.string ⟨yb.toArray⟩) ∧ Below W.heap.size W w') := Lib.hid (fun W => by rw [hyb]; exact base_is y.path hyl W)
            have HKL : Hid (kL p (M.take (k + 1)) = kL p (M.take k) ++ (if u = p then [yb] else [])) := Lib.hid (by rw [hu, hyb]; exact kL_one M p hy)
            have HYK := Lib.hid hy
            clear hc hy hb5 hg hu hyb hyl HO
            go_upto_region 11 with fail
            obtain ⟨b7, hb7⟩ : ∃ q, q = wq.heap.size := ⟨_, rfl⟩
            rw [← hb7] at HX5 ⊢
            rw [← hw5]
            clear hw5 hb7 q0 q1 q2 HBk
            have tne : (y.path == p) = false := by have := HYM.out.2.1; simp [this]
            by_cases hk0 : k = 0
            · subst hk0
              have tg : ¬ ((0 : Int) < ((0 : Nat) : Int)) := by omega
              have tgd := tg
              obtain ⟨v0, hv0⟩ : ∃ z, z = World.drew w5 := ⟨_, rfl⟩
              refine wp_region_held_drew (S := fun w' => Below w5.heap.size w5 w') (by kernel_rfl) (Below.refl _ _).drew (fun hHeld => ?_)
              rw [← hv0] at hHeld ⊢
              clear hv0
              refine wpAnyH_take (i := 0) (oi := { dst := some 43, op := Op.fieldAddr 33 (Operand.tmp 12) 0, type := 0, pos := "outright.go:80", after := #[], guard := none }) (v := ?_) rfl (by kernel_rfl) (by kernel_rfl) (by kernel_rfl) (fun _ _ _ h => h) (Or.inl ⟨by rfl, ?_⟩) hHeld ?_
              rotate_left
              · (intro w hSw; go_simp; try with_reducible rfl)
              (try simp only [Act.put, List.setIfInBounds_toArray, List.set_cons_zero, List.set_cons_succ])
              refine wpAnyH_take (i := 1) (oi := { dst := some 44, op := Op.load 9 (Operand.tmp 43), type := 9, pos := "outright.go:80", after := #[{ on := 0, ground := Ground.data }], guard := none }) (v := ?_) rfl (by kernel_rfl) (by kernel_rfl) (by kernel_rfl) (fun _ _ _ h => h) (Or.inl ⟨by rfl, ?_⟩) hHeld ?_
              rotate_left
              · (intro w hSw; have p0 : w.cell? ⟨b7, 0, none⟩ = some (.string ⟨y.path.toArray⟩) := (HX5.out.on hSw).cell (k := 0) rfl; go_simp; try with_reducible rfl)
              (try simp only [Act.put, List.setIfInBounds_toArray, List.set_cons_zero, List.set_cons_succ])
              refine wpAnyH_take (i := 2) (oi := { dst := some 45, op := Op.move (Operand.tmp 1), type := 9, pos := "outright.go:80", after := #[], guard := none }) (v := ?_) rfl (by kernel_rfl) (by kernel_rfl) (by kernel_rfl) (fun _ _ _ h => h) (Or.inl ⟨by rfl, ?_⟩) hHeld ?_
              rotate_left
              · (intro w hSw; go_simp; try with_reducible rfl)
              (try simp only [Act.put, List.setIfInBounds_toArray, List.set_cons_zero, List.set_cons_succ])
              refine wpAnyH_ready (rs := [3]) (by kernel_rfl) (by simp) (AllReadyH.cons (o := { dst := some 46, op := Op.call { callee := Callee.value (Operand.func 33), args := #[Operand.tmp 44, Operand.tmp 45], argTypes := #[9, 9] }, type := 4, pos := "outright.go:80", after := #[{ on := 1, ground := Ground.data }, { on := 2, ground := Ground.data }], guard := none }) rfl (fun K hK => ?_) AllReadyH.nil)
              · go_simp
                refine (HUN.out _).mono ?_
                rintro e v101 ⟨rfl, hba⟩
                refine hK.out _ _ (bch hHeld hba) (fun hHeld => ?_)
                clear hba
                (try simp only [Act.put, List.setIfInBounds_toArray, List.set_cons_zero, List.set_cons_succ])
                refine wpAnyH_take (i := 4) (oi := { dst := some 47, op := Op.unOp UnOp.not 4 (Operand.tmp 46), type := 4, pos := "outright.go:80", after := #[{ on := 3, ground := Ground.data }], guard := none }) (v := ?_) rfl (by kernel_rfl) (by kernel_rfl) (by kernel_rfl) (fun _ _ _ h => h) (Or.inl ⟨by rfl, ?_⟩) hHeld ?_
                rotate_left
                · (intro w hSw; go_simp; try with_reducible rfl)
                (try simp only [Act.put, List.setIfInBounds_toArray, List.set_cons_zero, List.set_cons_succ])
                refine wpAnyH_take (i := 5) (oi := { dst := some 48, op := Op.move (Operand.tmp 47), type := 4, pos := "outright.go:80", after := #[{ on := 4, ground := Ground.data }, { on := 3, ground := Ground.chain }], guard := none }) (v := ?_) rfl (by kernel_rfl) (by kernel_rfl) (by kernel_rfl) (fun _ _ _ h => h) (Or.inl ⟨by rfl, ?_⟩) hHeld ?_
                rotate_left
                · (intro w hSw; go_simp; try with_reducible rfl)
                (try simp only [Act.put, List.setIfInBounds_toArray, List.set_cons_zero, List.set_cons_succ])
                refine wpAnyH_take (i := 6) (oi := { dst := some 49, op := Op.fieldAddr 33 (Operand.tmp 12) 0, type := 0, pos := "outright.go:80", after := #[{ on := 5, ground := Ground.guard }], guard := some (5, false) }) (v := ?_) rfl (by kernel_rfl) (by kernel_rfl) (by kernel_rfl) (fun _ _ _ h => h) (Or.inl ⟨by rfl, ?_⟩) hHeld ?_
                rotate_left
                · (intro w hSw; go_simp; try with_reducible rfl)
                (try simp only [Act.put, List.setIfInBounds_toArray, List.set_cons_zero, List.set_cons_succ])
                refine wpAnyH_take (i := 7) (oi := { dst := some 50, op := Op.load 9 (Operand.tmp 49), type := 9, pos := "outright.go:80", after := #[{ on := 6, ground := Ground.data }, { on := 5, ground := Ground.guard }], guard := some (5, false) }) (v := ?_) rfl (by kernel_rfl) (by kernel_rfl) (by kernel_rfl) (fun _ _ _ h => h) (Or.inl ⟨by rfl, ?_⟩) hHeld ?_
                rotate_left
                · (intro w hSw; have p0 : w.cell? ⟨b7, 0, none⟩ = some (.string ⟨y.path.toArray⟩) := (HX5.out.on hSw).cell (k := 0) rfl; go_simp; try with_reducible rfl)
                (try simp only [Act.put, List.setIfInBounds_toArray, List.set_cons_zero, List.set_cons_succ])
                refine wpAnyH_take (i := 8) (oi := { dst := some 51, op := Op.move (Operand.tmp 1), type := 9, pos := "outright.go:80", after := #[{ on := 5, ground := Ground.guard }], guard := some (5, false) }) (v := ?_) rfl (by kernel_rfl) (by kernel_rfl) (by kernel_rfl) (fun _ _ _ h => h) (Or.inl ⟨by rfl, ?_⟩) hHeld ?_
                rotate_left
                · (intro w hSw; go_simp; try with_reducible rfl)
                (try simp only [Act.put, List.setIfInBounds_toArray, List.set_cons_zero, List.set_cons_succ])
                refine wpAnyH_take (i := 9) (oi := { dst := some 52, op := Op.binOp BinOp.eql 9 (Operand.tmp 50) (Operand.tmp 51) 9, type := 4, pos := "outright.go:80", after := #[{ on := 7, ground := Ground.data }, { on := 8, ground := Ground.data }, { on := 5, ground := Ground.guard }], guard := some (5, false) }) (v := ?_) rfl (by kernel_rfl) (by kernel_rfl) (by kernel_rfl) (fun _ _ _ h => h) (Or.inl ⟨by rfl, ?_⟩) hHeld ?_
                rotate_left
                · (intro w hSw; go_simp; try with_reducible rfl)
                (try simp only [Act.put, List.setIfInBounds_toArray, List.set_cons_zero, List.set_cons_succ])
                refine wpAnyH_take (i := 10) (oi := { dst := some 53, op := Op.pick (Operand.tmp 48) (Operand.const (Value.bool true)) (Operand.tmp 52), type := 4, pos := "outright.go:80", after := #[{ on := 5, ground := Ground.data }, { on := 9, ground := Ground.data }], guard := none }) (v := ?_) rfl (by kernel_rfl) (by kernel_rfl) (by kernel_rfl) (fun _ _ _ h => h) (Or.inl ⟨by rfl, ?_⟩) hHeld ?_
                rotate_left
                · (intro w hSw; go_simp; try with_reducible rfl)
                (try simp only [Act.put, List.setIfInBounds_toArray, List.set_cons_zero, List.set_cons_succ])
                refine wpAnyH_take (i := 11) (oi := { dst := some 54, op := Op.move (Operand.tmp 53), type := 4, pos := "outright.go:80", after := #[{ on := 10, ground := Ground.data }, { on := 5, ground := Ground.chain }], guard := none }) (v := ?_) rfl (by kernel_rfl) (by kernel_rfl) (by kernel_rfl) (fun _ _ _ h => h) (Or.inl ⟨by rfl, ?_⟩) hHeld ?_
                rotate_left
                · (intro w hSw; go_simp; try with_reducible rfl)
                (try simp only [Act.put, List.setIfInBounds_toArray, List.set_cons_zero, List.set_cons_succ])
                refine wpAnyH_take (i := 12) (oi := { dst := some 55, op := Op.move (Operand.tmp 11), type := 3, pos := "outright.go:80", after := #[{ on := 11, ground := Ground.guard }], guard := some (11, false) }) (v := ?_) rfl (by kernel_rfl) (by kernel_rfl) (by kernel_rfl) (fun _ _ _ h => h) (Or.inl ⟨by rfl, ?_⟩) hHeld ?_
                rotate_left
                · (intro w hSw; go_simp; try with_reducible rfl)
                (try simp only [Act.put, List.setIfInBounds_toArray, List.set_cons_zero, List.set_cons_succ])
                refine wpAnyH_take (i := 13) (oi := { dst := some 56, op := Op.binOp BinOp.gtr 3 (Operand.tmp 55) (Operand.const (Value.int IntKind.i64 0)) 3, type := 4, pos := "outright.go:80", after := #[{ on := 12, ground := Ground.data }, { on := 11, ground := Ground.guard }], guard := some (11, false) }) (v := ?_) rfl (by kernel_rfl) (by kernel_rfl) (by kernel_rfl) (fun _ _ _ h => h) (Or.inl ⟨by rfl, ?_⟩) hHeld ?_
                rotate_left
                · (intro w hSw; go_simp; try with_reducible rfl)
                (try simp only [Act.put, List.setIfInBounds_toArray, List.set_cons_zero, List.set_cons_succ])
                refine wpAnyH_take (i := 14) (oi := { dst := some 57, op := Op.move (Operand.tmp 56), type := 4, pos := "outright.go:80", after := #[{ on := 13, ground := Ground.data }, { on := 11, ground := Ground.chain }, { on := 11, ground := Ground.guard }], guard := some (11, false) }) (v := ?_) rfl (by kernel_rfl) (by kernel_rfl) (by kernel_rfl) (fun _ _ _ h => h) (Or.inl ⟨by rfl, ?_⟩) hHeld ?_
                rotate_left
                · (intro w hSw; go_simp; try with_reducible rfl)
                (try simp only [Act.put, List.setIfInBounds_toArray, List.set_cons_zero, List.set_cons_succ])
                refine wpAnyH_take (i := 15) (oi := { dst := some 58, op := Op.move (Operand.tmp 8), type := 22, pos := "outright.go:80", after := #[{ on := 14, ground := Ground.guard }], guard := some (14, true) }) (v := undef) rfl (by kernel_rfl) (by kernel_rfl) (by kernel_rfl) (fun _ _ _ h => h) (Or.inr ⟨by rfl, rfl⟩) hHeld ?_
                (try simp only [Act.put, List.setIfInBounds_toArray, List.set_cons_zero, List.set_cons_succ])
                refine wpAnyH_take (i := 16) (oi := { dst := some 59, op := Op.move (Operand.tmp 11), type := 3, pos := "outright.go:80", after := #[{ on := 14, ground := Ground.guard }], guard := some (14, true) }) (v := undef) rfl (by kernel_rfl) (by kernel_rfl) (by kernel_rfl) (fun _ _ _ h => h) (Or.inr ⟨by rfl, rfl⟩) hHeld ?_
                (try simp only [Act.put, List.setIfInBounds_toArray, List.set_cons_zero, List.set_cons_succ])
                refine wpAnyH_take (i := 17) (oi := { dst := some 60, op := Op.binOp BinOp.sub 3 (Operand.tmp 59) (Operand.const (Value.int IntKind.i64 1)) 3, type := 3, pos := "outright.go:80", after := #[{ on := 16, ground := Ground.data }, { on := 14, ground := Ground.guard }], guard := some (14, true) }) (v := undef) rfl (by kernel_rfl) (by kernel_rfl) (by kernel_rfl) (fun _ _ _ h => h) (Or.inr ⟨by rfl, rfl⟩) hHeld ?_
                (try simp only [Act.put, List.setIfInBounds_toArray, List.set_cons_zero, List.set_cons_succ])
                refine wpAnyH_take (i := 18) (oi := { dst := some 61, op := Op.indexAddr 22 (Operand.tmp 58) (Operand.tmp 60), type := 0, pos := "outright.go:80", after := #[{ on := 15, ground := Ground.data }, { on := 17, ground := Ground.data }, { on := 14, ground := Ground.guard }], guard := some (14, true) }) (v := undef) rfl (by kernel_rfl) (by kernel_rfl) (by kernel_rfl) (fun _ _ _ h => h) (Or.inr ⟨by rfl, rfl⟩) hHeld ?_
                (try simp only [Act.put, List.setIfInBounds_toArray, List.set_cons_zero, List.set_cons_succ])
                refine wpAnyH_take (i := 19) (oi := { dst := some 62, op := Op.fieldAddr 33 (Operand.tmp 61) 0, type := 0, pos := "outright.go:80", after := #[{ on := 18, ground := Ground.data }, { on := 14, ground := Ground.guard }], guard := some (14, true) }) (v := undef) rfl (by kernel_rfl) (by kernel_rfl) (by kernel_rfl) (fun _ _ _ h => h) (Or.inr ⟨by rfl, rfl⟩) hHeld ?_
                (try simp only [Act.put, List.setIfInBounds_toArray, List.set_cons_zero, List.set_cons_succ])
                refine wpAnyH_take (i := 20) (oi := { dst := some 63, op := Op.load 9 (Operand.tmp 62), type := 9, pos := "outright.go:80", after := #[{ on := 19, ground := Ground.data }, { on := 14, ground := Ground.guard }], guard := some (14, true) }) (v := undef) rfl (by kernel_rfl) (by kernel_rfl) (by kernel_rfl) (fun _ _ _ h => h) (Or.inr ⟨by rfl, rfl⟩) hHeld ?_
                (try simp only [Act.put, List.setIfInBounds_toArray, List.set_cons_zero, List.set_cons_succ])
                refine wpAnyH_take (i := 21) (oi := { dst := some 64, op := Op.fieldAddr 33 (Operand.tmp 12) 0, type := 0, pos := "outright.go:80", after := #[{ on := 14, ground := Ground.guard }], guard := some (14, true) }) (v := undef) rfl (by kernel_rfl) (by kernel_rfl) (by kernel_rfl) (fun _ _ _ h => h) (Or.inr ⟨by rfl, rfl⟩) hHeld ?_
                (try simp only [Act.put, List.setIfInBounds_toArray, List.set_cons_zero, List.set_cons_succ])
                refine wpAnyH_take (i := 22) (oi := { dst := some 65, op := Op.load 9 (Operand.tmp 64), type := 9, pos := "outright.go:80", after := #[{ on := 21, ground := Ground.data }, { on := 14, ground := Ground.guard }], guard := some (14, true) }) (v := undef) rfl (by kernel_rfl) (by kernel_rfl) (by kernel_rfl) (fun _ _ _ h => h) (Or.inr ⟨by rfl, rfl⟩) hHeld ?_
                (try simp only [Act.put, List.setIfInBounds_toArray, List.set_cons_zero, List.set_cons_succ])
                refine wpAnyH_take (i := 23) (oi := { dst := some 66, op := Op.call { callee := Callee.value (Operand.func 34), args := #[Operand.tmp 63, Operand.tmp 65], argTypes := #[9, 9] }, type := 3, pos := "outright.go:80", after := #[{ on := 20, ground := Ground.data }, { on := 22, ground := Ground.data }, { on := 14, ground := Ground.chain }, { on := 14, ground := Ground.guard }], guard := some (14, true) }) (v := undef) rfl (by kernel_rfl) (by kernel_rfl) (by kernel_rfl) (fun _ _ _ h => h) (Or.inr ⟨by rfl, rfl⟩) hHeld ?_
                (try simp only [Act.put, List.setIfInBounds_toArray, List.set_cons_zero, List.set_cons_succ])
                refine wpAnyH_take (i := 24) (oi := { dst := some 67, op := Op.binOp BinOp.geq 3 (Operand.tmp 66) (Operand.const (Value.int IntKind.i64 0)) 3, type := 4, pos := "outright.go:80", after := #[{ on := 23, ground := Ground.data }, { on := 14, ground := Ground.guard }], guard := some (14, true) }) (v := undef) rfl (by kernel_rfl) (by kernel_rfl) (by kernel_rfl) (fun _ _ _ h => h) (Or.inr ⟨by rfl, rfl⟩) hHeld ?_
                (try simp only [Act.put, List.setIfInBounds_toArray, List.set_cons_zero, List.set_cons_succ])
                refine wpAnyH_take (i := 25) (oi := { dst := some 68, op := Op.pick (Operand.tmp 57) (Operand.tmp 67) (Operand.const (Value.bool false)), type := 4, pos := "outright.go:80", after := #[{ on := 14, ground := Ground.data }, { on := 24, ground := Ground.data }, { on := 11, ground := Ground.guard }], guard := some (11, false) }) (v := ?_) rfl (by kernel_rfl) (by kernel_rfl) (by kernel_rfl) (fun _ _ _ h => h) (Or.inl ⟨by rfl, ?_⟩) hHeld ?_
                rotate_left
                · (intro w hSw; go_simp; try with_reducible rfl)
                (try simp only [Act.put, List.setIfInBounds_toArray, List.set_cons_zero, List.set_cons_succ])
                refine wpAnyH_take (i := 26) (oi := { dst := some 69, op := Op.pick (Operand.tmp 54) (Operand.const (Value.bool true)) (Operand.tmp 68), type := 4, pos := "outright.go:80", after := #[{ on := 11, ground := Ground.data }, { on := 25, ground := Ground.data }], guard := none }) (v := ?_) rfl (by kernel_rfl) (by kernel_rfl) (by kernel_rfl) (fun _ _ _ h => h) (Or.inl ⟨by rfl, ?_⟩) hHeld ?_
                rotate_left
                · (intro w hSw; go_simp; try with_reducible rfl)
                (try simp only [Act.put, List.setIfInBounds_toArray, List.set_cons_zero, List.set_cons_succ])
                refine wpAnyH_done (by kernel_rfl) ?_ _
                have HD := Lib.hid hHeld
                clear hHeld
                obtain ⟨w8, hw8⟩ : ∃ z, z = v101 := ⟨_, rfl⟩
                rw [← hw8] at HD ⊢
                clear hw8
                have HX8 := Lib.hid (HX5.out.on HD.out)
                have HO8 := Lib.hid (ownR_below HO5.out HD.out)
                have HB8 := Lib.hid (bch HB5.out HD.out)
                clear HD HO5 HX5 HB5 HPV HG tg tgd
                have p0 : w8.cell? ⟨b7, 0, none⟩ = some (.string ⟨y.path.toArray⟩) := HX8.out.cell (k := 0) rfl
                go_wp2_with fail
                clear p0
                refine (HUP.out _).mono ?_
                rintro e w9 ⟨rfl, hb⟩
                have HX9 := Lib.hid (HX8.out.on hb)
                have HO9 := Lib.hid (ownR_below HO8.out hb)
                have HB9 := Lib.hid (bch HB8.out hb)
                clear hb HX8 HO8 HB8
                by_cases he : u = p
                · have t1 : (u == p) = true := by simp [he]
                  have HR : Hid (kL p (M.take (0 + 1)) = kL p (M.take 0) ++ [yb]) := Lib.hid (by rw [HKL.out, if_pos he])
                  clear he
                  have p0 : w9.cell? ⟨b7, 0, none⟩ = some (.string ⟨y.path.toArray⟩) := HX9.out.cell (k := 0) rfl
                  go_wp2_with fail
                  clear p0
                  refine (HBA.out _).mono ?_
                  rintro e w10 ⟨rfl, hb⟩
                  have HB10 := Lib.hid (bch HB9.out hb)
                  have HO10 := Lib.hid (ownR_below HO9.out hb)
                  have HBQ : Hid (∀ z, (Value.slice a3 m c3).ownBlock = some z → wb.heap.size ≤ z) := Lib.hid (fun z hz => (ownR_blk HO10.out hz).1)
                  have hws : wb.heap.size ≤ w10.heap.size := HB10.out.size
                  clear hb HO9
                  go_wp2_with (at_builtin; refine wpList_append_own _ rfl _ _ 41 rfl wb.heap.size 9 i0 (.string ⟨#[]⟩) 1 16 Tryz.underlying41 hi hz0 hz1 hz2 rfl (by decide) _ _ _ rfl (HO10.out.alloc _) ⟨w10.heap.size, 0, none⟩ 1 1 [.string ⟨yb.toArray⟩] rfl rfl (cell_one_new _ _ _) (by simp [Value.oneCell']) (by unfold maxLen; omega) (by omega) (by simp; omega) ?_)
                  intro v12 w12 hown9 hgrow9 _
                  have HB12 : Hid (Below wb.heap.size wb w12) := Lib.hid ((HB10.out.alloc hws _).grown hgrow9 (by simp; omega) HBQ.out)
                  obtain ⟨g9, c9, rfl⟩ := ownsRow_succ hown9
                  have HO12 := Lib.hid hown9
                  clear hown9 hgrow9
                  go_wp2_with fail
                  go_roundw
                  case rel => exact ⟨0 + 1, m + 1, _, _, rfl, hlt, by go_num, Lib.hid (by rw [HR.out, List.length_append, ← HM.out]; rfl), Lib.hid (by rw [HR.out, List.map_append]; exact HO12.out), HB12⟩
                  case measure => simp [Lib.intOf]; omega
                · have t1 : (u == p) = false := by simp [he]
                  have HR : Hid (kL p (M.take (0 + 1)) = kL p (M.take 0)) := Lib.hid (by rw [HKL.out, if_neg he, List.append_nil])
                  clear he
                  go_wp2_with fail
                  go_roundw
                  case rel => exact ⟨0 + 1, m, _, _, rfl, hlt, by go_num, Lib.hid (by rw [HR.out]; exact HM.out), Lib.hid (by rw [HR.out]; exact HO9.out), HB9⟩
                  case measure => simp [Lib.intOf]; omega
            · obtain ⟨j, hkj⟩ : ∃ j, k = j + 1 := ⟨k - 1, by omega⟩
              subst hkj
              have hkj : j + 1 = j + 1 := rfl
              have tg : (0 : Int) < ((j + 1 : Nat) : Int) := by omega
              have tgd := tg
              have j1 : IntKind.i64.wrap (j : Int) = (j : Int) := IntWalk.i64_in _ (by omega)
              obtain ⟨x, hx⟩ : ∃ x, M[j]? = some x := ⟨_, List.getElem?_eq_getElem (by rw [← HLN.out]; omega)⟩
              have j2 : (0 : Int) ≤ (j : Int) := by omega
              have j3 : (j : Int) < (ln : Int) := by omega
              have HXP := Lib.hid (HPV.out j x hx)
              have HCM : Hid (∀ W, Calls Tryz.prog 34 #[.string ⟨x.path.toArray⟩, .string ⟨y.path.toArray⟩] W fun e w' => e = .returned (.int .i64 (-1)) ∧ Below W.heap.size W w') := Lib.hid (fun W => by
                have h1 := srt_next HSM.out hx HYK.out
                have h := cmp_any ⟨x.path.toArray⟩ ⟨y.path.toArray⟩ (by show x.path.toArray.size ≤ _; rw [List.size_toArray]; exact HXL.out x (HBM.out x (List.mem_of_getElem? hx)).2.2) HYS.out W
                rw [show cmpL (⟨x.path.toArray⟩ : ByteArray).data.toList (⟨y.path.toArray⟩ : ByteArray).data.toList = -1 from h1] at h
                exact h)
              clear hx hkj
              obtain ⟨v0, hv0⟩ : ∃ z, z = World.drew w5 := ⟨_, rfl⟩
              refine wp_region_held_drew (S := fun w' => Below w5.heap.size w5 w') (by kernel_rfl) (Below.refl _ _).drew (fun hHeld => ?_)
              rw [← hv0] at hHeld ⊢
              clear hv0
              refine wpAnyH_take (i := 0) (oi := { dst := some 43, op := Op.fieldAddr 33 (Operand.tmp 12) 0, type := 0, pos := "outright.go:80", after := #[], guard := none }) (v := ?_) rfl (by kernel_rfl) (by kernel_rfl) (by kernel_rfl) (fun _ _ _ h => h) (Or.inl ⟨by rfl, ?_⟩) hHeld ?_
              rotate_left
              · (intro w hSw; go_simp; try with_reducible rfl)
              (try simp only [Act.put, List.setIfInBounds_toArray, List.set_cons_zero, List.set_cons_succ])
              refine wpAnyH_take (i := 1) (oi := { dst := some 44, op := Op.load 9 (Operand.tmp 43), type := 9, pos := "outright.go:80", after := #[{ on := 0, ground := Ground.data }], guard := none }) (v := ?_) rfl (by kernel_rfl) (by kernel_rfl) (by kernel_rfl) (fun _ _ _ h => h) (Or.inl ⟨by rfl, ?_⟩) hHeld ?_
              rotate_left
              · (intro w hSw; have p0 : w.cell? ⟨b7, 0, none⟩ = some (.string ⟨y.path.toArray⟩) := (HX5.out.on hSw).cell (k := 0) rfl; go_simp; try with_reducible rfl)
              (try simp only [Act.put, List.setIfInBounds_toArray, List.set_cons_zero, List.set_cons_succ])
              refine wpAnyH_take (i := 2) (oi := { dst := some 45, op := Op.move (Operand.tmp 1), type := 9, pos := "outright.go:80", after := #[], guard := none }) (v := ?_) rfl (by kernel_rfl) (by kernel_rfl) (by kernel_rfl) (fun _ _ _ h => h) (Or.inl ⟨by rfl, ?_⟩) hHeld ?_
              rotate_left
              · (intro w hSw; go_simp; try with_reducible rfl)
              (try simp only [Act.put, List.setIfInBounds_toArray, List.set_cons_zero, List.set_cons_succ])
              refine wpAnyH_ready (rs := [3]) (by kernel_rfl) (by simp) (AllReadyH.cons (o := { dst := some 46, op := Op.call { callee := Callee.value (Operand.func 33), args := #[Operand.tmp 44, Operand.tmp 45], argTypes := #[9, 9] }, type := 4, pos := "outright.go:80", after := #[{ on := 1, ground := Ground.data }, { on := 2, ground := Ground.data }], guard := none }) rfl (fun K hK => ?_) AllReadyH.nil)
              · go_simp
                refine (HUN.out _).mono ?_
                rintro e v101 ⟨rfl, hba⟩
                refine hK.out _ _ (bch hHeld hba) (fun hHeld => ?_)
                clear hba
                (try simp only [Act.put, List.setIfInBounds_toArray, List.set_cons_zero, List.set_cons_succ])
                refine wpAnyH_take (i := 4) (oi := { dst := some 47, op := Op.unOp UnOp.not 4 (Operand.tmp 46), type := 4, pos := "outright.go:80", after := #[{ on := 3, ground := Ground.data }], guard := none }) (v := ?_) rfl (by kernel_rfl) (by kernel_rfl) (by kernel_rfl) (fun _ _ _ h => h) (Or.inl ⟨by rfl, ?_⟩) hHeld ?_
                rotate_left
                · (intro w hSw; go_simp; try with_reducible rfl)
                (try simp only [Act.put, List.setIfInBounds_toArray, List.set_cons_zero, List.set_cons_succ])
                refine wpAnyH_take (i := 5) (oi := { dst := some 48, op := Op.move (Operand.tmp 47), type := 4, pos := "outright.go:80", after := #[{ on := 4, ground := Ground.data }, { on := 3, ground := Ground.chain }], guard := none }) (v := ?_) rfl (by kernel_rfl) (by kernel_rfl) (by kernel_rfl) (fun _ _ _ h => h) (Or.inl ⟨by rfl, ?_⟩) hHeld ?_
                rotate_left
                · (intro w hSw; go_simp; try with_reducible rfl)
                (try simp only [Act.put, List.setIfInBounds_toArray, List.set_cons_zero, List.set_cons_succ])
                refine wpAnyH_take (i := 6) (oi := { dst := some 49, op := Op.fieldAddr 33 (Operand.tmp 12) 0, type := 0, pos := "outright.go:80", after := #[{ on := 5, ground := Ground.guard }], guard := some (5, false) }) (v := ?_) rfl (by kernel_rfl) (by kernel_rfl) (by kernel_rfl) (fun _ _ _ h => h) (Or.inl ⟨by rfl, ?_⟩) hHeld ?_
                rotate_left
                · (intro w hSw; go_simp; try with_reducible rfl)
                (try simp only [Act.put, List.setIfInBounds_toArray, List.set_cons_zero, List.set_cons_succ])
                refine wpAnyH_take (i := 7) (oi := { dst := some 50, op := Op.load 9 (Operand.tmp 49), type := 9, pos := "outright.go:80", after := #[{ on := 6, ground := Ground.data }, { on := 5, ground := Ground.guard }], guard := some (5, false) }) (v := ?_) rfl (by kernel_rfl) (by kernel_rfl) (by kernel_rfl) (fun _ _ _ h => h) (Or.inl ⟨by rfl, ?_⟩) hHeld ?_
                rotate_left
                · (intro w hSw; have p0 : w.cell? ⟨b7, 0, none⟩ = some (.string ⟨y.path.toArray⟩) := (HX5.out.on hSw).cell (k := 0) rfl; go_simp; try with_reducible rfl)
                (try simp only [Act.put, List.setIfInBounds_toArray, List.set_cons_zero, List.set_cons_succ])
                refine wpAnyH_take (i := 8) (oi := { dst := some 51, op := Op.move (Operand.tmp 1), type := 9, pos := "outright.go:80", after := #[{ on := 5, ground := Ground.guard }], guard := some (5, false) }) (v := ?_) rfl (by kernel_rfl) (by kernel_rfl) (by kernel_rfl) (fun _ _ _ h => h) (Or.inl ⟨by rfl, ?_⟩) hHeld ?_
                rotate_left
                · (intro w hSw; go_simp; try with_reducible rfl)
                (try simp only [Act.put, List.setIfInBounds_toArray, List.set_cons_zero, List.set_cons_succ])
                refine wpAnyH_take (i := 9) (oi := { dst := some 52, op := Op.binOp BinOp.eql 9 (Operand.tmp 50) (Operand.tmp 51) 9, type := 4, pos := "outright.go:80", after := #[{ on := 7, ground := Ground.data }, { on := 8, ground := Ground.data }, { on := 5, ground := Ground.guard }], guard := some (5, false) }) (v := ?_) rfl (by kernel_rfl) (by kernel_rfl) (by kernel_rfl) (fun _ _ _ h => h) (Or.inl ⟨by rfl, ?_⟩) hHeld ?_
                rotate_left
                · (intro w hSw; go_simp; try with_reducible rfl)
                (try simp only [Act.put, List.setIfInBounds_toArray, List.set_cons_zero, List.set_cons_succ])
                refine wpAnyH_take (i := 10) (oi := { dst := some 53, op := Op.pick (Operand.tmp 48) (Operand.const (Value.bool true)) (Operand.tmp 52), type := 4, pos := "outright.go:80", after := #[{ on := 5, ground := Ground.data }, { on := 9, ground := Ground.data }], guard := none }) (v := ?_) rfl (by kernel_rfl) (by kernel_rfl) (by kernel_rfl) (fun _ _ _ h => h) (Or.inl ⟨by rfl, ?_⟩) hHeld ?_
                rotate_left
                · (intro w hSw; go_simp; try with_reducible rfl)
                (try simp only [Act.put, List.setIfInBounds_toArray, List.set_cons_zero, List.set_cons_succ])
                refine wpAnyH_take (i := 11) (oi := { dst := some 54, op := Op.move (Operand.tmp 53), type := 4, pos := "outright.go:80", after := #[{ on := 10, ground := Ground.data }, { on := 5, ground := Ground.chain }], guard := none }) (v := ?_) rfl (by kernel_rfl) (by kernel_rfl) (by kernel_rfl) (fun _ _ _ h => h) (Or.inl ⟨by rfl, ?_⟩) hHeld ?_
                rotate_left
                · (intro w hSw; go_simp; try with_reducible rfl)
                (try simp only [Act.put, List.setIfInBounds_toArray, List.set_cons_zero, List.set_cons_succ])
                refine wpAnyH_take (i := 12) (oi := { dst := some 55, op := Op.move (Operand.tmp 11), type := 3, pos := "outright.go:80", after := #[{ on := 11, ground := Ground.guard }], guard := some (11, false) }) (v := ?_) rfl (by kernel_rfl) (by kernel_rfl) (by kernel_rfl) (fun _ _ _ h => h) (Or.inl ⟨by rfl, ?_⟩) hHeld ?_
                rotate_left
                · (intro w hSw; go_simp; try with_reducible rfl)
                (try simp only [Act.put, List.setIfInBounds_toArray, List.set_cons_zero, List.set_cons_succ])
                refine wpAnyH_take (i := 13) (oi := { dst := some 56, op := Op.binOp BinOp.gtr 3 (Operand.tmp 55) (Operand.const (Value.int IntKind.i64 0)) 3, type := 4, pos := "outright.go:80", after := #[{ on := 12, ground := Ground.data }, { on := 11, ground := Ground.guard }], guard := some (11, false) }) (v := ?_) rfl (by kernel_rfl) (by kernel_rfl) (by kernel_rfl) (fun _ _ _ h => h) (Or.inl ⟨by rfl, ?_⟩) hHeld ?_
                rotate_left
                · (intro w hSw; go_simp; try with_reducible rfl)
                (try simp only [Act.put, List.setIfInBounds_toArray, List.set_cons_zero, List.set_cons_succ])
                refine wpAnyH_take (i := 14) (oi := { dst := some 57, op := Op.move (Operand.tmp 56), type := 4, pos := "outright.go:80", after := #[{ on := 13, ground := Ground.data }, { on := 11, ground := Ground.chain }, { on := 11, ground := Ground.guard }], guard := some (11, false) }) (v := ?_) rfl (by kernel_rfl) (by kernel_rfl) (by kernel_rfl) (fun _ _ _ h => h) (Or.inl ⟨by rfl, ?_⟩) hHeld ?_
                rotate_left
                · (intro w hSw; go_simp; try with_reducible rfl)
                (try simp only [Act.put, List.setIfInBounds_toArray, List.set_cons_zero, List.set_cons_succ])
                refine wpAnyH_take (i := 15) (oi := { dst := some 58, op := Op.move (Operand.tmp 8), type := 22, pos := "outright.go:80", after := #[{ on := 14, ground := Ground.guard }], guard := some (14, true) }) (v := ?_) rfl (by kernel_rfl) (by kernel_rfl) (by kernel_rfl) (fun _ _ _ h => h) (Or.inl ⟨by rfl, ?_⟩) hHeld ?_
                rotate_left
                · (intro w hSw; go_simp; try with_reducible rfl)
                (try simp only [Act.put, List.setIfInBounds_toArray, List.set_cons_zero, List.set_cons_succ])
                refine wpAnyH_take (i := 16) (oi := { dst := some 59, op := Op.move (Operand.tmp 11), type := 3, pos := "outright.go:80", after := #[{ on := 14, ground := Ground.guard }], guard := some (14, true) }) (v := ?_) rfl (by kernel_rfl) (by kernel_rfl) (by kernel_rfl) (fun _ _ _ h => h) (Or.inl ⟨by rfl, ?_⟩) hHeld ?_
                rotate_left
                · (intro w hSw; go_simp; try with_reducible rfl)
                (try simp only [Act.put, List.setIfInBounds_toArray, List.set_cons_zero, List.set_cons_succ])
                refine wpAnyH_take (i := 17) (oi := { dst := some 60, op := Op.binOp BinOp.sub 3 (Operand.tmp 59) (Operand.const (Value.int IntKind.i64 1)) 3, type := 3, pos := "outright.go:80", after := #[{ on := 16, ground := Ground.data }, { on := 14, ground := Ground.guard }], guard := some (14, true) }) (v := ?_) rfl (by kernel_rfl) (by kernel_rfl) (by kernel_rfl) (fun _ _ _ h => h) (Or.inl ⟨by rfl, ?_⟩) hHeld ?_
                rotate_left
                · (intro w hSw; go_simp; try with_reducible rfl)
                (try simp only [Act.put, List.setIfInBounds_toArray, List.set_cons_zero, List.set_cons_succ])
                refine wpAnyH_take (i := 18) (oi := { dst := some 61, op := Op.indexAddr 22 (Operand.tmp 58) (Operand.tmp 60), type := 0, pos := "outright.go:80", after := #[{ on := 15, ground := Ground.data }, { on := 17, ground := Ground.data }, { on := 14, ground := Ground.guard }], guard := some (14, true) }) (v := ?_) rfl (by kernel_rfl) (by kernel_rfl) (by kernel_rfl) (fun _ _ _ h => h) (Or.inl ⟨by rfl, ?_⟩) hHeld ?_
                rotate_left
                · (intro w hSw; go_simp; try with_reducible rfl)
                (try simp only [Act.put, List.setIfInBounds_toArray, List.set_cons_zero, List.set_cons_succ])
                refine wpAnyH_take (i := 19) (oi := { dst := some 62, op := Op.fieldAddr 33 (Operand.tmp 61) 0, type := 0, pos := "outright.go:80", after := #[{ on := 18, ground := Ground.data }, { on := 14, ground := Ground.guard }], guard := some (14, true) }) (v := ?_) rfl (by kernel_rfl) (by kernel_rfl) (by kernel_rfl) (fun _ _ _ h => h) (Or.inl ⟨by rfl, ?_⟩) hHeld ?_
                rotate_left
                · (intro w hSw; go_simp; try with_reducible rfl)
                (try simp only [Act.put, List.setIfInBounds_toArray, List.set_cons_zero, List.set_cons_succ])
                refine wpAnyH_take (i := 20) (oi := { dst := some 63, op := Op.load 9 (Operand.tmp 62), type := 9, pos := "outright.go:80", after := #[{ on := 19, ground := Ground.data }, { on := 14, ground := Ground.guard }], guard := some (14, true) }) (v := ?_) rfl (by kernel_rfl) (by kernel_rfl) (by kernel_rfl) (fun _ _ _ h => h) (Or.inl ⟨by rfl, ?_⟩) hHeld ?_
                rotate_left
                · (intro w hSw; have p1 := (hSw.cell (p := ⟨g, o + j * 3, none⟩) HG.out).trans HXP.out; go_simp; try with_reducible rfl)
                (try simp only [Act.put, List.setIfInBounds_toArray, List.set_cons_zero, List.set_cons_succ])
                refine wpAnyH_take (i := 21) (oi := { dst := some 64, op := Op.fieldAddr 33 (Operand.tmp 12) 0, type := 0, pos := "outright.go:80", after := #[{ on := 14, ground := Ground.guard }], guard := some (14, true) }) (v := ?_) rfl (by kernel_rfl) (by kernel_rfl) (by kernel_rfl) (fun _ _ _ h => h) (Or.inl ⟨by rfl, ?_⟩) hHeld ?_
                rotate_left
                · (intro w hSw; go_simp; try with_reducible rfl)
                (try simp only [Act.put, List.setIfInBounds_toArray, List.set_cons_zero, List.set_cons_succ])
                refine wpAnyH_take (i := 22) (oi := { dst := some 65, op := Op.load 9 (Operand.tmp 64), type := 9, pos := "outright.go:80", after := #[{ on := 21, ground := Ground.data }, { on := 14, ground := Ground.guard }], guard := some (14, true) }) (v := ?_) rfl (by kernel_rfl) (by kernel_rfl) (by kernel_rfl) (fun _ _ _ h => h) (Or.inl ⟨by rfl, ?_⟩) hHeld ?_
                rotate_left
                · (intro w hSw; have p0 : w.cell? ⟨b7, 0, none⟩ = some (.string ⟨y.path.toArray⟩) := (HX5.out.on hSw).cell (k := 0) rfl; go_simp; try with_reducible rfl)
                (try simp only [Act.put, List.setIfInBounds_toArray, List.set_cons_zero, List.set_cons_succ])
                refine wpAnyH_ready (rs := [23]) (by kernel_rfl) (by simp) (AllReadyH.cons (o := { dst := some 66, op := Op.call { callee := Callee.value (Operand.func 34), args := #[Operand.tmp 63, Operand.tmp 65], argTypes := #[9, 9] }, type := 3, pos := "outright.go:80", after := #[{ on := 20, ground := Ground.data }, { on := 22, ground := Ground.data }, { on := 14, ground := Ground.chain }, { on := 14, ground := Ground.guard }], guard := some (14, true) }) rfl (fun K hK => ?_) AllReadyH.nil)
                · go_simp
                  refine (HCM.out _).mono ?_
                  rintro e v102 ⟨rfl, hba⟩
                  refine hK.out _ _ (bch hHeld hba) (fun hHeld => ?_)
                  clear hba
                  (try simp only [Act.put, List.setIfInBounds_toArray, List.set_cons_zero, List.set_cons_succ])
                  refine wpAnyH_take (i := 24) (oi := { dst := some 67, op := Op.binOp BinOp.geq 3 (Operand.tmp 66) (Operand.const (Value.int IntKind.i64 0)) 3, type := 4, pos := "outright.go:80", after := #[{ on := 23, ground := Ground.data }, { on := 14, ground := Ground.guard }], guard := some (14, true) }) (v := ?_) rfl (by kernel_rfl) (by kernel_rfl) (by kernel_rfl) (fun _ _ _ h => h) (Or.inl ⟨by rfl, ?_⟩) hHeld ?_
                  rotate_left
                  · (intro w hSw; go_simp; try with_reducible rfl)
                  (try simp only [Act.put, List.setIfInBounds_toArray, List.set_cons_zero, List.set_cons_succ])
                  refine wpAnyH_take (i := 25) (oi := { dst := some 68, op := Op.pick (Operand.tmp 57) (Operand.tmp 67) (Operand.const (Value.bool false)), type := 4, pos := "outright.go:80", after := #[{ on := 14, ground := Ground.data }, { on := 24, ground := Ground.data }, { on := 11, ground := Ground.guard }], guard := some (11, false) }) (v := ?_) rfl (by kernel_rfl) (by kernel_rfl) (by kernel_rfl) (fun _ _ _ h => h) (Or.inl ⟨by rfl, ?_⟩) hHeld ?_
                  rotate_left
                  · (intro w hSw; go_simp; try with_reducible rfl)
                  (try simp only [Act.put, List.setIfInBounds_toArray, List.set_cons_zero, List.set_cons_succ])
                  refine wpAnyH_take (i := 26) (oi := { dst := some 69, op := Op.pick (Operand.tmp 54) (Operand.const (Value.bool true)) (Operand.tmp 68), type := 4, pos := "outright.go:80", after := #[{ on := 11, ground := Ground.data }, { on := 25, ground := Ground.data }], guard := none }) (v := ?_) rfl (by kernel_rfl) (by kernel_rfl) (by kernel_rfl) (fun _ _ _ h => h) (Or.inl ⟨by rfl, ?_⟩) hHeld ?_
                  rotate_left
                  · (intro w hSw; go_simp; try with_reducible rfl)
                  (try simp only [Act.put, List.setIfInBounds_toArray, List.set_cons_zero, List.set_cons_succ])
                  refine wpAnyH_done (by kernel_rfl) ?_ _
                  have HD := Lib.hid hHeld
                  clear hHeld
                  obtain ⟨w8, hw8⟩ : ∃ z, z = v102 := ⟨_, rfl⟩
                  rw [← hw8] at HD ⊢
                  clear hw8
                  have HX8 := Lib.hid (HX5.out.on HD.out)
                  have HO8 := Lib.hid (ownR_below HO5.out HD.out)
                  have HB8 := Lib.hid (bch HB5.out HD.out)
                  clear HD HO5 HX5 HB5 HPV HG tg tgd
                  have p0 : w8.cell? ⟨b7, 0, none⟩ = some (.string ⟨y.path.toArray⟩) := HX8.out.cell (k := 0) rfl
                  go_wp2_with fail
                  clear p0
                  refine (HUP.out _).mono ?_
                  rintro e w9 ⟨rfl, hb⟩
                  have HX9 := Lib.hid (HX8.out.on hb)
                  have HO9 := Lib.hid (ownR_below HO8.out hb)
                  have HB9 := Lib.hid (bch HB8.out hb)
                  clear hb HX8 HO8 HB8
                  by_cases he : u = p
                  · have t1 : (u == p) = true := by simp [he]
                    have HR : Hid (kL p (M.take (j + 1 + 1)) = kL p (M.take (j + 1)) ++ [yb]) := Lib.hid (by rw [HKL.out, if_pos he])
                    clear he
                    have p0 : w9.cell? ⟨b7, 0, none⟩ = some (.string ⟨y.path.toArray⟩) := HX9.out.cell (k := 0) rfl
                    go_wp2_with fail
                    clear p0
                    refine (HBA.out _).mono ?_
                    rintro e w10 ⟨rfl, hb⟩
                    have HB10 := Lib.hid (bch HB9.out hb)
                    have HO10 := Lib.hid (ownR_below HO9.out hb)
                    have HBQ : Hid (∀ z, (Value.slice a3 m c3).ownBlock = some z → wb.heap.size ≤ z) := Lib.hid (fun z hz => (ownR_blk HO10.out hz).1)
                    have hws : wb.heap.size ≤ w10.heap.size := HB10.out.size
                    clear hb HO9
                    go_wp2_with (at_builtin; refine wpList_append_own _ rfl _ _ 41 rfl wb.heap.size 9 i0 (.string ⟨#[]⟩) 1 16 Tryz.underlying41 hi hz0 hz1 hz2 rfl (by decide) _ _ _ rfl (HO10.out.alloc _) ⟨w10.heap.size, 0, none⟩ 1 1 [.string ⟨yb.toArray⟩] rfl rfl (cell_one_new _ _ _) (by simp [Value.oneCell']) (by unfold maxLen; omega) (by omega) (by simp; omega) ?_)
                    intro v12 w12 hown9 hgrow9 _
                    have HB12 : Hid (Below wb.heap.size wb w12) := Lib.hid ((HB10.out.alloc hws _).grown hgrow9 (by simp; omega) HBQ.out)
                    obtain ⟨g9, c9, rfl⟩ := ownsRow_succ hown9
                    have HO12 := Lib.hid hown9
                    clear hown9 hgrow9
                    go_wp2_with fail
                    go_roundw
                    case rel => exact ⟨j + 1 + 1, m + 1, _, _, rfl, hlt, by go_num, Lib.hid (by rw [HR.out, List.length_append, ← HM.out]; rfl), Lib.hid (by rw [HR.out, List.map_append]; exact HO12.out), HB12⟩
                    case measure => simp [Lib.intOf]; omega
                  · have t1 : (u == p) = false := by simp [he]
                    have HR : Hid (kL p (M.take (j + 1 + 1)) = kL p (M.take (j + 1))) := Lib.hid (by rw [HKL.out, if_neg he, List.append_nil])
                    clear he
                    go_wp2_with fail
                    go_roundw
                    case rel => exact ⟨j + 1 + 1, m, _, _, rfl, hlt, by go_num, Lib.hid (by rw [HR.out]; exact HM.out), Lib.hid (by rw [HR.out]; exact HO9.out), HB9⟩
                    case measure => simp [Lib.intOf]; omega
          · have k1 : ¬ ((k : Int) < (ln : Int)) := by omega
            have HKM : Hid (kL p (M.take k) = S) := Lib.hid (by rw [HSK.out, List.take_of_length_le (by have := HLN.out; omega)])
            have HML2 : Hid (m = S.length) := Lib.hid (by rw [← HKM.out]; exact HM.out)
            have XT := Lib.hid (XT.out.on HBk.out)
            have OT := Lib.hid (OT.out.on HBk.out)
            have OM := Lib.hid (OM.out.on HBk.out)
            have OS := Lib.hid (OS.out.on HBk.out)
            have HB := Lib.hid (bch HB.out HBk.out)
            have HEQ : Hid (Calls Tryz.prog 25 #[.slice a3 m c3, .slice ka kn kc] wq fun e w' => e = .returned (.bool true) ∧ ∃ q, w' = wq.drewN q) := Lib.hid (by
              have h1 := HO.out
              rw [HKM.out, HML2.out] at h1
              have h9 := eq_any S S _ 0 (.slice a3 S.length c3) (.slice ka kn kc) wq h1 OS.out HSL.out HSL.out
              rw [decide_eq_true rfl, ← HML2.out] at h9
              exact h9)
            clear HO HM HBk
            go_wp2_with fail
            refine HEQ.out.mono ?_
            rintro e w16 ⟨rfl, q9, rfl⟩
            clear HEQ
            obtain ⟨w17, hw17⟩ : ∃ z, z = wq.drewN q9 := ⟨_, rfl⟩
            have hb : Below wq.heap.size wq w17 := by rw [hw17]; exact below_drewN' (Below.refl _ _) _
            rw [← hw17]
            clear hw17
            have XT := Lib.hid (XT.out.on hb)
            have OT := Lib.hid (OT.out.on hb)
            have OM := Lib.hid (OM.out.on hb)
            have HB := Lib.hid (bch HB.out hb)
            clear hb OS
            by_cases hr : p = [47]
            · have t47 : (p == [47]) = true := by simp [hr]
              have HEL : Hid (M = L) := Lib.hid (by rw [HMM.out, hr]; exact bel_root HOK.out.symm)
              clear hr
              have p0 := XT.out.cell (k := 0) rfl
              go_wp2_with fail
              clear p0
              refine (equal_any M L _ _ w17 OM.out.rd OT.out.rd).mono ?_
              rintro e w18 ⟨he, hb⟩
              rw [decide_eq_true HEL.out] at he
              subst he
              have XT := Lib.hid (XT.out.on hb)
              have OT := Lib.hid (OT.out.on hb)
              have HB := Lib.hid (bch HB.out hb)
              clear hb OM
              have p0 := XT.out.cell (k := 0) rfl
              go_wp2_with fail
              clear p0
              refine (clone_any L _ w18 OT.out.rd (Nat.le_trans HLM.out (by decide))).mono ?_
              rintro e w19 ⟨x, rfl, hI, hb⟩
              have hI2 : OwnI w19 w18.heap.size x L := hI
              obtain ⟨a5, c5, rfl, hnc5, hcm5⟩ := own_slice hI2
              rw [← HN1.out] at hI2 hnc5 ⊢
              unfold maxLen at hcm5
              have OC : Hid (OwnI w19 w.heap.size (.slice a5 n1 c5) L) := Lib.hid (own_base hI2 HB.out.size)
              have XT := Lib.hid (XT.out.on hb)
              have OT := Lib.hid (OT.out.on hb)
              have HB := Lib.hid (bch HB.out hb)
              clear hI hI2 hb
              have hn2 : n1 ≤ 2001 := by rw [HN1.out]; exact HLM.out
              by_cases hn0 : n1 = 0
              · have tn : ¬ ((0 : Int) < (n1 : Int)) := by omega
                have HPM : Hid (L.Perm L) := Lib.hid (List.Perm.refl _)
                clear hn0
                obtain ⟨w24, hw24⟩ : ∃ z, z = w19 := ⟨_, rfl⟩
                rw [← hw24] at XT OT HB OC ⊢
                clear hw24
                go_wp2_with fail
                have HXC : Hid (∀ x ∈ L, x.path.length ≤ 140737488355328) := Lib.hid (fun x h => HXL.out x (h))
                refine (tof_any L _ w24 OC.out.rd HXC.out (HT.out.on HB.out).tab).mono ?_
                rintro e w25 ⟨xa, xn, xc, rfl, hxn, hI, hb⟩
                have htr := trees_yes HPM.out.symm HOK.out.symm
                have hof : ofL L = L := by unfold ofL; rw [htr.1, if_pos rfl]; exact htr.2
                rw [hof] at hxn hI
                rw [htr.1, if_pos rfl]
                clear htr hof
                obtain ⟨VN, hVN⟩ : ∃ z, z = (w25.alloc (.cells #[.slice none 0 0] 24)).setRow w25.heap.size #[.slice xa xn xc] := ⟨_, rfl⟩
                obtain ⟨bN, hbN⟩ : ∃ z, z = w25.heap.size := ⟨_, rfl⟩
                have hnN : Below w25.heap.size w25 VN := by rw [hVN]; exact below_row (below_new _ _) (Nat.le_refl _) _
                have XN : Hid (Box VN bN 24 #[.slice xa xn xc]) := Lib.hid (by rw [hVN, hbN]; exact box_new.row _)
                have HVN := Lib.hid hVN
                have HWN := Lib.hid hbN
                have ON := Lib.hid (hI.on hnN)
                have XT := Lib.hid ((XT.out.on hb).on hnN)
                have OT := Lib.hid ((OT.out.on hb).on hnN)
                have HB := Lib.hid (bch HB.out (bch hb hnN))
                clear hVN hbN hnN hI hb hxn OC
                have p0 := XN.out.cell (k := 0) rfl
                have p1 := XT.out.cell (k := 0) rfl
                go_wp2_with (first | (refine wpList_store_row rfl 24 (.tmp 15) (.tmp 125) rfl w25.heap.size #[.slice xa xn xc] rfl rfl 24 #[.slice none 0 0] box_new (info24 _) rfl (slice_one _ _ _) ?_; rw [← HVN.out, ← HWN.out]) | fail)
                refine (same_any L L _ _ VN ON.out.rd OT.out.rd).mono ?_
                rintro e w26 ⟨he, hb⟩
                rw [decide_eq_true rfl] at he
                subst he
                have HB := Lib.hid (bch HB.out hb)
                clear hb p0 p1
                go_wp2_with fail
                go_ret
                exact ⟨rfl, HB.out⟩
              · have tn : (0 : Int) < (n1 : Int) := by omega
                obtain ⟨ka9, hka9⟩ : ∃ t : Nat, (t : Int) = z % 18446744073709551616 % (n1 : Int) := ⟨(z % 18446744073709551616 % (n1 : Int)).toNat, by
                  have := Int.emod_nonneg (z % 18446744073709551616) (show (n1 : Int) ≠ 0 by omega)
                  omega⟩
                have hkl : ka9 < n1 := by
                  have := Int.emod_lt_of_pos (z % 18446744073709551616) tn
                  omega
                have cw1 : IntKind.u64.wrap z = z % 18446744073709551616 := by simp [IntKind.wrap, IntKind.bits, IntKind.signed]
                have cw2 : IntKind.u64.wrap (n1 : Int) = (n1 : Int) := by simp [IntKind.wrap, IntKind.bits, IntKind.signed]; omega
                have cw3 : (z % 18446744073709551616).tmod (n1 : Int) = (ka9 : Int) := by rw [Int.tmod_eq_emod_of_nonneg (Int.emod_nonneg _ (by decide))]; exact hka9.symm
                have cw4 : IntKind.u64.wrap (ka9 : Int) = (ka9 : Int) := by simp [IntKind.wrap, IntKind.bits, IntKind.signed]; omega
                have cw5b : IntKind.i64.wrap (ka9 : Int) = (ka9 : Int) := IntWalk.i64_in _ (by omega)
                have cw6 : ((n1 : Int) == 0) = false := by simp; omega
                obtain ⟨g5, e5, hgf⟩ : ∃ g5, a5 = some ⟨g5, 0, none⟩ ∧ g5 < w19.heap.size := by
                  rcases own_form OC.out with ⟨h, _⟩ | ⟨b, c', e, _, hb, _⟩
                  · have := HN1.out; rw [h] at this; exact absurd this hn0
                  · cases e; exact ⟨b, rfl, hb⟩
                subst e5
                clear hka9
                go_upto_region 21 with fail
                have d1 : (0 : Int) ≤ (ka9 : Int) := by omega
                have d2 : (ka9 : Int) ≤ (n1 : Int) := by omega
                have d3 : (n1 : Int) ≤ (c5 : Int) := by omega
                have d4 : (ka9 : Int) ≤ (c5 : Int) := by omega
                have hcne : ¬ c5 = ka9 := by omega
                have hkl2 : ka9 ≤ n1 := by omega
                have HDL : Hid ((L.drop ka9).length = n1 - ka9) := Lib.hid (by rw [List.length_drop, ← HN1.out])
                have HTL : Hid ((L.take ka9).length = ka9) := Lib.hid (by rw [List.length_take, ← HN1.out]; omega)
                have HRD : Hid (RdI w19 (.slice (some ⟨g5, ka9 * 3, none⟩) (n1 - ka9) (c5 - ka9)) (L.drop ka9)) := Lib.hid (rd_dropI HN1.out OC.out hkl2)
                have HTK : Hid (∀ j u, (flatI (L.take ka9))[j]? = some u → w19.cell? ⟨g5, j, none⟩ = some u) := Lib.hid (cell_takeI HN1.out OC.out hkl2)
                have HG5 : Hid (g5 < w19.heap.size) := Lib.hid hgf
                obtain ⟨i0, hi9, hz0, hz1, hz2⟩ := info_parts info35z
                have HXB : Hid (bT < w19.heap.size) := Lib.hid XT.out.lt
                have HOB : Hid (∀ k, (Value.slice a1 n1 c1).ownBlock = some k → k < w19.heap.size) := Lib.hid (fun k hk => (ownR_lt OT.out k hk))
                clear hgf cw1 cw2 cw3 cw4 cw5b cw6
                obtain ⟨v0, hv0⟩ : ∃ z, z = World.drew w19 := ⟨_, rfl⟩
                refine wp_region_held_drew (S := fun w' => Below w19.heap.size w19 w') (by kernel_rfl) (Below.refl _ _).drew (fun hHeld => ?_)
                rw [← hv0] at hHeld ⊢
                clear hv0
                refine wpAnyH_take (i := 0) (oi := { dst := some 110, op := Op.move (Operand.tmp 13), type := 22, pos := "outright.go:94", after := #[], guard := none }) (v := ?_) rfl (by kernel_rfl) (by kernel_rfl) (by kernel_rfl) (fun _ _ _ h => h) (Or.inl ⟨by rfl, ?_⟩) hHeld ?_
                rotate_left
                · (intro w hSw; go_simp; try with_reducible rfl)
                (try simp only [Act.put, List.setIfInBounds_toArray, List.set_cons_zero, List.set_cons_succ])
                refine wpAnyH_take (i := 1) (oi := { dst := some 111, op := Op.move (Operand.tmp 14), type := 3, pos := "outright.go:94", after := #[], guard := none }) (v := ?_) rfl (by kernel_rfl) (by kernel_rfl) (by kernel_rfl) (fun _ _ _ h => h) (Or.inl ⟨by rfl, ?_⟩) hHeld ?_
                rotate_left
                · (intro w hSw; go_simp; try with_reducible rfl)
                (try simp only [Act.put, List.setIfInBounds_toArray, List.set_cons_zero, List.set_cons_succ])
                refine wpAnyH_take (i := 2) (oi := { dst := some 112, op := Op.slice 22 (Operand.tmp 110) (some (Operand.tmp 111)) none none, type := 22, pos := "outright.go:94", after := #[{ on := 0, ground := Ground.data }, { on := 1, ground := Ground.data }], guard := none }) (v := ?_) rfl (by kernel_rfl) (by kernel_rfl) (by kernel_rfl) (fun _ _ _ h => h) (Or.inl ⟨by rfl, ?_⟩) hHeld ?_
                rotate_left
                · (intro w hSw; go_simp; try with_reducible rfl)
                (try simp only [Act.put, List.setIfInBounds_toArray, List.set_cons_zero, List.set_cons_succ])
                refine wpAnyH_take (i := 4) (oi := { dst := some 114, op := Op.move (Operand.tmp 13), type := 22, pos := "outright.go:94", after := #[], guard := none }) (v := ?_) rfl (by kernel_rfl) (by kernel_rfl) (by kernel_rfl) (fun _ _ _ h => h) (Or.inl ⟨by rfl, ?_⟩) hHeld ?_
                rotate_left
                · (intro w hSw; go_simp; try with_reducible rfl)
                (try simp only [Act.put, List.setIfInBounds_toArray, List.set_cons_zero, List.set_cons_succ])
                refine wpAnyH_take (i := 5) (oi := { dst := some 115, op := Op.move (Operand.tmp 14), type := 3, pos := "outright.go:94", after := #[], guard := none }) (v := ?_) rfl (by kernel_rfl) (by kernel_rfl) (by kernel_rfl) (fun _ _ _ h => h) (Or.inl ⟨by rfl, ?_⟩) hHeld ?_
                rotate_left
                · (intro w hSw; go_simp; try with_reducible rfl)
                (try simp only [Act.put, List.setIfInBounds_toArray, List.set_cons_zero, List.set_cons_succ])
                refine wpAnyH_take (i := 6) (oi := { dst := some 116, op := Op.slice 22 (Operand.tmp 114) none (some (Operand.tmp 115)) none, type := 22, pos := "outright.go:94", after := #[{ on := 4, ground := Ground.data }, { on := 5, ground := Ground.data }], guard := none }) (v := ?_) rfl (by kernel_rfl) (by kernel_rfl) (by kernel_rfl) (fun _ _ _ h => h) (Or.inl ⟨by rfl, ?_⟩) hHeld ?_
                rotate_left
                · (intro w hSw; go_simp; try with_reducible rfl)
                (try simp only [Act.put, List.setIfInBounds_toArray, List.set_cons_zero, List.set_cons_succ])
                refine wpAnyH_ready (rs := [3]) (by kernel_rfl) (by simp) (AllReadyH.cons (o := { dst := some 113, op := Op.call { callee := Callee.value (Operand.func 13), args := #[Operand.tmp 112], argTypes := #[22] }, type := 22, pos := "outright.go:94", after := #[{ on := 2, ground := Ground.data }], guard := none }) rfl (fun K hK => ?_) AllReadyH.nil)
                · go_simp
                  refine (clone_any (L.drop ka9) _ v0 (HRD.out.on hHeld) (by rw [HDL.out]; omega)).mono ?_
                  rintro e v101 ⟨x, rfl, hI, hba⟩
                  have hI2 : OwnI v101 v0.heap.size x (L.drop ka9) := hI
                  obtain ⟨a7, c7, rfl, _, _⟩ := own_slice hI2
                  rw [HDL.out] at hI ⊢
                  have OK7 : Hid (v101.ownsRow w19.heap.size 33 3 (.slice a7 (n1 - ka9) c7) (n1 - ka9) (flatI (L.drop ka9))) := Lib.hid (own_base hI hHeld.size)
                  refine hK.out _ _ (bch hHeld hba) (fun hHeld => ?_)
                  clear hI hI2 hba
                  (try simp only [Act.put, List.setIfInBounds_toArray, List.set_cons_zero, List.set_cons_succ])
                  refine wpAnyH_ready (rs := [7]) (by kernel_rfl) (by simp) (AllReadyH.cons (o := { dst := some 117, op := Op.call { callee := Callee.builtin Builtin.append, args := #[Operand.tmp 113, Operand.tmp 116], argTypes := #[22, 22] }, type := 22, pos := "outright.go:94", after := #[{ on := 3, ground := Ground.data }, { on := 6, ground := Ground.data }, { on := 3, ground := Ground.chain }], guard := none }) rfl (fun K hK => ?_) AllReadyH.nil)
                  · refine wp_append_own _ (.tmp 113) (.tmp 116) 22 rfl w19.heap.size 33 i0 (.agg It.nil.arr) 3 40 Tryz.underlying22 hi9 hz0 hz1 hz2 rfl (by decide) _ (n1 - ka9) _ rfl OK7.out ⟨g5, 0, none⟩ ka9 c5 (flatI (L.take ka9)) rfl (by rw [flatI_len, HTL.out]) (fun j u hu => by rw [add_to, Nat.zero_add]; exact (hHeld.cell (p := ⟨g5, j, none⟩) HG5.out).trans (HTK.out j u hu)) (flatI_one _) (by unfold maxLen; omega) (by omega) hHeld.size ?_
                    intro v' v102 hown' hgrow _
                    have HB102 : Hid (Below w19.heap.size w19 v102) := Lib.hid (hHeld.grown hgrow hHeld.size (fun q hq => (ownR_blk OK7.out hq).1))
                    rw [show n1 - ka9 + ka9 = n1 by omega, ← flatI_append] at hown'
                    have O8 : Hid (OwnI v102 w19.heap.size v' (L.drop ka9 ++ L.take ka9)) := Lib.hid (by unfold OwnI; rw [List.length_append, HDL.out, HTL.out, show n1 - ka9 + ka9 = n1 by omega]; exact hown')
                    obtain ⟨g8, c8, e8, _, hg8, hnc8, hcm8⟩ := own_some hown' (by omega)
                    subst e8
                    refine hK.out _ _ HB102.out (fun hHeld => ?_)
                    clear hown' hgrow
                    (try simp only [Act.put, List.setIfInBounds_toArray, List.set_cons_zero, List.set_cons_succ])
                    refine wpAnyH_take (i := 8) (oi := { dst := some 13, op := Op.assign (Operand.tmp 117), type := 22, pos := "outright.go:94", after := #[{ on := 7, ground := Ground.data }, { on := 7, ground := Ground.chain }, { on := 0, ground := Ground.phase }, { on := 1, ground := Ground.phase }, { on := 2, ground := Ground.phase }, { on := 3, ground := Ground.phase }, { on := 4, ground := Ground.phase }, { on := 5, ground := Ground.phase }, { on := 6, ground := Ground.phase }, { on := 7, ground := Ground.phase }], guard := none }) (v := ?_) rfl (by kernel_rfl) (by kernel_rfl) (by kernel_rfl) (fun _ _ _ h => h) (Or.inl ⟨by rfl, ?_⟩) hHeld ?_
                    rotate_left
                    · (intro w hSw; go_simp; try with_reducible rfl)
                    (try simp only [Act.put, List.setIfInBounds_toArray, List.set_cons_zero, List.set_cons_succ])
                    refine wpAnyH_done (by kernel_rfl) ?_ _
                    have HD := Lib.hid hHeld
                    clear hHeld
                    have XT := Lib.hid (XT.out.on HD.out)
                    have OT := Lib.hid (OT.out.on HD.out)
                    have HL8 : Hid (n1 = (L.drop ka9 ++ L.take ka9).length) := Lib.hid (by rw [List.length_append, HDL.out, HTL.out]; omega)
                    have HS8 : Hid (w.heap.size ≤ w19.heap.size) := Lib.hid HB.out.size
                    have HB := Lib.hid (bch HB.out HD.out)
                    clear OC HRD HTK HG5 HD
                    have e1 : (ka9 : Int) ≤ (c8 : Int) := by omega
                    go_wp2_with fail
                    refine (rev_any (L.drop ka9 ++ L.take ka9) w19.heap.size g8 n1 c8 ka9 v102 HL8.out O8.out hkl2 (by rw [← HL8.out]; omega)).mono ?_
                    rintro e w24 ⟨rfl, hI, hb⟩
                    have OC : Hid (OwnI w24 w.heap.size (.slice (some ⟨g8, 0, none⟩) n1 c8) (turnL (L.drop ka9 ++ L.take ka9) ka9)) := Lib.hid (own_base hI HS8.out)
                    have XT := Lib.hid (XT.out.below hb HXB.out)
                    have OT := Lib.hid (own_belowB OT.out hb HOB.out)
                    have HB := Lib.hid (HB.out.trans (hb.mono HS8.out))
                    have HPM : Hid ((turnL (L.drop ka9 ++ L.take ka9) ka9).Perm L) := Lib.hid ((turn_perm _ _).trans (drop_take_perm L ka9))
                    clear hI hb O8
                    go_wp2_with fail
                    have HXC : Hid (∀ x ∈ (turnL (L.drop ka9 ++ L.take ka9) ka9), x.path.length ≤ 140737488355328) := Lib.hid (fun x h => HXL.out x (HPM.out.mem_iff.1 h))
                    refine (tof_any (turnL (L.drop ka9 ++ L.take ka9) ka9) _ w24 OC.out.rd HXC.out (HT.out.on HB.out).tab).mono ?_
                    rintro e w25 ⟨xa, xn, xc, rfl, hxn, hI, hb⟩
                    have htr := trees_yes HPM.out.symm HOK.out.symm
                    have hof : ofL (turnL (L.drop ka9 ++ L.take ka9) ka9) = L := by unfold ofL; rw [htr.1, if_pos rfl]; exact htr.2
                    rw [hof] at hxn hI
                    rw [htr.1, if_pos rfl]
                    clear htr hof
                    obtain ⟨VN, hVN⟩ : ∃ z, z = (w25.alloc (.cells #[.slice none 0 0] 24)).setRow w25.heap.size #[.slice xa xn xc] := ⟨_, rfl⟩
                    obtain ⟨bN, hbN⟩ : ∃ z, z = w25.heap.size := ⟨_, rfl⟩
                    have hnN : Below w25.heap.size w25 VN := by rw [hVN]; exact below_row (below_new _ _) (Nat.le_refl _) _
                    have XN : Hid (Box VN bN 24 #[.slice xa xn xc]) := Lib.hid (by rw [hVN, hbN]; exact box_new.row _)
                    have HVN := Lib.hid hVN
                    have HWN := Lib.hid hbN
                    have ON := Lib.hid (hI.on hnN)
                    have XT := Lib.hid ((XT.out.on hb).on hnN)
                    have OT := Lib.hid ((OT.out.on hb).on hnN)
                    have HB := Lib.hid (bch HB.out (bch hb hnN))
                    clear hVN hbN hnN hI hb hxn OC
                    have p0 := XN.out.cell (k := 0) rfl
                    have p1 := XT.out.cell (k := 0) rfl
                    go_wp2_with (first | (refine wpList_store_row rfl 24 (.tmp 15) (.tmp 125) rfl w25.heap.size #[.slice xa xn xc] rfl rfl 24 #[.slice none 0 0] box_new (info24 _) rfl (slice_one _ _ _) ?_; rw [← HVN.out, ← HWN.out]) | fail)
                    refine (same_any L L _ _ VN ON.out.rd OT.out.rd).mono ?_
                    rintro e w26 ⟨he, hb⟩
                    rw [decide_eq_true rfl] at he
                    subst he
                    have HB := Lib.hid (bch HB.out hb)
                    clear hb p0 p1
                    go_wp2_with fail
                    go_ret
                    exact ⟨rfl, HB.out⟩
            · have t47 : (p == [47]) = false := by simp [hr]
              clear hr OM
              obtain ⟨w18, hw18⟩ : ∃ z, z = w17 := ⟨_, rfl⟩
              rw [← hw18] at XT OT HB ⊢
              clear hw18
              have p0 := XT.out.cell (k := 0) rfl
              go_wp2_with fail
              clear p0
              refine (clone_any L _ w18 OT.out.rd (Nat.le_trans HLM.out (by decide))).mono ?_
              rintro e w19 ⟨x, rfl, hI, hb⟩
              have hI2 : OwnI w19 w18.heap.size x L := hI
              obtain ⟨a5, c5, rfl, hnc5, hcm5⟩ := own_slice hI2
              rw [← HN1.out] at hI2 hnc5 ⊢
              unfold maxLen at hcm5
              have OC : Hid (OwnI w19 w.heap.size (.slice a5 n1 c5) L) := Lib.hid (own_base hI2 HB.out.size)
              have XT := Lib.hid (XT.out.on hb)
              have OT := Lib.hid (OT.out.on hb)
              have HB := Lib.hid (bch HB.out hb)
              clear hI hI2 hb
              have hn2 : n1 ≤ 2001 := by rw [HN1.out]; exact HLM.out
              by_cases hn0 : n1 = 0
              · have tn : ¬ ((0 : Int) < (n1 : Int)) := by omega
                have HPM : Hid (L.Perm L) := Lib.hid (List.Perm.refl _)
                clear hn0
                obtain ⟨w24, hw24⟩ : ∃ z, z = w19 := ⟨_, rfl⟩
                rw [← hw24] at XT OT HB OC ⊢
                clear hw24
                go_wp2_with fail
                have HXC : Hid (∀ x ∈ L, x.path.length ≤ 140737488355328) := Lib.hid (fun x h => HXL.out x (h))
                refine (tof_any L _ w24 OC.out.rd HXC.out (HT.out.on HB.out).tab).mono ?_
                rintro e w25 ⟨xa, xn, xc, rfl, hxn, hI, hb⟩
                have htr := trees_yes HPM.out.symm HOK.out.symm
                have hof : ofL L = L := by unfold ofL; rw [htr.1, if_pos rfl]; exact htr.2
                rw [hof] at hxn hI
                rw [htr.1, if_pos rfl]
                clear htr hof
                obtain ⟨VN, hVN⟩ : ∃ z, z = (w25.alloc (.cells #[.slice none 0 0] 24)).setRow w25.heap.size #[.slice xa xn xc] := ⟨_, rfl⟩
                obtain ⟨bN, hbN⟩ : ∃ z, z = w25.heap.size := ⟨_, rfl⟩
                have hnN : Below w25.heap.size w25 VN := by rw [hVN]; exact below_row (below_new _ _) (Nat.le_refl _) _
                have XN : Hid (Box VN bN 24 #[.slice xa xn xc]) := Lib.hid (by rw [hVN, hbN]; exact box_new.row _)
                have HVN := Lib.hid hVN
                have HWN := Lib.hid hbN
                have ON := Lib.hid (hI.on hnN)
                have XT := Lib.hid ((XT.out.on hb).on hnN)
                have OT := Lib.hid ((OT.out.on hb).on hnN)
                have HB := Lib.hid (bch HB.out (bch hb hnN))
                clear hVN hbN hnN hI hb hxn OC
                have p0 := XN.out.cell (k := 0) rfl
                have p1 := XT.out.cell (k := 0) rfl
                go_wp2_with (first | (refine wpList_store_row rfl 24 (.tmp 15) (.tmp 125) rfl w25.heap.size #[.slice xa xn xc] rfl rfl 24 #[.slice none 0 0] box_new (info24 _) rfl (slice_one _ _ _) ?_; rw [← HVN.out, ← HWN.out]) | fail)
                refine (same_any L L _ _ VN ON.out.rd OT.out.rd).mono ?_
                rintro e w26 ⟨he, hb⟩
                rw [decide_eq_true rfl] at he
                subst he
                have HB := Lib.hid (bch HB.out hb)
                clear hb p0 p1
                go_wp2_with fail
                go_ret
                exact ⟨rfl, HB.out⟩
              · have tn : (0 : Int) < (n1 : Int) := by omega
                obtain ⟨ka9, hka9⟩ : ∃ t : Nat, (t : Int) = z % 18446744073709551616 % (n1 : Int) := ⟨(z % 18446744073709551616 % (n1 : Int)).toNat, by
                  have := Int.emod_nonneg (z % 18446744073709551616) (show (n1 : Int) ≠ 0 by omega)
                  omega⟩
                have hkl : ka9 < n1 := by
                  have := Int.emod_lt_of_pos (z % 18446744073709551616) tn
                  omega
                have cw1 : IntKind.u64.wrap z = z % 18446744073709551616 := by simp [IntKind.wrap, IntKind.bits, IntKind.signed]
                have cw2 : IntKind.u64.wrap (n1 : Int) = (n1 : Int) := by simp [IntKind.wrap, IntKind.bits, IntKind.signed]; omega
                have cw3 : (z % 18446744073709551616).tmod (n1 : Int) = (ka9 : Int) := by rw [Int.tmod_eq_emod_of_nonneg (Int.emod_nonneg _ (by decide))]; exact hka9.symm
                have cw4 : IntKind.u64.wrap (ka9 : Int) = (ka9 : Int) := by simp [IntKind.wrap, IntKind.bits, IntKind.signed]; omega
                have cw5b : IntKind.i64.wrap (ka9 : Int) = (ka9 : Int) := IntWalk.i64_in _ (by omega)
                have cw6 : ((n1 : Int) == 0) = false := by simp; omega
                obtain ⟨g5, e5, hgf⟩ : ∃ g5, a5 = some ⟨g5, 0, none⟩ ∧ g5 < w19.heap.size := by
                  rcases own_form OC.out with ⟨h, _⟩ | ⟨b, c', e, _, hb, _⟩
                  · have := HN1.out; rw [h] at this; exact absurd this hn0
                  · cases e; exact ⟨b, rfl, hb⟩
                subst e5
                clear hka9
                go_upto_region 21 with fail
                have d1 : (0 : Int) ≤ (ka9 : Int) := by omega
                have d2 : (ka9 : Int) ≤ (n1 : Int) := by omega
                have d3 : (n1 : Int) ≤ (c5 : Int) := by omega
                have d4 : (ka9 : Int) ≤ (c5 : Int) := by omega
                have hcne : ¬ c5 = ka9 := by omega
                have hkl2 : ka9 ≤ n1 := by omega
                have HDL : Hid ((L.drop ka9).length = n1 - ka9) := Lib.hid (by rw [List.length_drop, ← HN1.out])
                have HTL : Hid ((L.take ka9).length = ka9) := Lib.hid (by rw [List.length_take, ← HN1.out]; omega)
                have HRD : Hid (RdI w19 (.slice (some ⟨g5, ka9 * 3, none⟩) (n1 - ka9) (c5 - ka9)) (L.drop ka9)) := Lib.hid (rd_dropI HN1.out OC.out hkl2)
                have HTK : Hid (∀ j u, (flatI (L.take ka9))[j]? = some u → w19.cell? ⟨g5, j, none⟩ = some u) := Lib.hid (cell_takeI HN1.out OC.out hkl2)
                have HG5 : Hid (g5 < w19.heap.size) := Lib.hid hgf
                obtain ⟨i0, hi9, hz0, hz1, hz2⟩ := info_parts info35z
                have HXB : Hid (bT < w19.heap.size) := Lib.hid XT.out.lt
                have HOB : Hid (∀ k, (Value.slice a1 n1 c1).ownBlock = some k → k < w19.heap.size) := Lib.hid (fun k hk => (ownR_lt OT.out k hk))
                clear hgf cw1 cw2 cw3 cw4 cw5b cw6
                obtain ⟨v0, hv0⟩ : ∃ z, z = World.drew w19 := ⟨_, rfl⟩
                refine wp_region_held_drew (S := fun w' => Below w19.heap.size w19 w') (by kernel_rfl) (Below.refl _ _).drew (fun hHeld => ?_)
                rw [← hv0] at hHeld ⊢
                clear hv0
                refine wpAnyH_take (i := 0) (oi := { dst := some 110, op := Op.move (Operand.tmp 13), type := 22, pos := "outright.go:94", after := #[], guard := none }) (v := ?_) rfl (by kernel_rfl) (by kernel_rfl) (by kernel_rfl) (fun _ _ _ h => h) (Or.inl ⟨by rfl, ?_⟩) hHeld ?_
                rotate_left
                · (intro w hSw; go_simp; try with_reducible rfl)
                (try simp only [Act.put, List.setIfInBounds_toArray, List.set_cons_zero, List.set_cons_succ])
                refine wpAnyH_take (i := 1) (oi := { dst := some 111, op := Op.move (Operand.tmp 14), type := 3, pos := "outright.go:94", after := #[], guard := none }) (v := ?_) rfl (by kernel_rfl) (by kernel_rfl) (by kernel_rfl) (fun _ _ _ h => h) (Or.inl ⟨by rfl, ?_⟩) hHeld ?_
                rotate_left
                · (intro w hSw; go_simp; try with_reducible rfl)
                (try simp only [Act.put, List.setIfInBounds_toArray, List.set_cons_zero, List.set_cons_succ])
                refine wpAnyH_take (i := 2) (oi := { dst := some 112, op := Op.slice 22 (Operand.tmp 110) (some (Operand.tmp 111)) none none, type := 22, pos := "outright.go:94", after := #[{ on := 0, ground := Ground.data }, { on := 1, ground := Ground.data }], guard := none }) (v := ?_) rfl (by kernel_rfl) (by kernel_rfl) (by kernel_rfl) (fun _ _ _ h => h) (Or.inl ⟨by rfl, ?_⟩) hHeld ?_
                rotate_left
                · (intro w hSw; go_simp; try with_reducible rfl)
                (try simp only [Act.put, List.setIfInBounds_toArray, List.set_cons_zero, List.set_cons_succ])
                refine wpAnyH_take (i := 4) (oi := { dst := some 114, op := Op.move (Operand.tmp 13), type := 22, pos := "outright.go:94", after := #[], guard := none }) (v := ?_) rfl (by kernel_rfl) (by kernel_rfl) (by kernel_rfl) (fun _ _ _ h => h) (Or.inl ⟨by rfl, ?_⟩) hHeld ?_
                rotate_left
                · (intro w hSw; go_simp; try with_reducible rfl)
                (try simp only [Act.put, List.setIfInBounds_toArray, List.set_cons_zero, List.set_cons_succ])
                refine wpAnyH_take (i := 5) (oi := { dst := some 115, op := Op.move (Operand.tmp 14), type := 3, pos := "outright.go:94", after := #[], guard := none }) (v := ?_) rfl (by kernel_rfl) (by kernel_rfl) (by kernel_rfl) (fun _ _ _ h => h) (Or.inl ⟨by rfl, ?_⟩) hHeld ?_
                rotate_left
                · (intro w hSw; go_simp; try with_reducible rfl)
                (try simp only [Act.put, List.setIfInBounds_toArray, List.set_cons_zero, List.set_cons_succ])
                refine wpAnyH_take (i := 6) (oi := { dst := some 116, op := Op.slice 22 (Operand.tmp 114) none (some (Operand.tmp 115)) none, type := 22, pos := "outright.go:94", after := #[{ on := 4, ground := Ground.data }, { on := 5, ground := Ground.data }], guard := none }) (v := ?_) rfl (by kernel_rfl) (by kernel_rfl) (by kernel_rfl) (fun _ _ _ h => h) (Or.inl ⟨by rfl, ?_⟩) hHeld ?_
                rotate_left
                · (intro w hSw; go_simp; try with_reducible rfl)
                (try simp only [Act.put, List.setIfInBounds_toArray, List.set_cons_zero, List.set_cons_succ])
                refine wpAnyH_ready (rs := [3]) (by kernel_rfl) (by simp) (AllReadyH.cons (o := { dst := some 113, op := Op.call { callee := Callee.value (Operand.func 13), args := #[Operand.tmp 112], argTypes := #[22] }, type := 22, pos := "outright.go:94", after := #[{ on := 2, ground := Ground.data }], guard := none }) rfl (fun K hK => ?_) AllReadyH.nil)
                · go_simp
                  refine (clone_any (L.drop ka9) _ v0 (HRD.out.on hHeld) (by rw [HDL.out]; omega)).mono ?_
                  rintro e v101 ⟨x, rfl, hI, hba⟩
                  have hI2 : OwnI v101 v0.heap.size x (L.drop ka9) := hI
                  obtain ⟨a7, c7, rfl, _, _⟩ := own_slice hI2
                  rw [HDL.out] at hI ⊢
                  have OK7 : Hid (v101.ownsRow w19.heap.size 33 3 (.slice a7 (n1 - ka9) c7) (n1 - ka9) (flatI (L.drop ka9))) := Lib.hid (own_base hI hHeld.size)
                  refine hK.out _ _ (bch hHeld hba) (fun hHeld => ?_)
                  clear hI hI2 hba
                  (try simp only [Act.put, List.setIfInBounds_toArray, List.set_cons_zero, List.set_cons_succ])
                  refine wpAnyH_ready (rs := [7]) (by kernel_rfl) (by simp) (AllReadyH.cons (o := { dst := some 117, op := Op.call { callee := Callee.builtin Builtin.append, args := #[Operand.tmp 113, Operand.tmp 116], argTypes := #[22, 22] }, type := 22, pos := "outright.go:94", after := #[{ on := 3, ground := Ground.data }, { on := 6, ground := Ground.data }, { on := 3, ground := Ground.chain }], guard := none }) rfl (fun K hK => ?_) AllReadyH.nil)
                  · refine wp_append_own _ (.tmp 113) (.tmp 116) 22 rfl w19.heap.size 33 i0 (.agg It.nil.arr) 3 40 Tryz.underlying22 hi9 hz0 hz1 hz2 rfl (by decide) _ (n1 - ka9) _ rfl OK7.out ⟨g5, 0, none⟩ ka9 c5 (flatI (L.take ka9)) rfl (by rw [flatI_len, HTL.out]) (fun j u hu => by rw [add_to, Nat.zero_add]; exact (hHeld.cell (p := ⟨g5, j, none⟩) HG5.out).trans (HTK.out j u hu)) (flatI_one _) (by unfold maxLen; omega) (by omega) hHeld.size ?_
                    intro v' v102 hown' hgrow _
                    have HB102 : Hid (Below w19.heap.size w19 v102) := Lib.hid (hHeld.grown hgrow hHeld.size (fun q hq => (ownR_blk OK7.out hq).1))
                    rw [show n1 - ka9 + ka9 = n1 by omega, ← flatI_append] at hown'
                    have O8 : Hid (OwnI v102 w19.heap.size v' (L.drop ka9 ++ L.take ka9)) := Lib.hid (by unfold OwnI; rw [List.length_append, HDL.out, HTL.out, show n1 - ka9 + ka9 = n1 by omega]; exact hown')
                    obtain ⟨g8, c8, e8, _, hg8, hnc8, hcm8⟩ := own_some hown' (by omega)
                    subst e8
                    refine hK.out _ _ HB102.out (fun hHeld => ?_)
                    clear hown' hgrow
                    (try simp only [Act.put, List.setIfInBounds_toArray, List.set_cons_zero, List.set_cons_succ])
                    refine wpAnyH_take (i := 8) (oi := { dst := some 13, op := Op.assign (Operand.tmp 117), type := 22, pos := "outright.go:94", after := #[{ on := 7, ground := Ground.data }, { on := 7, ground := Ground.chain }, { on := 0, ground := Ground.phase }, { on := 1, ground := Ground.phase }, { on := 2, ground := Ground.phase }, { on := 3, ground := Ground.phase }, { on := 4, ground := Ground.phase }, { on := 5, ground := Ground.phase }, { on := 6, ground := Ground.phase }, { on := 7, ground := Ground.phase }], guard := none }) (v := ?_) rfl (by kernel_rfl) (by kernel_rfl) (by kernel_rfl) (fun _ _ _ h => h) (Or.inl ⟨by rfl, ?_⟩) hHeld ?_
                    rotate_left
                    · (intro w hSw; go_simp; try with_reducible rfl)
                    (try simp only [Act.put, List.setIfInBounds_toArray, List.set_cons_zero, List.set_cons_succ])
                    refine wpAnyH_done (by kernel_rfl) ?_ _
                    have HD := Lib.hid hHeld
                    clear hHeld
                    have XT := Lib.hid (XT.out.on HD.out)
                    have OT := Lib.hid (OT.out.on HD.out)
                    have HL8 : Hid (n1 = (L.drop ka9 ++ L.take ka9).length) := Lib.hid (by rw [List.length_append, HDL.out, HTL.out]; omega)
                    have HS8 : Hid (w.heap.size ≤ w19.heap.size) := Lib.hid HB.out.size
                    have HB := Lib.hid (bch HB.out HD.out)
                    clear OC HRD HTK HG5 HD
                    have e1 : (ka9 : Int) ≤ (c8 : Int) := by omega
                    go_wp2_with fail
                    refine (rev_any (L.drop ka9 ++ L.take ka9) w19.heap.size g8 n1 c8 ka9 v102 HL8.out O8.out hkl2 (by rw [← HL8.out]; omega)).mono ?_
                    rintro e w24 ⟨rfl, hI, hb⟩
                    have OC : Hid (OwnI w24 w.heap.size (.slice (some ⟨g8, 0, none⟩) n1 c8) (turnL (L.drop ka9 ++ L.take ka9) ka9)) := Lib.hid (own_base hI HS8.out)
                    have XT := Lib.hid (XT.out.below hb HXB.out)
                    have OT := Lib.hid (own_belowB OT.out hb HOB.out)
                    have HB := Lib.hid (HB.out.trans (hb.mono HS8.out))
                    have HPM : Hid ((turnL (L.drop ka9 ++ L.take ka9) ka9).Perm L) := Lib.hid ((turn_perm _ _).trans (drop_take_perm L ka9))
                    clear hI hb O8
                    go_wp2_with fail
                    have HXC : Hid (∀ x ∈ (turnL (L.drop ka9 ++ L.take ka9) ka9), x.path.length ≤ 140737488355328) := Lib.hid (fun x h => HXL.out x (HPM.out.mem_iff.1 h))
                    refine (tof_any (turnL (L.drop ka9 ++ L.take ka9) ka9) _ w24 OC.out.rd HXC.out (HT.out.on HB.out).tab).mono ?_
                    rintro e w25 ⟨xa, xn, xc, rfl, hxn, hI, hb⟩
                    have htr := trees_yes HPM.out.symm HOK.out.symm
                    have hof : ofL (turnL (L.drop ka9 ++ L.take ka9) ka9) = L := by unfold ofL; rw [htr.1, if_pos rfl]; exact htr.2
                    rw [hof] at hxn hI
                    rw [htr.1, if_pos rfl]
                    clear htr hof
                    obtain ⟨VN, hVN⟩ : ∃ z, z = (w25.alloc (.cells #[.slice none 0 0] 24)).setRow w25.heap.size #[.slice xa xn xc] := ⟨_, rfl⟩
                    obtain ⟨bN, hbN⟩ : ∃ z, z = w25.heap.size := ⟨_, rfl⟩
                    have hnN : Below w25.heap.size w25 VN := by rw [hVN]; exact below_row (below_new _ _) (Nat.le_refl _) _
                    have XN : Hid (Box VN bN 24 #[.slice xa xn xc]) := Lib.hid (by rw [hVN, hbN]; exact box_new.row _)
                    have HVN := Lib.hid hVN
                    have HWN := Lib.hid hbN
                    have ON := Lib.hid (hI.on hnN)
                    have XT := Lib.hid ((XT.out.on hb).on hnN)
                    have OT := Lib.hid ((OT.out.on hb).on hnN)
                    have HB := Lib.hid (bch HB.out (bch hb hnN))
                    clear hVN hbN hnN hI hb hxn OC
                    have p0 := XN.out.cell (k := 0) rfl
                    have p1 := XT.out.cell (k := 0) rfl
                    go_wp2_with (first | (refine wpList_store_row rfl 24 (.tmp 15) (.tmp 125) rfl w25.heap.size #[.slice xa xn xc] rfl rfl 24 #[.slice none 0 0] box_new (info24 _) rfl (slice_one _ _ _) ?_; rw [← HVN.out, ← HWN.out]) | fail)
                    refine (same_any L L _ _ VN ON.out.rd OT.out.rd).mono ?_
                    rintro e w26 ⟨he, hb⟩
                    rw [decide_eq_true rfl] at he
                    subst he
                    have HB := Lib.hid (bch HB.out hb)
                    clear hb p0 p1
                    go_wp2_with fail
                    go_ret
                    exact ⟨rfl, HB.out⟩
end Go.Proofs.YtjbbnecegomkcaaGreatDoor

namespace Go.Proofs.YtjbbnecegomkcaaGreatDoor.TreeKidsP
open Go.ChangeShapes Go.WideShapes Go.ChangeAt Go.RowKit Go.Joins Go.Deep
open Go.ChangeMaps (open_string shut_string)

theorem met (os : Os) : laidMet Tryz.prog Rows.treeKidsRow.laid ((laidWorld os).forCall (fun _ _ => 0) ⟨#[], #[zeroTree, .string ⟨#[]⟩, .int .i64 0], []⟩).memory :=
  laid_met os _
theorem reads (os : Os) {H : Type} (enc : TypeId × Value → H) : ∃ places, DataW.whole enc Tryz.prog ((laidWorld os).forCall (fun _ _ => 0) ⟨#[], #[zeroTree, .string ⟨#[]⟩, .int .i64 0], []⟩).memory Tryz.f7.params.toList Rows.treeKidsSpec.vars false #[zeroTree, Value.string ⟨#[]⟩, Value.int .i64 0].toList 8 = some ([zeroTreeD, .lit (.string []), .lit (.int .i64 0)], [], places) :=
  ⟨[], by kernel_rfl⟩

set_option maxRecDepth 100000 in
theorem lifted (os : Os) (started : os.Started) (H : Type) (enc : TypeId × Value → H) (F : Stop.Interp) :
    ReturnsInHanded {} Tryz.checked os 7 .any ((OpenSpec.ofChange Rows.treeKidsSpec).preRow enc Tryz.prog Tryz.f7 Rows.treeKidsRow.domain false Rows.treeKidsRow.laid) (((OpenSpec.ofChange Rows.treeKidsSpec).at F).post enc Tryz.prog Tryz.f7 false true false false) := by
  obtain ⟨places, hx⟩ := reads os enc
  refine returnsInHanded_of_row (C := Tryz.checked) (s := OpenSpec.ofChange Rows.treeKidsSpec) own0 started (by kernel_rfl) Tryz.func7
    (witness_row_at (enc := enc) (C := Tryz.checked) false (laidWorld os) #[zeroTree, .string ⟨#[]⟩, .int .i64 0] rfl (by kernel_rfl) (by kernel_rfl) (by kernel_rfl)
      (OpenSpec.preRow_of_cond 8 hx (by kernel_rfl) (fun k hk => by cases hk) (by kernel_rfl) (met os))) ?_
  intro W base args ds gs before hval0 hW _ _ hsz0 hL hsh _
  have hval : ∀ (j : Nat) t v, Tryz.f7.params[j]? = some t → args[j]? = some v → Value.okWide Tryz.prog W .any base t v := hval0
  have hsz : (DataW.weightsEach Tryz.prog (Tryz.f7.params.toList ++ Rows.treeKidsSpec.plain.varTypes Tryz.prog) (ds ++ gs)).all (· ≤ reachBytes) = true := hsz0
  clear hsz0
  have hW' := hW
  obtain ⟨p, q, hA0, hV, rfl, hfz, hnd⟩ := hW
  have hA : DataW.TrodAll enc Tryz.prog W 0 (fun _ => true) true Tryz.f7.params.toList args.toList ds p := hA0
  rw [Tryz.params7] at hA hval hsz
  obtain ⟨v0, vs0, d0, ds0, p0, q0, hargs, rfl, rfl, h0, r0⟩ := trodAll_cons hA
  obtain ⟨v1, vs1, d1, ds1, p1, q1, rfl, rfl, rfl, h1, r1⟩ := trodAll_cons r0
  obtain ⟨v2, vs2, d2, ds2, p2, q2, rfl, rfl, rfl, h2, r2⟩ := trodAll_cons r1
  obtain ⟨rfl, rfl, rfl⟩ := trodAll_nil r2
  obtain rfl : args = #[v0, v1, v2] := by cases args; simp_all
  obtain ⟨rfl, rfl⟩ := trodVars_none hV
  obtain ⟨cs0, rfl⟩ := okWide_tree (hval 0 24 v0 rfl rfl)
  have h0k := h0
  obtain ⟨fuel0, hf0⟩ := h0
  obtain ⟨a1, rfl, rfl, rfl, w1⟩ := open_string Tryz.underlying9 (hval 1 9 v1 rfl rfl) h1
  obtain ⟨a2, rfl, rfl, rfl, w2⟩ := open_int Tryz.underlying3 (hval 2 3 v2 rfl rfl) h2
  clear hA0 hval0
  simp only [List.append_nil] at hW'
  have hlt0 : ∀ x ∈ p0, x.block < W.heap.size := fun x hx => by simpa using hW'.lt x (by simp [hx])
  have z1 := reach_size a1 (sized_string hsz (j := 1) (t := 9) rfl rfl)
  obtain ⟨x0, l0, rfl, hr0, hw0'⟩ := argT_of (by simpa [Value.cells] using hf0) hlt0
  have hw0 : ∀ y ∈ l0, y.path.length ≤ 140737488355328 := fun y hy => reach_len (by simpa using List.all_eq_true.1 hsz _ (DataW.weights_mem_each (j := 0) (t := 24) rfl rfl _ (hw0' y hy).1))
  have e1 : a1 = ⟨a1.data.toList.toArray⟩ := (ba_toArray a1).symm
  rw [e1]
  refine (kids7_any l0 x0 a1.data.toList a2 W hr0 hw0 z1 (tabs hL hsh)).mono fun e W' ⟨he, hb⟩ => ?_
  subst he
  exact ⟨_, rfl, _, _, _, [], _, [], hW', (trodAll_cons_mk (shut_bool Tryz.underlying4 _) trodAll_mk0), (trodAll_cons_mk (Below.trod laidOut (by kernel_rfl) (of_decide_eq_true (by kernel_rfl)) h0k hb hlt0) (trodAll_cons_mk (shut_string Tryz.underlying9 w1) (trodAll_cons_mk (shut_int Tryz.underlying3 w2) trodAll_mk0))), rfl, hb.frame _, fun h => by cases h⟩

theorem said : Rows.TreeKidsSaid :=
  OpenClaim.holds_of_cond 7 Tryz.f7 rfl rfl rfl rfl rfl rfl rfl ⟨rfl, rfl, rfl, rfl, rfl⟩ rfl rfl rfl rfl rfl (by kernel_rfl) Tryz.func7 (by kernel_rfl)
    (of_decide_eq_true (by kernel_rfl)) (by unfold Func.isWrapper; first | (rw [if_pos (by decide +kernel)]; kernel_rfl) | (rw [if_neg (by decide +kernel)]; exact ⟨rfl, rfl⟩))
    (fun os started H enc _ F => by rw [OpenClaim.pre_eq_preRow]; exact lifted os started H enc F)

/-- No parameter wants a stand-in; the program's own looks are off: what the card asks. -/
theorem plain (f : FuncId) (fn : Func) (hf : Tryz.pinned.checked.prog.funcNamed "puncheon/puncheonlaw06.TreeKids" = some f) (hfn : Tryz.pinned.checked.prog.funcs[f]? = some fn) :
    false = Tryz.pinned.checked.prog.looks [] ∧ ∀ (j : Nat) t, fn.params[j]? = some t → Tryz.pinned.checked.prog.wantsStandIn t = false := by
  obtain rfl : f = 7 := Option.some.inj ((show Tryz.prog.funcNamed "puncheon/puncheonlaw06.TreeKids" = some 7 by kernel_rfl).symm.trans hf) |>.symm
  obtain rfl : fn = Tryz.f7 := (Option.some.inj (Tryz.func7.symm.trans hfn)).symm
  refine ⟨by kernel_rfl, fun j t ht => ?_⟩
  rw [Tryz.params7] at ht
  have hm : t ∈ [24, 9, 3] := by simpa using Array.mem_of_getElem? ht
  have hall : ([24, 9, 3].all fun u => !Tryz.prog.wantsStandIn u) = true := by kernel_rfl
  exact (show Tryz.prog.wantsStandIn t = false by simpa using List.all_eq_true.1 hall t hm)
end Go.Proofs.YtjbbnecegomkcaaGreatDoor.TreeKidsP
namespace Go.Proofs.YtjbbnecegomkcaaGreatDoor
theorem treeKids_card : Rows.TreeKidsCardSaid :=
  Claim7.holds_tied_plain_at .later [] _ _ _ _ TreeKidsP.said (fun _ h => by cases h) (by kernel_rfl) (fun _ h => by cases h) treeKids_row_tie rfl ⟨rfl, rfl⟩ (by kernel_rfl) rfl TreeKidsP.plain (by kernel_rfl)
#print axioms treeKids_card
end Go.Proofs.YtjbbnecegomkcaaGreatDoor
