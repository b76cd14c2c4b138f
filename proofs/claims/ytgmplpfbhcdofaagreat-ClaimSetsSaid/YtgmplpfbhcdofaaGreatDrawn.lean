/- Proved here, of every program: no step of the machine takes back a draw; so a call of whatever contract ends with at least as many draws as it began with. -/
import Derived.Calls
import Derived.StepT
namespace Go.Proofs.YtgmplpfbhcdofaaGreat.Draws

theorem ask_low {α : Type} (a : Ask α) (w : World) : w.drawn ≤ (w.ask a).2.drawn := by
  induction a generalizing w with
  | done a => exact Nat.le_refl _
  | ask what range k ih =>
    unfold World.ask
    simp only []
    split
    · exact ih _ _
    · exact Nat.le_trans (Nat.le_succ _) (ih _ { w with drawn := w.drawn + 1 })
theorem sys_low (w : World) (c : Sys) : w.drawn ≤ (w.sys c).2.drawn := by
  unfold World.sys
  have h := ask_low (Kernel.perform c w.os) w
  split
  · exact Nat.le_refl _
  · rename_i heq
    rw [heq] at h
    exact h
theorem viewStore_low {p : Program} {w : World} {at_ : Addr} {u : TypeId} {a : Addr} {v : Value} {b : Bool} {r : World × List Addr} (h : w.viewStore p at_ u a v b = .ok r) : r.1.drawn = w.drawn := by
  unfold World.viewStore at h
  simp only [bind, Except.bind, pure, Except.pure] at h
  repeat' split at h
  all_goals first | (cases h; done) | (cases h; rfl)
theorem farStore_low {p : Program} {w : World} {a : Addr} {v : Value} {b : Bool} {r : World × List Addr} (h : w.farStore p a v b = .ok r) : r.1.drawn = w.drawn := by
  unfold World.farStore at h
  split at h
  · split at h
    · rename_i heq
      cases h
      exact viewStore_low heq
    · cases h
  · cases h
def ResLow {α : Type} (d : Nat) : Result α → Prop
  | .ok _ w => d ≤ w.drawn
  | .halt _ w => d ≤ w.drawn
theorem ResLow.mono {α : Type} {d d' : Nat} {r : Result α} (h : ResLow d' r) (hd : d ≤ d') : ResLow d r := by
  cases r <;> exact Nat.le_trans hd h
theorem freeze_low (w : World) (a : Addr) (n : Nat) : (w.freeze a n).drawn = w.drawn := by
  unfold World.freeze
  split <;> rfl
theorem run_low {α : Type} (p : Program) (s : Sem α) (w : World) : ResLow w.drawn (s.run p w) := by
  induction s generalizing w with
  | pure a => exact Nat.le_refl _
  | load m a k ih =>
    simp only [Sem.run]
    split
    · exact ih _ _
    · split
      · exact ih _ _
      · exact Nat.le_refl _
  | store m a v k ih =>
    cases v
    all_goals first
      | exact Nat.le_refl w.drawn
      | (simp only [Sem.run]
         split
         · split
           · exact Nat.le_refl _
           · exact ih _
         · split
           · rename_i heq
             exact (ih _).mono (Nat.le_of_eq (farStore_low heq).symm)
           · exact Nat.le_refl _)
  | new o k ih => exact ih _ { w with heap := w.heap.push o }
  | shape r k ih => exact ih _ w
  | freeze a n k ih => exact (ih (w.freeze a n)).mono (Nat.le_of_eq (freeze_low w a n).symm)
  | frozen a k ih => exact ih _ w
  | getObj r k ih =>
    simp only [Sem.run]
    split
    · exact Nat.le_refl _
    · exact ih _ w
    · exact Nat.le_refl _
  | setObj r o k ih =>
    simp only [Sem.run]
    split
    · exact Nat.le_refl _
    · exact ih { w with heap := w.heap.setIfInBounds r o }
    · exact Nat.le_refl _
  | choose q k ih =>
    simp only [Sem.run]
    split
    · exact ih _ w
    · exact (ih _ { w with drawn := w.drawn + 1 }).mono (Nat.le_succ _)
  | sys c k ih => exact (ih _ _).mono (sys_low w c)
  | program k ih => exact ih p w
  | mark m k ih => exact ih w
  | halt h => exact Nat.le_refl _
theorem run_ok {α : Type} {p : Program} {s : Sem α} {w w' : World} {a : α} (h : s.run p w = .ok a w') : w.drawn ≤ w'.drawn := by
  have := run_low p s w
  rw [h] at this
  exact this
theorem run_halt {α : Type} {p : Program} {s : Sem α} {w w' : World} {a : Halt} (h : s.run p w = .halt a w') : w.drawn ≤ w'.drawn := by
  have := run_low p s w
  rw [h] at this
  exact this
theorem runT_res {α : Type} {p : Program} {s : Sem α} {w : World} {es es' : Array Event} {r : Result α} (h : s.runT p w es = (r, es')) : ResLow w.drawn r := by
  have h1 := Sem.runT_eq p s w es
  rw [h] at h1
  rw [(Prod.mk.inj h1).1]
  exact run_low p s w
theorem runT_ok {α : Type} {p : Program} {s : Sem α} {w w' : World} {es es' : Array Event} {a : α} (h : s.runT p w es = (.ok a w', es')) : w.drawn ≤ w'.drawn := runT_res h
theorem runT_halt {α : Type} {p : Program} {s : Sem α} {w w' : World} {es es' : Array Event} {a : Halt} (h : s.runT p w es = (.halt a w', es')) : w.drawn ≤ w'.drawn := runT_res h

theorem run_okp {α : Type} {p : Program} {s : Sem α} {w w' : World} {a : α} {e e' : Array Event} (h : (s.run p w, e) = (Result.ok a w', e')) : w.drawn ≤ w'.drawn := run_ok (Prod.mk.inj h).1
theorem run_haltp {α : Type} {p : Program} {s : Sem α} {w w' : World} {a : Halt} {e e' : Array Event} (h : (s.run p w, e) = (Result.halt a w', e')) : w.drawn ≤ w'.drawn := run_halt (Prod.mk.inj h).1
theorem run_oki {α : Type} {p : Program} {s : Sem α} {w w' : World} {a : α} {e e' : Array Event} {l : Bool} (h : (if l = true then (s.run p w, e) else (s.run p w, e')).1 = Result.ok a w') : w.drawn ≤ w'.drawn := by
  split at h <;> exact run_ok h
theorem run_halti {α : Type} {p : Program} {s : Sem α} {w w' : World} {a : Halt} {e e' : Array Event} {l : Bool} (h : (if l = true then (s.run p w, e) else (s.run p w, e')).1 = Result.halt a w') : w.drawn ≤ w'.drawn := by
  split at h <;> exact run_halt h

/-! ### A goroutine's step -/
def GLow (d : Nat) : GStep → Prop
  | .go _ w _ => d ≤ w.drawn
  | .comm _ _ _ _ w _ => d ≤ w.drawn
  | .spawn _ _ w _ => d ≤ w.drawn
  | .count _ w _ => d ≤ w.drawn
  | .timer _ _ w _ => d ≤ w.drawn
  | .alone _ _ w _ => d ≤ w.drawn
  | .newcoro _ _ _ w _ => d ≤ w.drawn
  | .coroswitch _ _ _ w _ => d ≤ w.drawn
  | .collect _ w _ => d ≤ w.drawn
  | .watch _ w _ => d ≤ w.drawn
  | .ended _ _ _ => True
theorem GLow.after {d : Nat} {s : GStep} {es : Array Event} (h : GLow d s) : GLow d (GStep.after es s) := by
  cases s <;> exact h
theorem endWith_low {d : Nat} {w : World} {fd : Nat} {t : ByteArray} {o : Outcome} (_ : d ≤ w.drawn) : GLow d (endWith w fd t o) := by
  unfold endWith
  repeat' (first | refine GLow.after ?_ | split)
  all_goals trivial
theorem endThrow_low {d : Nat} {fr : Frame} {m : String} {w : World} (h : d ≤ w.drawn) : GLow d (endThrow fr m w) := h
theorem endPrinting_low {d : Nat} {p : Program} {fr : Frame} {v : Value} {w : World} (h : d ≤ w.drawn) : GLow d (endPrinting p fr v w) := by
  unfold endPrinting
  try simp only []
  repeat' (first | refine GLow.after ?_ | split)
  all_goals (try have h2 := Nat.le_trans h (run_ok (by assumption)))
  all_goals (try have h3 := Nat.le_trans h (run_halt (by assumption)))
  all_goals (try have h2 := Nat.le_trans h (run_okp (by assumption)))
  all_goals (try have h3 := Nat.le_trans h (run_haltp (by assumption)))
  all_goals (try have h2 := Nat.le_trans h (run_oki (by assumption)))
  all_goals (try have h3 := Nat.le_trans h (run_halti (by assumption)))
  all_goals first | trivial | exact h | exact h2 | exact h3 | exact endThrow_low h
theorem endFatal_low {d : Nat} {p : Program} {fr : Frame} {cs : List Frame} {dy : Option Dying} {m : String} {w : World} (h : d ≤ w.drawn) : GLow d (endFatal p fr cs dy m w) := by
  unfold endFatal
  try simp only []
  repeat' (first | refine GLow.after ?_ | split)
  all_goals (try have h2 := Nat.le_trans h (run_ok (by assumption)))
  all_goals (try have h3 := Nat.le_trans h (run_halt (by assumption)))
  all_goals (try have h2 := Nat.le_trans h (run_okp (by assumption)))
  all_goals (try have h3 := Nat.le_trans h (run_haltp (by assumption)))
  all_goals (try have h2 := Nat.le_trans h (run_oki (by assumption)))
  all_goals (try have h3 := Nat.le_trans h (run_halti (by assumption)))
  all_goals first | trivial | exact h | exact h2 | exact h3
theorem writeOn_low {d : Nat} {p : Program} {fr : Frame} {dy : Dying} {f : Fatal} {w : World} (h : d ≤ w.drawn) : GLow d (writeOn p fr dy f w) := by
  unfold writeOn
  try simp only [Sem.runT_eq]
  repeat' (first | refine GLow.after ?_ | split)
  all_goals (try have h2 := Nat.le_trans h (run_ok (by assumption)))
  all_goals (try have h3 := Nat.le_trans h (run_halt (by assumption)))
  all_goals (try have h2 := Nat.le_trans h (run_okp (by assumption)))
  all_goals (try have h3 := Nat.le_trans h (run_haltp (by assumption)))
  all_goals (try have h2 := Nat.le_trans h (run_oki (by assumption)))
  all_goals (try have h3 := Nat.le_trans h (run_halti (by assumption)))
  all_goals first | trivial | exact h | exact h2 | exact h3
theorem die_low {d : Nat} {p : Program} {fr : Frame} {dy : Dying} {w : World} (h : d ≤ w.drawn) : GLow d (die p fr dy w) := by
  unfold die
  try simp only [Sem.runT_eq]
  repeat' (first | refine GLow.after ?_ | split)
  all_goals (try have h2 := Nat.le_trans h (run_ok (by assumption)))
  all_goals (try have h3 := Nat.le_trans h (run_halt (by assumption)))
  all_goals (try have h2 := Nat.le_trans h (run_okp (by assumption)))
  all_goals (try have h3 := Nat.le_trans h (run_haltp (by assumption)))
  all_goals (try have h2 := Nat.le_trans h (run_oki (by assumption)))
  all_goals (try have h3 := Nat.le_trans h (run_halti (by assumption)))
  all_goals first | trivial | exact h | exact h2 | exact h3 | exact writeOn_low h | exact endWith_low h | exact endPrinting_low h3
theorem doReturn_low {d : Nat} {p : Program} {b : Bool} {fr : Frame} {cs : List Frame} {dy : Option Dying} {v : Value} {w : World} (h : d ≤ w.drawn) : GLow d (doReturn p b fr cs dy v w) := by
  unfold doReturn
  try simp only []
  repeat' (first | refine GLow.after ?_ | split)
  all_goals (try have h2 := Nat.le_trans h (run_ok (by assumption)))
  all_goals (try have h3 := Nat.le_trans h (run_halt (by assumption)))
  all_goals (try have h2 := Nat.le_trans h (run_okp (by assumption)))
  all_goals (try have h3 := Nat.le_trans h (run_haltp (by assumption)))
  all_goals (try have h2 := Nat.le_trans h (run_oki (by assumption)))
  all_goals (try have h3 := Nat.le_trans h (run_halti (by assumption)))
  all_goals first | trivial | exact h | exact h2 | exact h3
theorem early_low {d : Nat} {p : Program} {fr : Frame} {cs : List Frame} {dy : Option Dying} {g : Nat} {w : World} (h : d ≤ w.drawn) : GLow d (early p fr cs dy g w) := by
  unfold early
  try simp only []
  repeat' (first | refine GLow.after ?_ | split)
  all_goals (try have h2 := Nat.le_trans h (run_ok (by assumption)))
  all_goals (try have h3 := Nat.le_trans h (run_halt (by assumption)))
  all_goals (try have h2 := Nat.le_trans h (run_okp (by assumption)))
  all_goals (try have h3 := Nat.le_trans h (run_haltp (by assumption)))
  all_goals (try have h2 := Nat.le_trans h (run_oki (by assumption)))
  all_goals (try have h3 := Nat.le_trans h (run_halti (by assumption)))
  all_goals first | trivial | exact h | exact h2 | exact h3
theorem callDeferred_low {d : Nat} {p : Program} {fr : Frame} {cs : List Frame} {dy : Option Dying} {q : Deferred} {w : World} (h : d ≤ w.drawn) : GLow d (callDeferred p fr cs dy q w) := by
  unfold callDeferred
  try simp only [Sem.runT_eq]
  repeat' (first | refine GLow.after ?_ | split)
  all_goals (try have h2 := Nat.le_trans h (run_ok (by assumption)))
  all_goals (try have h3 := Nat.le_trans h (run_halt (by assumption)))
  all_goals (try have h2 := Nat.le_trans h (run_okp (by assumption)))
  all_goals (try have h3 := Nat.le_trans h (run_haltp (by assumption)))
  all_goals (try have h2 := Nat.le_trans h (run_oki (by assumption)))
  all_goals (try have h3 := Nat.le_trans h (run_halti (by assumption)))
  all_goals first | trivial | exact h | exact h2 | exact h3 | exact endFatal_low h3 | exact endThrow_low h3
theorem unwind_low {d : Nat} {p : Program} {b : Bool} {fr : Frame} {cs : List Frame} {dy : Option Dying} {w : World} (h : d ≤ w.drawn) : GLow d (unwind p b fr cs dy w) := by
  unfold unwind
  try simp only [Sem.runT_eq]
  repeat' (first | refine GLow.after ?_ | split)
  all_goals (try have h2 := Nat.le_trans h (run_ok (by assumption)))
  all_goals (try have h3 := Nat.le_trans h (run_halt (by assumption)))
  all_goals (try have h2 := Nat.le_trans h (run_okp (by assumption)))
  all_goals (try have h3 := Nat.le_trans h (run_haltp (by assumption)))
  all_goals (try have h2 := Nat.le_trans h (run_oki (by assumption)))
  all_goals (try have h3 := Nat.le_trans h (run_halti (by assumption)))
  all_goals first | trivial | exact h | exact h2 | exact h3 | exact callDeferred_low h | exact doReturn_low h | exact doReturn_low h2 | exact endPrinting_low h
theorem apply_low {d : Nat} {p : Program} {l : Bool} {fr : Frame} {cs : List Frame} {dy : Option Dying} {s : Sem Next} {w : World} (h : d ≤ w.drawn) : GLow d (stepG.apply p l fr cs dy s w) := by
  unfold stepG.apply
  try simp only [Sem.runT_eq]
  repeat' (first | refine GLow.after ?_ | split)
  all_goals (try have h2 := Nat.le_trans h (run_ok (by assumption)))
  all_goals (try have h3 := Nat.le_trans h (run_halt (by assumption)))
  all_goals (try have h2 := Nat.le_trans h (run_okp (by assumption)))
  all_goals (try have h3 := Nat.le_trans h (run_haltp (by assumption)))
  all_goals (try have h2 := Nat.le_trans h (run_oki (by assumption)))
  all_goals (try have h3 := Nat.le_trans h (run_halti (by assumption)))
  all_goals first | trivial | exact h | exact h2 | exact h3 | exact endFatal_low h3 | exact endThrow_low h2 | exact endThrow_low h3 | exact early_low h3
theorem elim_low {α : Type} {d : Nat} {e : GStep} {f : α → GStep} {o : Option α} (he : GLow d e) (hf : ∀ a, GLow d (f a)) : GLow d (o.elim e f) := by
  cases o
  · exact he
  · exact hf _
theorem oper_low {d : Nat} {p : Program} {l : Bool} {fr : Frame} {cs : List Frame} {dy : Option Dying} {w : World} (h : d ≤ w.drawn) : GLow d (stepG.oper p l fr cs dy w) := by
  unfold stepG.oper
  try simp only [Sem.runT_eq]
  repeat' (first | exact apply_low h | refine GLow.after ?_ | split)
  all_goals (try have h2 := Nat.le_trans h (run_ok (by assumption)))
  all_goals (try have h3 := Nat.le_trans h (run_halt (by assumption)))
  all_goals (try have h2 := Nat.le_trans h (run_okp (by assumption)))
  all_goals (try have h3 := Nat.le_trans h (run_haltp (by assumption)))
  all_goals (try have h2 := Nat.le_trans h (run_oki (by assumption)))
  all_goals (try have h3 := Nat.le_trans h (run_halti (by assumption)))
  all_goals first | trivial | exact h | exact h2 | exact h3 | exact apply_low h
theorem exec_low {d : Nat} {p : Program} {b l : Bool} {fr : Frame} {cs : List Frame} {dy : Option Dying} {w : World} (h : d ≤ w.drawn) : GLow d (stepG.exec p b l fr cs dy w) := by
  unfold stepG.exec
  try simp only [Sem.runT_eq]
  repeat' (first | exact apply_low h | exact apply_low (Nat.le_trans h (run_ok (by assumption))) | exact oper_low h | refine elim_low ?_ (fun _ => ?_) | exact doReturn_low (Nat.le_trans h (run_ok (by assumption))) | refine GLow.after ?_ | split)
  all_goals (try have h2 := Nat.le_trans h (run_ok (by assumption)))
  all_goals (try have h3 := Nat.le_trans h (run_halt (by assumption)))
  all_goals (try have h2 := Nat.le_trans h (run_okp (by assumption)))
  all_goals (try have h3 := Nat.le_trans h (run_haltp (by assumption)))
  all_goals (try have h2 := Nat.le_trans h (run_oki (by assumption)))
  all_goals (try have h3 := Nat.le_trans h (run_halti (by assumption)))
  all_goals first | trivial | exact h | exact h2 | exact h3 | exact apply_low h | exact apply_low h2 | exact doReturn_low h2 | exact oper_low h
theorem stepG_low (p : Program) (b : Bool) (g : Goroutine) (w : World) (l : Bool) : GLow w.drawn (stepG p b g w l) := by
  unfold stepG
  split
  split
  · exact die_low (Nat.le_refl _)
  · exact exec_low (Nat.le_refl _)
  · exact unwind_low (Nat.le_refl _)

/-! ### The machine's step -/
def SLow (d : Nat) : Stepped → Prop
  | .next m => d ≤ m.world.drawn
  | .ended _ _ => True
def MLow (d : Nat) : Move → Prop
  | .goroutine m _ => d ≤ m.world.drawn
  | .machine s _ => SLow d s
theorem serve_low {d : Nat} {p : Program} {m : Machine} {k : Nat} (h : d ≤ m.world.drawn) : SLow d (serve p m k) := by
  unfold serve
  simp only []
  repeat' split
  all_goals first | trivial | exact h
theorem look_low {d : Nat} {p : Program} {gs : Array Goroutine} {r : Rest} {w : World} (h : d ≤ w.drawn) : SLow d (look p gs r w) := by
  unfold look
  simp only []
  repeat' split
  all_goals (try have h2 := Nat.le_trans h (run_ok (by assumption)))
  all_goals first | trivial | exact h | exact h2
theorem waiting_low {r : Rest} {cs : Array CommCase} {w w' : World} (h : waitingAt r cs w = some w') : w.drawn ≤ w'.drawn := by
  unfold waitingAt at h
  repeat' split at h
  all_goals first | (cases h; exact Nat.le_refl _) | cases h
theorem communicate_low {d : Nat} {p : Program} {r : Rest} {gs : Array Goroutine} {i : Nat} {g : Goroutine} {cs : Array CommCase} {b : Bool} {sh : CommShape} {w : World} (h : d ≤ w.drawn) :
    SLow d (communicate p r gs i g cs b sh w).1 := by
  unfold communicate
  simp only []
  repeat' split
  all_goals (try have h2 := Nat.le_trans h (run_ok (by assumption)))
  all_goals (try have h4 := Nat.le_trans h (waiting_low (by assumption)))
  all_goals (try have h5 := Nat.le_trans h2 (run_ok (by assumption)))
  all_goals (try have h6 := Nat.le_trans h2 (run_halt (by assumption)))
  all_goals first | trivial | exact h | exact h2 | exact h4 | exact h5 | exact h6
theorem drain_low (w : World) (c : Nat) : (drain w c).2.drawn = w.drawn := by
  unfold drain
  split <;> rfl
theorem retime_low (m : Machine) (k : Nat) (t : Timer) (a b : Nat) : (retime m k t a b).2.world.drawn = m.world.drawn := by
  unfold retime
  simp only []
  split
  · exact drain_low _ _
  · rfl
theorem named_low {m : Machine} {a : Addr} {f : Nat → Timer → Value × Machine} {r : Value × Machine} (hf : ∀ k t, (f k t).2.world.drawn = m.world.drawn) (h : timerOp.named m a f = .ok r) : r.2.world.drawn = m.world.drawn := by
  unfold timerOp.named at h
  split at h
  · cases h; exact hf _ _
  · cases h
theorem opened_low {m m' : Machine} {a : Addr} (h : timerOp.opened m a = some m') : m'.world.drawn = m.world.drawn := by
  unfold timerOp.opened at h
  repeat' split at h
  all_goals first | (cases h; rfl) | cases h
theorem timerOp_low {m : Machine} {op : TimerOp} {r : Value × Machine} (h : timerOp m op = .ok r) : r.2.world.drawn = m.world.drawn := by
  unfold timerOp at h
  split at h
  · repeat' split at h
    all_goals first | (cases h; rfl) | cases h
  · exact named_low (fun k t => retime_low _ _ _ _ _) h
  · split at h
    · rename_i heq
      have h0 := opened_low heq
      exact named_low (fun k t => (retime_low _ _ _ _ _).trans h0) h
    · cases h
  · cases h; rfl
theorem endThrow_is {d : Nat} {fr : Frame} {m : String} {w w' : World} {g : Goroutine} {es : Array Event} (h : d ≤ w.drawn) (e : endThrow fr m w = .go g w' es) : d ≤ w'.drawn := by
  have := endThrow_low (fr := fr) (m := m) h
  rw [e] at this
  exact this
theorem stepG_is {p : Program} {b : Bool} {g : Goroutine} {w : World} {l : Bool} {s : GStep} (h : stepG p b g w l = s) : GLow w.drawn s := by
  rw [← h]
  exact stepG_low p b g w l
theorem runM_low (p : Program) (m : Machine) (i : Nat) (l : Bool) : SLow m.world.drawn (runT p m i l).1 := by
  unfold runT
  simp only []
  split
  all_goals (have h := stepG_is (by assumption))
  all_goals first | trivial | exact h | exact communicate_low h | exact look_low h | skip
  all_goals (repeat' split)
  all_goals (try have h7 := endThrow_is h (by assumption))
  all_goals (try have h8 := Nat.le_trans h (Nat.le_of_eq (timerOp_low (by assumption)).symm))
  all_goals first | trivial | exact h | exact h7 | exact h8

theorem run_adv {α : Type} {p : Program} {s : Sem α} {w w' : World} {gs : Array Goroutine} {r : Rest} {t : Nat} {a : α} (h : s.run p (Machine.advanceTo { world := w, gs := gs, rest := r } t).world = .ok a w') : w.drawn ≤ w'.drawn := by
  have h1 := run_ok h
  exact h1
theorem askOn_low {d : Nat} {p : Program} {m : Machine} (h : d ≤ m.world.drawn) : MLow d (askOn p m) := by
  unfold askOn
  simp only []
  repeat' split
  all_goals (try have h2 := Nat.le_trans h (run_ok (by assumption)))
  all_goals (try have h3 := Nat.le_trans h2 (run_ok (by assumption)))
  all_goals (try have h4 := Nat.le_trans h3 (run_ok (by assumption)))
  all_goals (try have h5 := Nat.le_trans h4 (run_ok (by assumption)))
  all_goals (try have h6 := Nat.le_trans h3 (run_adv (by assumption)))
  all_goals (try have h7 := Nat.le_trans h6 (run_ok (by assumption)))
  all_goals first | trivial | exact h | exact h2 | exact h3 | exact h4 | exact h5 | exact h6 | exact h7 | (apply serve_low; exact h2)
theorem ask_lowM {d : Nat} {p : Program} {m : Machine} (h : d ≤ m.world.drawn) : MLow d (ask p m) := by
  unfold ask
  split
  · split
    · trivial
    · rename_i heq
      have hl := look_low (p := p) (gs := m.gs) (r := m.rest) (Nat.le_trans h (run_ok heq))
      split
      · rename_i heq2
        rw [heq2] at hl
        exact askOn_low hl
      · exact hl
    · rename_i heq
      exact askOn_low (m := { m with world := _ }) (Nat.le_trans h (run_ok heq))
  · exact askOn_low h
theorem move_low (p : Program) (m : Machine) : MLow m.world.drawn (move p m) := by
  unfold move
  split
  · split
    · exact Nat.le_refl _
    · trivial
  · split
    · split
      · exact Nat.le_refl _
      · exact ask_lowM (m := { m with rest := _ }) (Nat.le_refl _)
    · exact ask_lowM (Nat.le_refl _)
theorem step_low {p : Program} {m m' : Machine} (h : step p m = .next m') : m.world.drawn ≤ m'.world.drawn := by
  have hm := move_low p m
  unfold step stepT at h
  split at h
  · rename_i m1 i heq
    rw [heq] at hm
    have h1 := runM_low p m1 i true
    rw [h] at h1
    exact Nat.le_trans hm h1
  · rename_i s ops heq
    rw [heq] at hm
    rw [show s = .next m' from h] at hm
    exact hm
theorem steps_low {p : Program} {m m' : Machine} (h : Steps p m m') : m.world.drawn ≤ m'.world.drawn := by
  obtain ⟨n, hn⟩ := h
  induction n generalizing m with
  | zero => simp [runN] at hn; rw [hn]; exact Nat.le_refl _
  | succ n ih =>
    simp only [runN] at hn
    cases hs : step p m with
    | next m1 => rw [hs] at hn; exact Nat.le_trans (step_low hs) (ih hn)
    | ended o w => rw [hs] at hn; cases hn
/-- A CALL TAKES NO DRAW BACK: whatever a contract says, that may be said, too. -/
theorem calls_drawn {P : Program} {f : FuncId} {args : Array Value} {w : World} {R : Ending → World → Prop} (h : Calls P f args w R) (hR : ∀ e w', R e w' → ∃ v, e = .returned v) :
    Calls P f args w fun e w' => R e w' ∧ w.drawn ≤ w'.drawn := by
  intro cs
  obtain ⟨e, w', fr, hr, hc, hf, hl⟩ := h cs
  obtain ⟨v, rfl⟩ := hR e w' hr
  exact ⟨_, w', fr, ⟨hr, steps_low (m := lone _ cs w) (m' := lone fr cs w') hc⟩, hc, hf, hl⟩
end Go.Proofs.YtgmplpfbhcdofaaGreat.Draws
