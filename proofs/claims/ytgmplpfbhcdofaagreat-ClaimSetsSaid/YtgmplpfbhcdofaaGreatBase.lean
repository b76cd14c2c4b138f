/- Proved here: words on blocks, on slices that read as rows, and on append to rows of a call's own. -/
import Derived.Test.YtgmplpfbhcdofaaGreatPMath
import Derived.Test.YtgmplpfbhcdofaaGreatRows
import Derived.Test.YtgmplpfbhcdofaaGreatShelf
import Derived.Below
import Derived.WalkSpells
import Derived.WalkLawsBesides
import Derived.RangeFuncNested
import Derived.RangeFuncRecord
import Derived.OwnWalkIn
import Derived.WalkKit
import Derived.TacticsInMore
import Derived.LoopNIn
import Derived.LoopIn
import Derived.RangeFuncCalls
import Derived.RangeFuncLeaves
import Derived.Lib.Hide
import Derived.IntWalk
import Derived.Outline
import Derived.Laws.AppendOwnNone
import Derived.Maps.AppendAt
import Derived.Deep.QuietTactic
import Derived.BigQuiet
namespace Go.Proofs.YtgmplpfbhcdofaaGreat
open Go.RowKit Go.Shelf
abbrev Bs := List UInt8

theorem ret_b {a b : Bool} (h : a = b) : Ending.returned (.bool a) = .returned (.bool b) := by rw [h]
/-- The block is just these cells, none frozen. -/
def Box (w : World) (g : Nat) (t : TypeId) (cs : Array Value) : Prop := w.heap[g]? = some (.cells cs t (0, 0))
theorem Box.lt {w : World} {g : Nat} {t : TypeId} {cs : Array Value} (h : Box w g t cs) : g < w.heap.size := (Array.getElem?_eq_some_iff.1 h).1
theorem Box.cell {w : World} {g : Nat} {t : TypeId} {cs : Array Value} (h : Box w g t cs) {k : Nat} {v : Value} (hv : cs[k]? = some v) : w.cell? ⟨g, k, none⟩ = some v := (cell_of_row w g k cs t (0, 0) h).trans hv
theorem Box.frozen {w : World} {g : Nat} {t : TypeId} {cs : Array Value} (h : Box w g t cs) (k : Nat) : w.frozen? ⟨g, k, none⟩ = false := frozen_of_row w g k cs t h
theorem below_drewN {B : Nat} {a w : World} (h : Below B a w) (n : Nat) : Below B a (w.drewN n) := ⟨h.os, h.tape, h.output, h.size, h.block⟩
theorem below_new (w : World) (o : Obj) : Below w.heap.size w (w.alloc o) := (Below.refl _ _).alloc (Nat.le_refl _) _
theorem bch {w w1 w2 : World} (h : Below w.heap.size w w1) (h2 : Below w1.heap.size w1 w2) : Below w.heap.size w w2 := h.trans (h2.mono h.size)
theorem bcell {W w1 : World} (hb : Below W.heap.size W w1) : (∀ b o, b < W.heap.size → w1.cell? ⟨b, o, none⟩ = W.cell? ⟨b, o, none⟩) ∧ (∀ b o, b < W.heap.size → w1.frozen? ⟨b, o, none⟩ = W.frozen? ⟨b, o, none⟩) :=
  ⟨fun b o h => hb.cell (p := ⟨b, o, none⟩) h, fun b o h => hb.frozen (p := ⟨b, o, none⟩) h⟩
theorem boxed_on {w w' : World} {g : Nat} {t : TypeId} {v : Value} (h : Boxed w g t v) (hb : Below w.heap.size w w') : Boxed w' g t v := (hb.block g h.lt).trans h
theorem boxed_drew {w : World} {g : Nat} {t : TypeId} {v : Value} (h : Boxed w g t v) : Boxed w.drew g t v := h
theorem boxed_same {W W' : World} {k : Nat} {t : TypeId} {v : Value} (h : Boxed W k t v) (hb : W'.heap[k]? = W.heap[k]?) : Boxed W' k t v := hb.trans h
theorem below_grown {w w' : World} (h : Below w.heap.size w w') : w.grownBy w' none := ⟨h.os, h.tape, h.output, h.size, fun k hk _ => h.block k hk⟩

/-- The slice reads as these values, a cell each; the cells lie in the blocks of T. -/
def Rd (w : World) (v : Value) (xs : List Value) : Prop :=
  ∃ (a : Option Addr) (cap : Nat), v = .slice a xs.length cap ∧ xs.length ≤ cap ∧ cap ≤ maxLen ∧ (a = none → xs = [] ∧ cap = 0) ∧
    (0 < xs.length → ∃ g o, a = some ⟨g, o, none⟩ ∧ g < w.heap.size ∧ ∀ (j : Nat) (x : Value), xs[j]? = some x → w.cell? ⟨g, o + j, none⟩ = some x)
theorem Rd.nil (w : World) : Rd w (.slice none 0 0) [] := ⟨none, 0, rfl, Nat.le_refl _, Nat.zero_le _, fun _ => ⟨rfl, rfl⟩, fun h => absurd h (Nat.lt_irrefl _)⟩
/-- Where a slice's cells lie. -/
def inBlk (v : Value) (g : Nat) : Prop := ∃ o p n c, v = .slice (some ⟨g, o, p⟩) n c
theorem Rd.kept {w w' : World} {v : Value} {xs : List Value} (h : Rd w v xs) (hk : ∀ g, inBlk v g → w'.heap[g]? = w.heap[g]?) : Rd w' v xs := by
  obtain ⟨a, cap, rfl, h2, h3, hn, h4⟩ := h
  refine ⟨a, cap, rfl, h2, h3, hn, fun h0 => ?_⟩
  obtain ⟨g, o, rfl, hg, hc⟩ := h4 h0
  have hg' : g < w'.heap.size := by
    have e := hk g ⟨o, none, _, _, rfl⟩
    rw [Array.getElem?_eq_getElem hg] at e
    exact (Array.getElem?_eq_some_iff.1 e).1
  refine ⟨g, o, rfl, hg', fun j x hx => ?_⟩
  have := hc j x hx
  simpa only [World.cell?, hk g ⟨o, none, _, _, rfl⟩] using this
theorem Rd.on {w w' : World} {v : Value} {xs : List Value} (h : Rd w v xs) (hb : Below w.heap.size w w') : Rd w' v xs := by
  obtain ⟨a, cap, rfl, h2, h3, hn, h4⟩ := h
  refine ⟨a, cap, rfl, h2, h3, hn, fun h0 => ?_⟩
  obtain ⟨g, o, e, hg, hc⟩ := h4 h0
  exact ⟨g, o, e, Nat.lt_of_lt_of_le hg hb.size, fun j x hx => (hb.cell (p := ⟨g, _, none⟩) hg).trans (hc j x hx)⟩
theorem Rd.drew {w : World} {v : Value} {xs : List Value} (h : Rd w v xs) : Rd w.drew v xs := h
theorem Rd.drewN {w : World} {v : Value} {xs : List Value} (h : Rd w v xs) (n : Nat) : Rd (w.drewN n) v xs := h
theorem addr_add (g o j : Nat) : (⟨g, o, none⟩ : Addr).add j = ⟨g, o + j, none⟩ := by
  unfold Addr.add
  by_cases hj : j = 0 <;> simp [hj]
theorem Rd.of_own {w : World} {B : Nat} {e : TypeId} {v : Value} {n : Nat} {xs : List Value} (h : w.ownsRow B e 1 v n xs) : Rd w v xs := by
  have hl : xs.length = n := by have := h.1; omega
  have hx := h
  rcases h.2 with ⟨rfl, h0⟩ | ⟨g, cap, cur, rfl, _, hg, h2, h3, _⟩
  · have : xs = [] := List.eq_nil_of_length_eq_zero (by omega)
    subst this
    exact Rd.nil w
  · refine ⟨some ⟨g, 0, none⟩, cap, by rw [hl], by omega, h3, (by simp), fun _ => ⟨g, 0, rfl, (hx.lt g rfl).2, fun j u hu => ?_⟩⟩
    have := hx.cells (g := g) rfl j u hu
    rw [addr_add] at this
    exact this
theorem own_blk {w : World} {B : Nat} {e : TypeId} {v : Value} {n : Nat} {xs : List Value} (h : w.ownsRow B e 1 v n xs) {g : Nat} (hg : inBlk v g) : v.ownBlock = some g := by
  obtain ⟨o, p, m, c, rfl⟩ := hg
  rcases h.2 with ⟨h1, h0⟩ | ⟨g', cap, cur, h1, _⟩
  · cases h1
  · cases h1; rfl
theorem owns_on {w w' : World} {base n : Nat} {e : TypeId} {v : Value} {xs : List Value} (h : w.ownsRow base e 1 v n xs) (hb : Below w.heap.size w w') : w'.ownsRow base e 1 v n xs :=
  h.kept (row := none) ⟨hb.os, hb.tape, hb.output, hb.size, fun k hk _ => hb.block k hk⟩ (Classical.em _)
theorem owns_grown {w w' : World} {base n : Nat} {e : TypeId} {v : Value} {xs : List Value} {row : Option Nat} (h : w.ownsRow base e 1 v n xs) (hg : w.grownBy w' row) (hr : ∀ r, row = some r → v.ownBlock ≠ some r) : w'.ownsRow base e 1 v n xs :=
  h.kept hg (by
    cases hv : v.ownBlock with
    | none => exact .inl rfl
    | some k => exact .inr (fun e => hr k e.symm hv))
theorem own_mono {w : World} {base base' n : Nat} {e : TypeId} {v : Value} {xs : List Value} (h : w.ownsRow base e 1 v n xs) (hb : base' ≤ base) : w.ownsRow base' e 1 v n xs := by
  obtain ⟨h1, h2⟩ := h
  refine ⟨h1, h2.imp id ?_⟩
  rintro ⟨g, cap, cur, r1, r2, r3⟩
  exact ⟨g, cap, cur, r1, Nat.le_trans hb r2, r3⟩

/-- Bytes, and numbers, as values. -/
abbrev b8 (c : UInt8) : Value := .int .u8 (c.toNat : Int)
def bytesV (l : Bs) : List Value := l.map b8
abbrev i64 (k : Nat) : Value := .int .i64 (k : Int)
def natsV (l : List Nat) : List Value := l.map i64
theorem bytesV_len (l : Bs) : (bytesV l).length = l.length := by simp [bytesV]
theorem natsV_len (l : List Nat) : (natsV l).length = l.length := by simp [natsV]
theorem bytesV_app (a b : Bs) : bytesV (a ++ b) = bytesV a ++ bytesV b := by simp [bytesV]
theorem natsV_app (a b : List Nat) : natsV (a ++ b) = natsV a ++ natsV b := by simp [natsV]
theorem bytesV_one (l : Bs) : ∀ y ∈ bytesV l, y.oneCell' = true := by
  intro y hy
  obtain ⟨c, _, rfl⟩ := List.mem_map.1 hy
  rfl
theorem natsV_one (l : List Nat) : ∀ y ∈ natsV l, y.oneCell' = true := by
  intro y hy
  obtain ⟨c, _, rfl⟩ := List.mem_map.1 hy
  rfl
theorem bytesV_at {l : Bs} {j : Nat} (h : j < l.length) : (bytesV l)[j]? = some (b8 l[j]) := by unfold bytesV; rw [List.getElem?_map, List.getElem?_eq_getElem h]; rfl
theorem natsV_at {l : List Nat} {j : Nat} (h : j < l.length) : (natsV l)[j]? = some (i64 l[j]) := by unfold natsV; rw [List.getElem?_map, List.getElem?_eq_getElem h]; rfl
theorem bytesV_take (l : Bs) (k : Nat) : bytesV (l.take k) = (bytesV l).take k := by simp [bytesV, List.map_take]
theorem bytesV_drop (l : Bs) (k : Nat) : bytesV (l.drop k) = (bytesV l).drop k := by simp [bytesV, List.map_drop]
theorem info5 : (Tryz.prog.info? 5).map (fun i => (i.zero, i.size, i.bytes)) = some (some (.int .u8 0), 1, 1) := by kernel_rfl
theorem info3 : (Tryz.prog.info? 3).map (fun i => (i.zero, i.size, i.bytes)) = some (some (.int .i64 0), 1, 8) := by kernel_rfl

/-- 'v[j:k:m]' of a slice that reads so. -/
theorem Rd.part {w : World} {a : Option Addr} {n cap : Nat} {xs : List Value} (h : Rd w (.slice a n cap) xs) (j k m : Nat) (hj : j ≤ k) (hk : k ≤ n) (hm : k ≤ m) (hm2 : m ≤ cap) :
    Rd w (.slice (if m = j then a else a.map (·.add j)) (k - j) (m - j)) ((xs.drop j).take (k - j)) := by
  obtain ⟨a', cap', e, h1, h2, h3, h4⟩ := h
  cases e
  have hl : ((xs.drop j).take (k - j)).length = k - j := by rw [List.length_take, List.length_drop]; omega
  refine ⟨_, m - j, by rw [hl], by omega, by omega, fun e => ?_, fun h0 => ?_⟩
  · have ha : a = none := by
      split at e
      · exact e
      · simpa using e
    obtain ⟨rfl, rfl⟩ := h3 ha
    simp only [List.length_nil] at hk
    exact ⟨by simp, by omega⟩
  · rw [hl] at h0
    obtain ⟨g, o, rfl, hg, hc⟩ := h4 (by omega)
    rw [if_neg (by omega)]
    refine ⟨g, o + j, by simp [addr_add], hg, fun i x hx => ?_⟩
    rw [List.getElem?_take] at hx
    split at hx
    · rw [List.getElem?_drop] at hx
      rw [Nat.add_assoc]
      exact hc _ x hx
    · cases hx
theorem part_blk {a : Option Addr} {n cap j m m' k g : Nat} (h : inBlk (.slice (if m' = j then a else a.map (·.add j)) m k) g) : inBlk (.slice a n cap) g := by
  obtain ⟨o, p, n', c, e⟩ := h
  injection e with e1 e2 e3
  split at e1
  · subst e1; exact ⟨o, p, n, cap, rfl⟩
  · cases a with
    | none => cases e1
    | some x =>
      simp only [Option.map_some, Option.some.injEq] at e1
      have e4 : (x.add j).block = x.block := by unfold Addr.add; split <;> rfl
      rw [e1] at e4
      exact ⟨x.off, x.spot, n, cap, by cases x; simp at e4; subst e4; rfl⟩
theorem run_slice3 {P : Program} {t e : TypeId} (ht : P.underlying t = some (.slice e)) (hs : ∀ w, (Go.sizeOf e).run P w = .ok 1 w) (a : Option Addr) (len cap j k m : Nat) (hj : j ≤ k) (hk : k ≤ m) (hm : m ≤ cap) (w : World) :
    (Instr.slice t (.slice a len cap) (some (.int .i64 (j : Int))) (some (.int .i64 (k : Int))) (some (.int .i64 (m : Int)))).run P w = .ok (.slice (if m = j then a else a.map (·.add j)) (k - j) (m - j)) w := by
  have h1 : (0 : Int) ≤ (j : Int) ∧ (j : Int) ≤ (k : Int) ∧ (k : Int) ≤ (m : Int) ∧ (m : Int) ≤ (cap : Int) := by omega
  simp [Instr.slice, Sem.run_bind, run_underlying ht, Instr.sliceBounds, Instr.sliceBound, asIntOf, hj, hk, hm, h1, hs]

/-- 'append(v, x...)', v in memory of the call's own: what reads then, and which block it has. -/
theorem wpList_append_at {w : World} {ops : Array Oper} {rest : List Oper} {o : Oper} {a : Act} {Q : Exit → Act → World → Prop} (hgd : o.guard = none) (s x : Operand) (t e : TypeId) (z : Value) (bytes : Nat)
    (ho : o.op = .call { callee := .builtin .append, args := #[s, x], argTypes := #[t, t] }) (ht : Tryz.prog.underlying t = some (.slice e)) (hi : (Tryz.prog.info? e).map (fun i => (i.zero, i.size, i.bytes)) = some (some z, 1, bytes)) (hz : z.cells.size = 1)
    (base : Nat) (v vx : Value) (l m : List Value) (hs : a.eval s = v) (hown : w.ownsRow base e 1 v l.length l) (hx : a.eval x = vx) (hsrc : Rd w vx m) (h1 : ∀ y ∈ m, y.oneCell' = true)
    (hb : base ≤ w.heap.size) (hl : (l.length + m.length) * bytes ≤ 140737488355328) (hb1 : 1 ≤ bytes)
    (h : ∀ v' w', w'.ownsRow base e 1 v' (l ++ m).length (l ++ m) → w.grownBy w' v.ownBlock → (v'.ownBlock = v.ownBlock ∨ v'.ownBlock = some w.heap.size) → wpList Tryz.prog ops Q rest (a.put o.dst v') w') : wpList Tryz.prog ops Q (o :: rest) a w := by
  obtain ⟨i0, hi, hz0, hz1, hz2⟩ := info_parts hi
  obtain ⟨ad, cap, rfl, hc1, hc2, hn, hc3⟩ := hsrc
  cases ad with
  | none =>
    obtain ⟨rfl, rfl⟩ := hn rfl
    refine wpList_append_own_none hgd s x t ho base e i0 1 ht hi v _ _ hs hown hx (h v w ?_ ⟨rfl, rfl, rfl, Nat.le_refl _, fun _ _ _ => rfl⟩ (.inl rfl))
    rw [List.append_nil]
    exact hown
  | some ad =>
    have hnews : ∀ (j : Nat) (y : Value), m[j]? = some y → w.cell? (ad.add j) = some y := fun j y hy => by
      have hlt := (List.getElem?_eq_some_iff.1 hy).1
      obtain ⟨g, o, e, _, hc⟩ := hc3 (by omega)
      cases e
      rw [addr_add]
      exact hc j y hy
    have hlm : l.length + m.length ≤ 140737488355328 := by
      have : (l.length + m.length) * 1 ≤ (l.length + m.length) * bytes := Nat.mul_le_mul_left _ hb1
      omega
    refine wpList_append_own_at w hgd s x t ho base e i0 z 1 bytes ht hi hz0 hz1 hz2 hz (by decide) v _ _ hs hown ad m.length cap m hx (by omega) hnews h1 (by unfold maxLen; omega) hl hb ?_
    intro v' w' ho' hgr _ hat
    exact h v' w' (by rw [List.length_append]; exact ho') hgr hat
end Go.Proofs.YtgmplpfbhcdofaaGreat
