/- Proved here: what places of package reloc hands out: the places of a prefix, one by one. -/
import Derived.Test.YtophihnjlodmjaaDoorSeq
namespace Go.Proofs.YtophihnjlodmjaaDoor
open Go.RowKit Go.Shelf
attribute [local go_sem] Oper.semAt_some

/-- The memory of the iterator: its two boxes, and where what they hold lies. -/
def plT (B : Nat) (vd vp : Value) (k : Nat) : Prop := k = B ∨ k = B + 1 ∨ inBlk vd k ∨ inBlk vp k
structure PK (B : Nat) (vd vp : Value) (l p : Bs) (X : World) : Prop where
  d : Boxed X B 57 vd
  q : Boxed X (B + 1) 57 vp
  rd : Rd X vd (bytesV l)
  rp : Rd X vp (bytesV p)
theorem PK.kept {B : Nat} {vd vp : Value} {l p : Bs} {X Y : World} (h : PK B vd vp l p X) (hf : Fix (plT B vd vp) X Y) : PK B vd vp l p Y :=
  ⟨boxed_same h.d (hf _ (.inl rfl)), boxed_same h.q (hf _ (.inr (.inl rfl))), h.rd.kept fun g hg => hf g (.inr (.inr (.inl hg))), h.rp.kept fun g hg => hf g (.inr (.inr (.inr hg)))⟩
/-- The cells of a slice of bytes, one by one. -/
theorem Rd.byte {w : World} {a : Option Addr} {n c : Nat} {l : Bs} (h : Rd w (.slice a n c) (bytesV l)) {j : Nat} (hj : j < l.length) : ∃ g o, a = some ⟨g, o, none⟩ ∧ w.cell? ⟨g, o + j, none⟩ = some (b8 l[j]) := by
  obtain ⟨a', cap, e, h1, h2, h3, h4⟩ := h
  cases e
  obtain ⟨g, o, e, _, hc⟩ := h4 (by rw [bytesV_len]; omega)
  exact ⟨g, o, e, hc j _ (bytesV_at hj)⟩
theorem Rd.shape {w : World} {v : Value} {l : Bs} (h : Rd w v (bytesV l)) : ∃ a c, v = .slice a l.length c ∧ l.length ≤ c ∧ c ≤ 9223372036854775807 ∧ (0 < l.length → ∃ g o, a = some ⟨g, o, none⟩) := by
  obtain ⟨a, c, e, h1, h2, _, h4⟩ := h
  rw [bytesV_len] at e h1 h4
  unfold maxLen at h2
  exact ⟨a, c, e, h1, by omega, fun h0 => by obtain ⟨g, o, e, _⟩ := h4 h0; exact ⟨g, o, e⟩⟩
theorem b8_ne {x y : UInt8} (h : x ≠ y) : ((x.toNat : Int) == (y.toNat : Int)) = false := by
  rw [beq_eq_false_iff_ne]
  intro e
  exact h (UInt8.toNat_inj.1 (by omega))
/-- A place at which it does not stand: the first letter that is another one. -/
theorem first_off {p l : Bs} {a : Nat} (h : a + p.length ≤ l.length) (hs : ¬ standsB p l a = true) : ∃ m, ∃ h1 : m < p.length, ∃ h2 : a + m < l.length, l[a + m] ≠ p[m] ∧ ∀ j (h3 : j < m), l[a + j]'(by omega) = p[j]'(by omega) := by
  have key : ∀ n, n ≤ p.length → (∀ j (h3 : j < n) (h4 : j < p.length), l[a + j]'(by omega) = p[j]) ∨ ∃ m, m < n ∧ ∃ h1 : m < p.length, ∃ h2 : a + m < l.length, l[a + m] ≠ p[m] ∧ ∀ j (h3 : j < m), l[a + j]'(by omega) = p[j]'(by omega) := by
    intro n
    induction n with
    | zero => intro _; exact .inl fun j h3 => by omega
    | succ n ih =>
      intro hn
      rcases ih (by omega) with h1 | ⟨m, hm, h1⟩
      · by_cases he : l[a + n]'(by omega) = p[n]'(by omega)
        · refine .inl fun j h3 h4 => ?_
          rcases Nat.lt_or_eq_of_le (Nat.le_of_lt_succ h3) with h5 | rfl
          · exact h1 j h5 h4
          · exact he
        · exact .inr ⟨n, by omega, by omega, by omega, he, fun j h3 => h1 j h3 (by omega)⟩
      · exact .inr ⟨m, by omega, h1⟩
  rcases key p.length (Nat.le_refl _) with h1 | ⟨m, _, h1⟩
  · refine absurd ?_ hs
    unfold standsB
    have : (l.drop a).take p.length = p := by
      refine List.ext_getElem (by rw [List.length_take, List.length_drop]; omega) fun j h3 h4 => ?_
      rw [List.getElem_take, List.getElem_drop]
      exact h1 j h4 h4
    simp [this]
  · exact ⟨m, h1⟩
theorem stands_at {p l : Bs} {a : Nat} (h : a + p.length ≤ l.length) (hs : standsB p l a = true) (j : Nat) (hj : j < p.length) : l[a + j]'(by omega) = p[j] := by
  have e : (l.drop a).take p.length = p := by simpa [standsB] using hs
  have e2 : p[j]? = l[a + j]? := by
    conv => lhs; rw [← e]
    rw [List.getElem?_take, if_pos hj, List.getElem?_drop]
  rw [List.getElem?_eq_getElem hj, List.getElem?_eq_getElem (show a + j < l.length by omega)] at e2
  exact (Option.some.inj e2).symm

theorem scope_wide {P : Program} {n : Nat} {c : Code} {Q : Exit → Act → World → Prop} {a : Act} {w : World} (h : c.wpIn Fence.wide n P (Exit.noGoto Q) a w) : (Code.scope c).wpIn Fence.wide n P Q a w := wpIn_wide.2 (wp_scope_straight (wpIn_wide.1 h))

theorem Rd.cellAt {w : World} {g o n c : Nat} {xs : List Value} (h : Rd w (.slice (some ⟨g, o, none⟩) n c) xs) {j : Nat} {x : Value} (hx : xs[j]? = some x) : w.cell? ⟨g, o + j, none⟩ = some x := by
  obtain ⟨a', cap, e, h1, h2, h3, h4⟩ := h
  cases e
  have hj := (List.getElem?_eq_some_iff.1 hx).1
  obtain ⟨g', o', e, _, hc⟩ := h4 (by omega)
  cases e
  exact hc j x hx
/-- The letters are the same there. -/
def EqAt (l p : Bs) (a j : Nat) : Prop := ∃ c : UInt8, (bytesV l)[a + j]? = some (b8 c) ∧ (bytesV p)[j]? = some (b8 c)
def NeAt (l p : Bs) (a j : Nat) : Prop := ∃ c d : UInt8, c ≠ d ∧ (bytesV l)[a + j]? = some (b8 c) ∧ (bytesV p)[j]? = some (b8 d)
theorem b8_eq (c : UInt8) : b8 c = .int .u8 (c.toNat : Int) := rfl
theorem eq_at {l p : Bs} {a : Nat} (h : a + p.length ≤ l.length) (hs : standsB p l a = true) : ∀ j, j < p.length → EqAt l p a j := fun j hj =>
  ⟨p[j], by rw [bytesV_at (show a + j < l.length by omega), stands_at h hs j hj], bytesV_at hj⟩
theorem ne_at {l p : Bs} {a : Nat} (h : a + p.length ≤ l.length) (hs : ¬ standsB p l a = true) : ∃ m, m < p.length ∧ (∀ j, j < m → EqAt l p a j) ∧ NeAt l p a m := by
  obtain ⟨m, h1, h2, h3, h4⟩ := first_off h hs
  exact ⟨m, h1, fun j hj => ⟨p[j]'(by omega), by rw [bytesV_at (show a + j < l.length by omega), h4 j hj], bytesV_at (by omega)⟩, l[a + m], p[m], h3, bytesV_at h2, bytesV_at h1⟩

set_option maxRecDepth 100000 in
set_option maxHeartbeats 4000000 in
theorem places_hands (n : Nat) (hn : 1 ≤ n) (B : Nat) (l p : Bs) (hp : 1 ≤ p.length) (hl : l.length ≤ 1000000000) (hp2 : p.length ≤ 1000000000) (vd vp : Value) (w : World) (hk : PK B vd vp l p w) :
    Hands Fence.wide n Tryd.prog 47 #[.pointer (some ⟨B + 1, 0, none⟩), .pointer (some ⟨B, 0, none⟩)] (plT B vd vp) (fun _ => False) (fun i : Nat => #[.int .i64 (i : Int)]) (plcs p l) w := fun lp J Jx W hW hWs hJ hY h0 => by
  have HK := Lib.hid (hk.kept hW)
  obtain ⟨ad, cd, rfl, hd1, hd2, hd3⟩ := hk.rd.shape
  obtain ⟨ap, cp, rfl, hq1, hq2, hq3⟩ := hk.rp.shape
  obtain ⟨gp, op, rfl⟩ := hq3 (by omega)
  obtain ⟨nl, hnl⟩ : ∃ nl, nl = l.length := ⟨_, rfl⟩
  obtain ⟨np, hnp⟩ : ∃ np, np = p.length := ⟨_, rfl⟩
  have HNL := Lib.hid hnl
  have HNP := Lib.hid hnp
  have HD3 := Lib.hid hd3
  have HY := Lib.hid hY
  clear hk hW hJ hY hd3 hq3
  rw [← hnl] at hd1 hl HK
  rw [← hnp] at hq1 hp hp2 HK
  rw [← hnl, ← hnp] at HY
  clear hnl hnp
  refine callsIn_of_wp Tryd.func47 rfl trivial ?_ rfl
  simp only [Tryd.ntmps47, List.size_toArray, List.length_cons, List.length_nil, Nat.reduceAdd, Nat.reduceSub, Array.replicate_succ, Array.replicate_zero, List.push_toArray, List.append_toArray, List.nil_append, List.cons_append]
  gi_wp2
  refine scope_wide ?_
  gi_wp2
  refine wpIn_label ?_
  gi_wp2
  gi_loopw [4] (fun at4 wr => ∃ (a f : Nat) (pre : List Nat), at4 = .int .i64 (a : Int) ∧ a ≤ nl ∧ Hid (nl < f + a ∧ plcs p l = pre ++ plF p l f a) ∧ Hid (J pre wr) ∧ Hid (PK B (.slice ad nl cd) (.slice (some ⟨gp, op, none⟩) np cp) l p wr) ∧ W.heap.size ≤ wr.heap.size)
    (fun at4 wr => nl - (Lib.intOf at4).toNat)
  case atStart => exact ⟨0, nl + 1, [], rfl, Nat.zero_le _, Lib.hid ⟨by omega, by rw [HNL.out]; rfl⟩, Lib.hid h0, HK, Nat.le_refl _⟩
  case round =>
    obtain ⟨a, f, pre, rfl, ha, HX, HJ, HK2, hsz⟩ := hrel
    have hc0 := HK2.out.d.cell
    have hc1 := HK2.out.q.cell
    have w1 : IntKind.i64.wrap ((a : Int) + (np : Int)) = (a : Int) + (np : Int) := IntWalk.i64_in _ (by omega)
    by_cases hfit : a + np ≤ nl
    · obtain ⟨gd, od, rfl⟩ := HD3.out (by have := HNL.out; omega)
      have t1 : decide ((a : Int) + (np : Int) ≤ (nl : Int)) = true := decide_eq_true (by omega)
      obtain ⟨f', rfl⟩ : ∃ f', f = f' + 1 := ⟨f - 1, by have := HX.out.1; omega⟩
      have hfit' : a + p.length ≤ l.length := by rw [← HNP.out, ← HNL.out]; exact hfit
      by_cases hs : standsB p l a = true
      · have HE : Hid (plcs p l = (pre ++ [a]) ++ plF p l f' (a + np)) := Lib.hid (by
          rw [HX.out.2, plF, if_pos hfit', if_pos hs, List.append_assoc, ← HNP.out]; rfl)
        have HS : Hid (∀ j, j < np → EqAt l p a j) := Lib.hid (by rw [HNP.out]; exact eq_at hfit' hs)
        clear hs hfit'
        gi_wp2
        gi_loopw [4, 16] (fun a4 j16 w2 => ∃ j : Nat, a4 = .int .i64 (a : Int) ∧ j16 = .int .i64 (j : Int) ∧ j ≤ np ∧ w2 = wr) (fun _ j16 _ => np - (Lib.intOf j16).toNat)
        case atStart => exact ⟨0, rfl, rfl, Nat.zero_le _, rfl⟩
        case round =>
          obtain ⟨j, rfl, rfl, hj, rfl⟩ := hrel
          by_cases hlt : j < np
          · obtain ⟨c, hx1, hx2⟩ := HS.out j hlt
            have r1 := HK2.out.rd.cellAt hx1
            rw [b8_eq] at r1
            have r2 := HK2.out.rp.cellAt hx2
            rw [b8_eq] at r2
            have t2 : ((c.toNat : Int) != (c.toNat : Int)) = false := by simp
            clear hx1 hx2
            obtain ⟨q, hq⟩ : ∃ q, q = a + j := ⟨_, rfl⟩
            rw [← hq] at r1
            have w2 : IntKind.i64.wrap ((a : Int) + (j : Int)) = (q : Int) := by rw [hq]; exact IntWalk.i64_in _ (by omega)
            have q1 : q < nl := by omega
            clear hq
            gi_wp2
            go_roundw
            case rel => exact ⟨j + 1, rfl, by go_num, hlt, trivial⟩
            case measure => simp [Lib.intOf]; omega
          · obtain rfl : j = np := by omega
            obtain ⟨fn, tmps, assign, body, hy, hR⟩ := HY.out pre a wr ⟨plF p l f' (a + j), by rw [HE.out]⟩ HJ.out hsz

            gi_wp2
            refine hR.mono ?_
            rintro e2 W3 (⟨rfl, hJ3, hk3, hs3⟩ | ⟨rfl, hJx3⟩)
            · have HJ3 := Lib.hid hJ3
              have HK3 : Hid (PK B (.slice (some ⟨gd, od, none⟩) nl cd) (.slice (some ⟨gp, op, none⟩) j cp) l p W3) := Lib.hid (HK2.out.kept hk3)
              have hc3 := HK3.out.q.cell
              clear hJ3 hk3
              gi_wp2
              go_roundw
              case rel => exact ⟨a + j, f', pre ++ [a], by go_num, hfit, Lib.hid ⟨by have := HX.out.1; omega, HE.out⟩, HJ3, HK3, hs3⟩
              case measure => simp [Lib.intOf]; omega
            · gi_wp2
              rw [Exit.noGoto_normal]
              go_end0
              exact ⟨⟨_, rfl⟩, .inr ⟨_, hJx3⟩⟩
      · obtain ⟨m, hm, hS, hN⟩ := ne_at hfit' hs
        have HE : Hid (plcs p l = pre ++ plF p l f' (a + 1)) := Lib.hid (by
          rw [HX.out.2, plF, if_pos hfit', if_neg hs])
        have HS := Lib.hid hS
        have HN := Lib.hid hN
        rw [← HNP.out] at hm
        clear hs hfit' hS hN
        have w3 : IntKind.i64.wrap ((a : Int) + 1) = (a : Int) + 1 := IntWalk.i64_in _ (by omega)
        gi_wp2
        gi_loopw [4, 16] (fun a4 j16 w2 => ∃ j : Nat, a4 = .int .i64 (a : Int) ∧ j16 = .int .i64 (j : Int) ∧ j ≤ m ∧ w2 = wr) (fun _ j16 _ => np - (Lib.intOf j16).toNat)
        case atStart => exact ⟨0, rfl, rfl, Nat.zero_le _, rfl⟩
        case round =>
          obtain ⟨j, rfl, rfl, hj, rfl⟩ := hrel
          have hlt : j < np := by omega
          obtain ⟨q, hq⟩ : ∃ q, q = a + j := ⟨_, rfl⟩
          have w2 : IntKind.i64.wrap ((a : Int) + (j : Int)) = (q : Int) := by rw [hq]; exact IntWalk.i64_in _ (by omega)
          have q1 : q < nl := by omega
          by_cases hjm : j < m
          · obtain ⟨c, hx1, hx2⟩ := HS.out j hjm
            have r1 := HK2.out.rd.cellAt hx1
            rw [b8_eq] at r1
            have r2 := HK2.out.rp.cellAt hx2
            rw [b8_eq] at r2
            rw [← hq] at r1
            have t2 : ((c.toNat : Int) != (c.toNat : Int)) = false := by simp
            clear hx1 hx2 hq
            gi_wp2
            go_roundw
            case rel => exact ⟨j + 1, rfl, by go_num, hjm, trivial⟩
            case measure => simp [Lib.intOf]; omega
          · obtain rfl : j = m := by omega
            obtain ⟨c, d, hcd, hx1, hx2⟩ := HN.out
            have r1 := HK2.out.rd.cellAt hx1
            rw [b8_eq] at r1
            have r2 := HK2.out.rp.cellAt hx2
            rw [b8_eq] at r2
            rw [← hq] at r1
            have t2 : ((c.toNat : Int) != (d.toNat : Int)) = true := by rw [bne, b8_ne hcd]; rfl
            clear hx1 hx2 hq hcd
            gi_wp2
            go_roundw
            case rel => exact ⟨a + 1, f', pre, by go_num, by omega, Lib.hid ⟨by have := HX.out.1; omega, HE.out⟩, HJ, HK2, hsz⟩
            case measure => simp [Lib.intOf]; omega
    · have t1 : decide ((a : Int) + (np : Int) ≤ (nl : Int)) = false := decide_eq_false (by omega)
      have HE : Hid (plcs p l = pre) := Lib.hid (by
        rw [HX.out.2]
        obtain ⟨f', rfl⟩ : ∃ f', f = f' + 1 := ⟨f - 1, by have := HX.out.1; omega⟩
        rw [plF, if_neg (by rw [← HNP.out, ← HNL.out]; exact hfit), List.append_nil])
      gi_wp2
      rw [Exit.noGoto_normal]
      go_end0
      exact ⟨⟨_, rfl⟩, .inl (by rw [HE.out]; exact HJ.out)⟩
end Go.Proofs.YtophihnjlodmjaaDoor
