/- Proved here: bytes of nought put behind a row of a call's own, as a text of them is. -/
import Derived.Test.YtophihnjlodmjaaDoorRefQ
import Derived.Lib.AppendStr
namespace Go.Proofs.YtophihnjlodmjaaDoor
open Go.RowKit Go.Shelf

theorem strCells_eq (l : Bs) : Lib.strCells ⟨l.toArray⟩ = bytesV l := by simp [Lib.strCells, bytesV]
theorem zero_cells (n : Nat) : Builtin.zeroCells #[.int .u8 0] n = (Lib.strCells ⟨(zer n).toArray⟩).toArray := by
  rw [strCells_eq]
  refine Array.ext (by simp [Builtin.zeroCells, bytesV, zer]) fun i h1 h2 => ?_
  have : i < n := by simpa [Builtin.zeroCells] using h1
  simp [Builtin.zeroCells, bytesV, zer, b8]
  rw [Nat.mod_one]
  rfl
theorem zeros_run (ty : TypeId) (base : Option Addr) (sLen sCap n : Nat) (w : World) (hn : n ≤ 1000000) (hs : sLen ≤ 2000000000) (hc : sLen ≤ sCap) :
    (Builtin.append_ #[57, 3] ty #[.slice base sLen sCap, .int .i64 (n : Int)]).run Tryd.prog w = (Builtin.append_ #[57, 9] ty #[.slice base sLen sCap, .string ⟨(zer n).toArray⟩]).run Tryd.prog w := by
  obtain ⟨i0, hi, hz0, hz1, hz2⟩ := info_parts info5
  have e1 : IntKind.i64.wrap (n : Int) = (n : Int) := IntWalk.i64_in _ (by omega)
  have e2 : (⟨(zer n).toArray⟩ : ByteArray).size = n := by show (zer n).length = n; exact zer_len n
  have e3 : ¬ (281474976710656 : Int) < (n : Int) := by omega
  have e4 : ¬ (9223372036854775807 : Int) < ((sLen : Int) + (n : Int)) := by omega
  have e6 : ¬ (n : Int) < 0 := by omega
  have hf := fun W => Lib.run_firstCells_string (P := Tryd.prog) W 1 ⟨(zer n).toArray⟩
  rw [e2] at hf
  have hzc : (Value.int IntKind.u8 0).cells = #[.int .u8 0] := rfl
  by_cases h0 : n = 0
  · subst h0
    have hz0' : (Lib.strCells ⟨(zer 0).toArray⟩) = [] := rfl
    rw [hz0'] at hf
    simp [Builtin.append_, run_underlying Tryd.underlying57, run_underlying Tryd.underlying9, run_underlying Tryd.underlying3, sizeOf, typeInfo, zeroValue, hi, hz0, hz1, hz2, Builtin.lenOf, e2, asInt, asIntOf, hf, show IntKind.i64.wrap 0 = 0 from rfl, hc]
  · have e7 : ¬ (n : Int) ≤ 0 := by omega
    by_cases hr : sLen + n ≤ sCap
    · simp [Builtin.append_, run_underlying Tryd.underlying57, run_underlying Tryd.underlying9, run_underlying Tryd.underlying3, sizeOf, typeInfo, zeroValue, hi, hz0, hz1, hz2, Builtin.lenOf, e1, e2, e3, e6, h0, hr, asInt, asIntOf, hf, hzc, zero_cells]
    · have e5 : ¬ 281474976710656 < Builtin.nextslicecap (sLen + n) sCap := by
        have := growslice_fits (need := sLen + n) (old := sCap) (bytes := 1) (by omega) (by omega)
        omega
      simp [Builtin.append_, run_underlying Tryd.underlying57, run_underlying Tryd.underlying9, run_underlying Tryd.underlying3, sizeOf, typeInfo, zeroValue, hi, hz0, hz1, hz2, Builtin.lenOf, e1, e2, e3, e4, e5, e6, h0, hr, asInt, asIntOf, hf, hzc, zero_cells]
/-- 'append(v, make([]byte, k)...)', v in memory of the call's own. -/
theorem wpList_append_zeros {w : World} {ops : Array Oper} {rest : List Oper} {o : Oper} {a : Act} {Q : Exit → Act → World → Prop} (hgd : o.guard = none) (s x : Operand)
    (ho : o.op = .call { callee := .builtin .append, args := #[s, x], argTypes := #[57, 3] })
    (base : Nat) (v : Value) (l : Bs) (hs : a.eval s = v) (hown : w.ownsRow base 5 1 v l.length (bytesV l)) (k : Nat) (hx : a.eval x = .int .i64 (k : Int)) (hk : k ≤ 1000000) (hl : l.length ≤ 2000000000) (hb : base ≤ w.heap.size)
    (h : ∀ v' w', w'.ownsRow base 5 1 v' (l ++ zer k).length (bytesV (l ++ zer k)) → w.grownBy w' v.ownBlock → wpList Tryd.prog ops Q rest (a.put o.dst v') w') : wpList Tryd.prog ops Q (o :: rest) a w := by
  refine wpList_plain hgd fun K hK => ?_
  obtain ⟨i0, hi, hz0, hz1, hz2⟩ := info_parts info5
  have e2 : (⟨(zer k).toArray⟩ : ByteArray).size = k := zer_len k
  obtain ⟨v', w', hr, h2, h3, _⟩ := Lib.run_append_own_string (P := Tryd.prog) w base 57 9 o.type 5 i0 Tryd.underlying57 Tryd.underlying9 hi hz0 hz1 hz2 v l.length (bytesV l) hown ⟨(zer k).toArray⟩ (by rw [e2]; unfold maxLen; omega) (by rw [e2]; omega) hb
  have hcap : ∃ ad c, v = .slice ad l.length c ∧ l.length ≤ c := by
    rcases hown.2 with ⟨h1, h0⟩ | ⟨g, cap, cur, h1, _, _, h4, _⟩
    · exact ⟨none, 0, by rw [h1, h0], by omega⟩
    · exact ⟨_, _, h1, h4⟩
  obtain ⟨ad, c, rfl, hc⟩ := hcap
  rw [← zeros_run o.type ad l.length c k w hk hl hc] at hr
  unfold Oper.wp execOp
  simp only [ho, resolve, invoke, builtin, Sem.run_bind, Sem.run_pure, Result.andThen_ok, List.map_toArray, List.map_cons, List.map_nil, hs, hx, hr]
  refine hK _ _ (h v' w' ?_ h3)
  rw [strCells_eq, ← bytesV_app, e2] at h2
  rw [List.length_append, zer_len]
  exact h2
/-- 'append(v, s...)' of a text's bytes. -/
theorem wpList_append_text {w : World} {ops : Array Oper} {rest : List Oper} {o : Oper} {a : Act} {Q : Exit → Act → World → Prop} (hgd : o.guard = none) (s x : Operand)
    (ho : o.op = .call { callee := .builtin .append, args := #[s, x], argTypes := #[57, 9] })
    (base : Nat) (v : Value) (l m : Bs) (hs : a.eval s = v) (hown : w.ownsRow base 5 1 v l.length (bytesV l)) (hx : a.eval x = .string ⟨m.toArray⟩) (hl : l.length + m.length ≤ 2000000000) (hb : base ≤ w.heap.size)
    (h : ∀ v' w', w'.ownsRow base 5 1 v' (l ++ m).length (bytesV (l ++ m)) → w.grownBy w' v.ownBlock → wpList Tryd.prog ops Q rest (a.put o.dst v') w') : wpList Tryd.prog ops Q (o :: rest) a w := by
  obtain ⟨i0, hi, hz0, hz1, hz2⟩ := info_parts info5
  have e2 : (⟨m.toArray⟩ : ByteArray).size = m.length := rfl
  refine Lib.wpList_append_own_string w hgd s x 57 9 ho base 5 i0 Tryd.underlying57 Tryd.underlying9 hi hz0 hz1 hz2 v l.length (bytesV l) hs hown ⟨m.toArray⟩ hx (by rw [e2]; unfold maxLen; omega) (by rw [e2]; omega) hb fun v' w' h2 h3 _ => h v' w' ?_ h3
  rw [strCells_eq, ← bytesV_app, e2] at h2
  rw [List.length_append]
  exact h2
/-- 'string(v)' of bytes that read so. -/
theorem text_of {w : World} {v : Value} {l : Bs} (h : Rd w v (bytesV l)) : (convert 57 9 v).run Tryd.prog w = .ok (.string ⟨l.toArray⟩) w := by
  obtain ⟨a, cap, rfl, h1, h2, h3, h4⟩ := h
  rw [bytesV_len] at h4 ⊢
  cases a with
  | none =>
    obtain ⟨e, _⟩ := h3 rfl
    have : l = [] := by cases l with | nil => rfl | cons c l => simp [bytesV] at e
    subst this
    exact run_convert_bytes_nil w 57 5 Tryd.underlying57 Tryd.underlying5 _ _ 9 Tryd.underlying9
  | some ad =>
    refine run_convert_bytes_back w 57 9 5 ad cap l Tryd.underlying57 Tryd.underlying5 Tryd.underlying9 fun j hj => ?_
    obtain ⟨g, o, e, hg, hc⟩ := h4 (by omega)
    cases e
    rw [addr_add]
    exact hc j _ (bytesV_at hj)
end Go.Proofs.YtophihnjlodmjaaDoor
