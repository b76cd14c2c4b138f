/- Proved here: Row of puncheonref02, at at most a hundred parts whose texts have at most 300 bytes. -/
import Derived.Test.YtmamolhclohniaaDoorRefS
import Derived.Lib.AppendStr
namespace Go.Proofs.YtmamolhclohniaaDoor
open Go.RowKit Go.Shelf

theorem rsays_any (p : Part) (hp : p.num < 18446744073709551616) (ht : p.text.length ≤ 300) (w : World) : Calls Tryd.prog 24 #[.agg #[.bool p.isText, .int .u64 p.num, .string ⟨p.text.toArray⟩]] w fun e w' => e = .returned (.string ⟨(saysL p).toArray⟩) ∧ Below w.heap.size w w' := by
  obtain ⟨i, n, t⟩ := p
  cases i with
  | true => exact rsays_text n t ht w
  | false => exact rsays_num n t hp w

/-- Bytes in memory of the call's own, not nil. -/
def Byt (w : World) (base : Nat) (v : Value) (l : Str) : Prop := w.ownsRow base 5 1 v l.length (Lib.byteCells l) ∧ v ≠ .slice none 0 0
theorem Byt.below {w w' : World} {base : Nat} {v : Value} {l : Str} (h : Byt w base v l) (hb : Below w.heap.size w w') : Byt w' base v l :=
  ⟨h.1.kept (row := none) ⟨hb.os, hb.tape, hb.output, hb.size, fun k hk _ => hb.block k hk⟩ (Classical.em _), h.2⟩
theorem Byt.form {w : World} {base : Nat} {v : Value} {l : Str} (h : Byt w base v l) : ∃ g cap, v = .slice (some ⟨g, 0, none⟩) l.length cap ∧ ∀ j (hj : j < l.length), w.cell? ((⟨g, 0, none⟩ : Addr).add j) = some (.int .u8 (l[j].toNat : Int)) := by
  rcases id h.1 with ⟨_, ⟨rfl, _⟩ | ⟨g, cap, cur, rfl, _⟩⟩
  · exact absurd rfl h.2
  · refine ⟨g, cap, rfl, fun j hj => ?_⟩
    exact h.1.cells (g := g) rfl j _ (by simp [Lib.byteCells, List.getElem?_eq_getElem hj])
theorem infoB : (Tryd.prog.info? 5).map (fun i => (i.zero, i.size, i.bytes)) = some (some (.int .u8 0), 1, 1) := by kernel_rfl

theorem wpList_append_byt {w : World} {ops : Array Oper} {rest : List Oper} {o : Oper} {a : Act} {Q : Exit → Act → World → Prop} (hgd : o.guard = none) (s x : Operand)
    (ho : o.op = .call { callee := .builtin .append, args := #[s, x], argTypes := #[49, 9] }) (base : Nat) (v : Value) (l m : Str) (hs : a.eval s = v) (hown : Byt w base v l) (hx : a.eval x = .string ⟨m.toArray⟩)
    (hb : base ≤ w.heap.size) (hl : l.length + m.length ≤ 1000000)
    (h : ∀ v' w', Byt w' base v' (l ++ m) → Below base w w' → wpList Tryd.prog ops Q rest (a.put o.dst v') w') : wpList Tryd.prog ops Q (o :: rest) a w := by
  obtain ⟨i0, hi, hz0, hz1, hz2⟩ := info_parts infoB
  have hsz : (⟨m.toArray⟩ : ByteArray).size = m.length := rfl
  refine Lib.wpList_append_own_string _ hgd s x 49 9 ho base 5 i0 Tryd.underlying49 Tryd.underlying9 hi hz0 hz1 hz2 v _ _ hs hown.1 ⟨m.toArray⟩ hx (by rw [hsz]; unfold maxLen; omega) (by rw [hsz]; omega) hb ?_
  intro v' w' ho' hgr hn
  refine h v' w' ⟨?_, fun e => hown.2 (hn.1 e).1⟩ ((Below.refl _ w).grown hgr hb (fun k hk => (hown.1.lt k hk).1))
  rw [List.length_append, Lib.byteCells_append]
  exact ho'

set_option maxRecDepth 100000 in
set_option maxHeartbeats 2000000 in
theorem rrow_any (l : List Part) (v : Value) (w : World) (hv : RdP w v l) (hn : ∀ p ∈ l, p.num < 18446744073709551616) (ht : ∀ p ∈ l, p.text.length ≤ 300) (hr : (rowL l).length ≤ 100000) : Calls Tryd.prog 14 #[v] w fun e w' => e = .returned (.string ⟨(rowL l).toArray⟩) ∧ Below w.heap.size w w' := by
  obtain ⟨a, cap, rfl, hlc, hcm, hcell⟩ := hv
  unfold maxLen at hcm
  obtain ⟨n, hnn⟩ : ∃ n, n = l.length := ⟨_, rfl⟩
  rw [← hnn] at hlc hcell
  rw [← hnn]
  have HN := Lib.hid hnn
  have HC := Lib.hid hcell
  have HNM := Lib.hid hn
  have HTX := Lib.hid ht
  have h0 : Byt (w.alloc (.cells #[] 5)) w.heap.size (.slice (some ⟨w.heap.size, 0, none⟩) 0 0) (rowL (l.take 0)) :=
    ⟨World.ownsRow_made w #[] 0 (Nat.le_refl _) (Nat.zero_le _) rfl, by simp⟩
  have H0 := Lib.hid h0
  have hb0 := bal (Below.refl _ w) (.cells #[] 5)
  clear hnn hcell hn ht h0
  go_enter Tryd.func14, Tryd.ntmps14
  go_wp2_with fail
  go_loopw [3, 5, 9, 10, 11, 12, 13, 14, 15, 16, 17] (fun vo _ i _ _ _ _ _ _ _ _ wr => ∃ k : Nat, k ≤ n ∧ i = .int .i64 k ∧ Hid (Byt wr w.heap.size vo (rowL (l.take k))) ∧ Below w.heap.size w wr) (fun _ _ i _ _ _ _ _ _ _ _ _ => n - (Lib.intOf i).toNat)
  case atStart => exact ⟨0, Nat.zero_le _, rfl, H0, hb0⟩
  case round =>
    obtain ⟨k, hk, rfl, HB, hB⟩ := hrel
    by_cases hlt : k < n
    · obtain ⟨p, hp⟩ : ∃ p, l[k]? = some p := ⟨_, List.getElem?_eq_getElem (by have := HN.out; omega)⟩
      obtain ⟨g, o, rfl, hg, hc⟩ := HC.out (by omega)
      obtain ⟨q0, q1, q2⟩ := hc k p hp
      have r0 := (hB.cell (p := ⟨g, _, none⟩) hg).trans q0
      have r1 := (hB.cell (p := ⟨g, _, none⟩) hg).trans q1
      have r2 := (hB.cell (p := ⟨g, _, none⟩) hg).trans q2
      have HP1 : Hid (p.num < 18446744073709551616) := Lib.hid (HNM.out p (List.mem_of_getElem? hp))
      have HP2 : Hid (p.text.length ≤ 300) := Lib.hid (HTX.out p (List.mem_of_getElem? hp))
      have HRT := Lib.hid (rowL_take l k p hp)
      have hlen : (rowL (l.take k)).length + (saysL p).length ≤ 1000000 := by
        have h1 := rowL_take_len l (k + 1)
        rw [← rowL_take l k p hp, List.length_append] at h1
        omega
      have HLN := Lib.hid hlen
      have hbs := hB.size
      clear q0 q1 q2 hc hp hlen
      go_wp2_with fail
      refine (rsays_any p HP1.out HP2.out _).mono ?_
      rintro e w1 ⟨rfl, hb1⟩
      have hB1 := bch (bal hB (.cells #[.bool p.isText, .int .u64 p.num, .string ⟨p.text.toArray⟩] 29)) hb1
      have HB1 := Lib.hid ((HB.out.below (bal (Below.refl _ wr) (.cells #[.bool p.isText, .int .u64 p.num, .string ⟨p.text.toArray⟩] 29))).below hb1)
      have hs1 := hB1.size
      go_wp2_with (at_builtin; refine wpList_append_byt rfl _ _ rfl w.heap.size _ _ (saysL p) rfl HB1.out rfl hs1 HLN.out ?_; intro v' w2 hby hb2; refine Hid.out ?_)
      refine Lib.hid ?_
      rw [HRT.out] at hby
      have HBY := Lib.hid hby
      clear hby
      go_wp2_with fail
      go_roundw
      case rel => exact ⟨k + 1, hlt, by go_num, HBY, hB1.trans hb2⟩
      case measure => simp [Lib.intOf]; omega
    · have HE : Hid (l.take k = l) := Lib.hid (List.take_of_length_le (by have := HN.out; omega))
      have hby := HB.out
      rw [HE.out] at hby
      obtain ⟨g, cp, hvo, hcs⟩ := hby.form
      subst hvo
      have hcv := run_convert_bytes_back (P := Tryd.prog) wr 49 9 5 ⟨g, 0, none⟩ cp (rowL l) Tryd.underlying49 Tryd.underlying5 Tryd.underlying9 hcs
      clear hby hcs
      go_wp2_with fail
      go_ret
      exact ⟨rfl, hB⟩
end Go.Proofs.YtmamolhclohniaaDoor
