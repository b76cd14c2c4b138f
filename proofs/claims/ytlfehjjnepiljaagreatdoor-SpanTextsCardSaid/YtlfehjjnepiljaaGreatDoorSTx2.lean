/- Proved here: cut of puncheonref05: the pieces of a text, cut at another one; at "||" and at "," these are the pieces that the plain words name. -/
import Derived.Test.YtlfehjjnepiljaaGreatDoorSTx1
namespace Go.Proofs.YtlfehjjnepiljaaGreatDoor
open Go.RowKit Go.Shelf

/-- What cutting at a text comes to. -/
structure CutLaw (sub : Str) (spl : Str → List Str) : Prop where
  pos : 0 < sub.length
  hit : ∀ (i : Nat) (l : Str), Lib.occAt l sub i = true → (∀ j, j < i → Lib.occAt l sub j = false) → spl l = l.take i :: spl (l.drop (i + sub.length))
  none : ∀ l : Str, (∀ j, j + sub.length ≤ l.length → Lib.occAt l sub j = false) → spl l = [l]
theorem occ_room {l sub : Str} {i : Nat} (h : Lib.occAt l sub i = true) : i + sub.length ≤ l.length ∨ sub.length = 0 := by
  have h1 := (List.isPrefixOf_iff_prefix.1 h).length_le
  rw [List.length_drop] at h1
  omega
theorem occ_drop (l sub : Str) (i j : Nat) : Lib.occAt (l.drop i) sub j = Lib.occAt l sub (i + j) := by
  unfold Lib.occAt
  rw [List.drop_drop]
theorem cut_bars : CutLaw bars splitD where
  pos := by decide
  hit := fun i l h1 h2 => splitD_occ i l h1 h2
  none := fun l h => splitD_none l (fun j _ => by
    by_cases hj : j + bars.length ≤ l.length
    · exact h j hj
    · cases e : Lib.occAt l bars j with
      | false => rfl
      | true => rcases occ_room e with h | h
                · exact absurd h hj
                · cases h)
theorem occ_one {c : UInt8} {l : Str} {i : Nat} : Lib.occAt l [c] i = true ↔ l[i]? = some c := by
  unfold Lib.occAt
  rw [List.isPrefixOf_iff_prefix]
  constructor
  · rintro ⟨t, ht⟩
    have : (l.drop i)[0]? = some c := by rw [← ht]; rfl
    rw [List.getElem?_drop] at this
    simpa using this
  · intro h
    have hi := (List.getElem?_eq_some_iff.1 h).1
    refine ⟨l.drop (i + 1), ?_⟩
    rw [List.drop_eq_getElem_cons hi, (List.getElem?_eq_some_iff.1 h).2]
    rfl
theorem cut_one (c : UInt8) : CutLaw [c] (splitL c) where
  pos := Nat.zero_lt_one
  hit := fun i l h1 h2 => by
    have hi := occ_one.1 h1
    have hlt := (List.getElem?_eq_some_iff.1 hi).1
    have e : l = l.take i ++ c :: l.drop (i + 1) := by
      conv => lhs; rw [← List.take_append_drop i l, List.drop_eq_getElem_cons hlt, (List.getElem?_eq_some_iff.1 hi).2]
    have hf : c ∉ l.take i := fun hm => by
      obtain ⟨j, hj⟩ := List.mem_iff_getElem?.1 hm
      rw [List.getElem?_take] at hj
      split at hj
      · rename_i hji
        have := h2 j hji
        rw [occ_one.2 hj] at this
        cases this
      · cases hj
    conv => lhs; rw [e]
    exact split_at hf
  none := fun l h => split_free (fun hm => by
    obtain ⟨j, hj⟩ := List.mem_iff_getElem?.1 hm
    have hjl := (List.getElem?_eq_some_iff.1 hj).1
    have := h j (by simp; omega)
    rw [occ_one.2 hj] at this
    cases this)
/-- Where the reading stands: what was cut off, and that nothing was left out. -/
def CutAt (sub : Str) (spl : Str → List Str) (S : Str) (out : List Str) (from' i : Nat) : Prop :=
  spl S = out ++ spl (S.drop from') ∧ ∀ j, from' ≤ j → j < i → Lib.occAt S sub j = false
theorem CutAt.start (sub : Str) (spl : Str → List Str) (S : Str) : CutAt sub spl S [] 0 0 := ⟨rfl, fun _ _ h => absurd h (Nat.not_lt_zero _)⟩
theorem CutAt.skip {sub : Str} {spl : Str → List Str} {S : Str} {out : List Str} {f i : Nat} (h : CutAt sub spl S out f i) (hn : Lib.occAt S sub i = false ∨ i < f) : CutAt sub spl S out f (i + 1) :=
  ⟨h.1, fun j h1 h2 => by
    by_cases e : j < i
    · exact h.2 j h1 e
    · obtain rfl : j = i := by omega
      rcases hn with hn | hn
      · exact hn
      · omega⟩
theorem CutAt.cut {sub : Str} {spl : Str → List Str} (L : CutLaw sub spl) {S : Str} {out : List Str} {f i : Nat} (h : CutAt sub spl S out f i) (ho : Lib.occAt S sub i = true) (hf : f ≤ i) : CutAt sub spl S (out ++ [(S.drop f).take (i - f)]) (i + sub.length) (i + 1) := by
  refine ⟨?_, fun _ h1 h2 => by have := L.pos; omega⟩
  rw [h.1, L.hit (i - f) (S.drop f) (by rw [occ_drop, show f + (i - f) = i by omega]; exact ho) (fun j hj => by rw [occ_drop]; exact h.2 _ (by omega) (by omega)), List.drop_drop, show f + (i - f + sub.length) = i + sub.length by omega]
  simp
theorem CutAt.done {sub : Str} {spl : Str → List Str} (L : CutLaw sub spl) {S : Str} {out : List Str} {f i : Nat} (h : CutAt sub spl S out f i) (hi : S.length < i + sub.length) : spl S = out ++ [S.drop f] := by
  rw [h.1, L.none (S.drop f) (fun j hj => by
    rw [List.length_drop] at hj
    rw [occ_drop]
    by_cases e : f + j < i
    · exact h.2 _ (by omega) e
    · have := L.pos; omega)]
/-- The cells of a row of texts. -/
def txt (L : List Str) : List Value := L.map fun x => .string (ofB x)
theorem txt_len (L : List Str) : (txt L).length = L.length := List.length_map _
theorem txt_snoc (L : List Str) (x : Str) : txt (L ++ [x]) = txt L ++ [.string (ofB x)] := by unfold txt; rw [List.map_append]; rfl
theorem txt_one (L : List Str) : ∀ u ∈ txt L, u.oneCell' = true := fun u hu => by
  obtain ⟨x, _, rfl⟩ := List.mem_map.1 hu
  rfl
theorem ext_ofB (s : ByteArray) (a b : Nat) : s.extract a b = ofB ((s.data.toList.drop a).take (b - a)) := by
  apply ByteArray.ext
  apply Array.toList_inj.1
  exact Lib.extract_data ..
theorem cell_new1 (w : World) (t : TypeId) (v : Value) : ∀ (j : Nat) (u : Value), [v][j]? = some u → (w.alloc (.cells #[v] t)).cell? ((⟨w.heap.size, 0, none⟩ : Addr).add j) = some u := by
  intro j u hu
  have hj : j = 0 := by
    have := (List.getElem?_eq_some_iff.1 hu).1
    simpa using this
  subst hj
  cases hu
  rw [add_to, Nat.zero_add]
  exact (box_new (w := w) (t := t) (cs := #[v])).cell (k := 0) rfl
def CutTx (L : List Str) (w : World) (e : Ending) (w' : World) : Prop := ∃ (a : Option Addr) (n c : Nat), e = .returned (.slice a n c) ∧ n = L.length ∧ w'.ownsRow w.heap.size 9 1 (.slice a n c) n (txt L) ∧ Below w.heap.size w w'
theorem own_formT {w : World} {B n : Nat} {x : Value} {xs : List Value} (h : w.ownsRow B 9 1 x n xs) : ∃ a c, x = .slice a n c := by
  rcases h.2 with ⟨rfl, h0⟩ | ⟨g, cap, _, rfl, _⟩
  · exact ⟨none, 0, by rw [h0]⟩
  · exact ⟨_, _, rfl⟩
theorem own_lowT {w : World} {B n : Nat} {x : Value} {xs : List Value} (h : w.ownsRow B 9 1 x n xs) : ∀ k, x.ownBlock = some k → B ≤ k := fun k hk => (h.lt k hk).1

theorem occ_ext {s sub : ByteArray} {S D : Str} (hS : s.data.toList = S) (hD : sub.data.toList = D) (i : Nat) : ((s.extract i (i + D.length)).toList == sub.toList) = Lib.occAt S D i := by
  rw [Lib.toList_data, Lib.toList_data]
  have e : (s.extract i (i + D.length)).data.toList = (S.drop i).take D.length := by rw [ext_ofB, hS, Nat.add_sub_cancel_left]; rfl
  rw [e, hD]
  have h2 : Lib.occAt S D i = true ↔ (S.drop i).take D.length = D := by
    unfold Lib.occAt
    rw [List.isPrefixOf_iff_prefix, List.prefix_iff_eq_take]
    exact ⟨fun h => h.symm, fun h => h.symm⟩
  cases ho : Lib.occAt S D i with
  | true => exact beq_iff_eq.2 (h2.1 ho)
  | false =>
    rw [beq_eq_false_iff_ne]
    intro hh
    rw [h2.2 hh] at ho
    cases ho

set_option maxRecDepth 100000 in
set_option maxHeartbeats 8000000 in
theorem rcut_any (s sub : ByteArray) (S D : Str) (n d : Nat) (spl : Str → List Str) (L : CutLaw D spl) (hS : s.data.toList = S) (hD : sub.data.toList = D) (hn : s.size = n) (hd : sub.size = d) (hs : n ≤ 1000000) (hsub : d ≤ 1000) (w : World) : Calls Tryz.prog 43 #[.string s, .string sub] w (CutTx (spl S) w) := by
  obtain ⟨i0, hi, hz0, hz1, hz2⟩ := info_parts info9z
  have HS := Lib.hid hS
  have HD := Lib.hid hD
  have HSL : Hid (S.length = n) := Lib.hid (by rw [← hS, ← hn]; rfl)
  have HDL : Hid (D.length = d) := Lib.hid (by rw [← hD, ← hd]; rfl)
  have HL := Lib.hid L
  have hdp : 0 < d := by rw [← HDL.out]; exact L.pos
  clear hS hD L
  go_enter Tryz.func43, Tryz.ntmps43
  go_wp2_with fail
  go_loopw [5, 6, 7] (fun out fr ii W => ∃ (a : Option Addr) (m c f i : Nat) (O : List Str), out = .slice a m c ∧ fr = .int .i64 f ∧ ii = .int .i64 i ∧ m = O.length ∧ m ≤ i ∧ f ≤ n ∧ i + d ≤ n + d + 1 ∧ Hid (CutAt D spl S O f i) ∧ Hid (W.ownsRow w.heap.size 9 1 (.slice a m c) m (txt O)) ∧ Hid (Below w.heap.size w W)) (fun _ _ ii _ => n + 2 - (Lib.intOf ii).toNat)
  case atStart => exact ⟨none, 0, 0, 0, 0, [], rfl, rfl, rfl, rfl, Nat.le_refl _, Nat.zero_le _, by omega, Lib.hid (CutAt.start _ _ _), Lib.hid (World.ownsRow_nil _ _ _ _), Lib.hid (Below.refl _ _)⟩
  case round =>
    obtain ⟨a, m, c, f, i, O, rfl, rfl, rfl, hm, hmi, hfn, hin, HC, HR, HB⟩ := hrel
    have HM := Lib.hid hm
    clear hm
    obtain ⟨wq, hwq⟩ : ∃ q, q = wr := ⟨_, rfl⟩
    rw [← hwq] at HR HB ⊢
    clear hwq
    have i5 : IntKind.i64.wrap ((i : Int) + (d : Int)) = (i : Int) + (d : Int) := IntWalk.i64_in _ (by omega)
    have i2 : (0 : Int) ≤ (i : Int) := by omega
    have f2 : (0 : Int) ≤ (f : Int) := by omega
    have f3 : (f : Int) ≤ (n : Int) := by omega
    by_cases hlt : i + d ≤ n
    · have i1 : (i : Int) + (d : Int) ≤ (n : Int) := by omega
      have i3 : (i : Int) ≤ (n : Int) := by omega
      have i4 : IntKind.i64.wrap ((i : Int) + 1) = (i : Int) + 1 := IntWalk.i64_in _ (by omega)
      have i6 : (i : Int) ≤ (i : Int) + (d : Int) := by omega
      have i7 : (0 : Int) ≤ (i : Int) + (d : Int) := by omega
      have i8 : ((i : Int) + (d : Int)).toNat = i + d := by omega
      have he := occ_ext HS.out HD.out i
      rw [HDL.out] at he
      obtain ⟨o, ho⟩ : ∃ q, q = Lib.occAt S D i := ⟨_, rfl⟩
      rw [← ho] at he
      have HO := Lib.hid ho
      clear ho
      cases o with
      | false =>
        have HC2 := Lib.hid (HC.out.skip (.inl HO.out.symm))
        go_wp2_with fail
        go_roundw
        case rel => exact ⟨a, m, c, f, i + 1, O, rfl, rfl, by go_num, HM.out, by omega, hfn, by omega, HC2, HR, HB⟩
        case measure => simp [Lib.intOf]; omega
      | true =>
        by_cases hfi : f ≤ i
        · have g1 : decide ((i : Int) ≥ (f : Int)) = true := decide_eq_true (by omega)
          have g2 : (f : Int) ≤ (i : Int) := by omega
          have HC2 := Lib.hid (HC.out.cut HL.out HO.out.symm hfi)
          rw [HDL.out] at HC2
          have HT : Hid (txt O ++ [.string (s.extract f i)] = txt (O ++ [(S.drop f).take (i - f)])) := Lib.hid (by rw [txt_snoc, ext_ofB, HS.out])
          go_wp2_with (at_builtin; refine wpList_append_own _ rfl _ _ 23 rfl w.heap.size 9 i0 (.string ⟨#[]⟩) 1 16 Tryz.underlying23 hi hz0 hz1 hz2 rfl (by decide) _ _ _ rfl (HR.out.alloc _) ⟨wq.heap.size, 0, none⟩ 1 1 [.string (s.extract f i)] rfl rfl (cell_new1 _ _ _) (by simp [Value.oneCell']) (by unfold maxLen; omega) (by omega) (by have := HB.out.size; simp; omega) ?_; intro v' w2 hown' hgrow _; have HO2 := Lib.hid hown'; have HG2 := Lib.hid hgrow; clear hown' hgrow; obtain ⟨a', c', rfl⟩ := own_formT HO2.out)
          have HB2 : Hid (Below w.heap.size w w2) := Lib.hid ((HB.out.alloc HB.out.size _).grown HG2.out (by have := HB.out.size; simp; omega) (fun j ej => own_lowT HR.out j ej))
          go_roundw
          case rel => exact ⟨a', m + 1, c', i + d, i + 1, _, rfl, by go_num, by go_num, by rw [List.length_append, ← HM.out]; rfl, by omega, by omega, by omega, HC2, Lib.hid (by rw [← HT.out]; exact HO2.out), HB2⟩
          case measure => simp [Lib.intOf]; omega
        · have g1 : decide ((i : Int) ≥ (f : Int)) = false := decide_eq_false (by omega)
          have g2 : ¬ (f : Int) ≤ (i : Int) := by omega
          have HC2 := Lib.hid (HC.out.skip (.inr (by omega)))
          go_wp2_with fail
          go_roundw
          case rel => exact ⟨a, m, c, f, i + 1, O, rfl, rfl, by go_num, HM.out, by omega, hfn, by omega, HC2, HR, HB⟩
          case measure => simp [Lib.intOf]; omega
    · have i1 : ¬ (i : Int) + (d : Int) ≤ (n : Int) := by omega
      have HE : Hid (spl S = O ++ [S.drop f]) := Lib.hid (HC.out.done HL.out (by rw [HSL.out, HDL.out]; omega))
      have HT : Hid (txt O ++ [.string (s.extract f n)] = txt (spl S)) := Lib.hid (by rw [HE.out, txt_snoc, ext_ofB, HS.out, List.take_of_length_le (by rw [List.length_drop, HSL.out]; omega)])
      have HLN : Hid (m + 1 = (spl S).length) := Lib.hid (by rw [HE.out, List.length_append, ← HM.out]; rfl)
      go_wp2_with (at_builtin; refine wpList_append_own _ rfl _ _ 23 rfl w.heap.size 9 i0 (.string ⟨#[]⟩) 1 16 Tryz.underlying23 hi hz0 hz1 hz2 rfl (by decide) _ _ _ rfl (HR.out.alloc _) ⟨wq.heap.size, 0, none⟩ 1 1 [.string (s.extract f n)] rfl rfl (cell_new1 _ _ _) (by simp [Value.oneCell']) (by unfold maxLen; omega) (by omega) (by have := HB.out.size; simp; omega) ?_; intro v' w2 hown' hgrow _; have HO2 := Lib.hid hown'; have HG2 := Lib.hid hgrow; clear hown' hgrow; obtain ⟨a', c', rfl⟩ := own_formT HO2.out)
      have HB2 : Hid (Below w.heap.size w w2) := Lib.hid ((HB.out.alloc HB.out.size _).grown HG2.out (by have := HB.out.size; simp; omega) (fun j ej => own_lowT HR.out j ej))
      go_ret
      exact ⟨a', m + 1, c', rfl, HLN.out, by rw [← HT.out]; exact HO2.out, HB2.out⟩
end Go.Proofs.YtlfehjjnepiljaaGreatDoor
