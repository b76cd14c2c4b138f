/- Proved here: Cut of puncheonref01 for every text of at most a million bytes: its parts, in a new slice. -/
import Derived.Test.YtiakedoebecgpaaDoorRefA
namespace Go.Proofs.YtiakedoebecgpaaDoor
open Go.RowKit Go.Shelf

theorem cutP_snoc (a : Str) (c : UInt8) (hc : c ≠ 47) : ∃ init last, cutP a = init ++ [last] ∧ cutP (a ++ [c]) = init ++ [last ++ [c]] := by
  induction a with
  | nil => exact ⟨[], [], rfl, by rw [List.nil_append, cutP_cons, if_neg hc]; rfl⟩
  | cons d t ih =>
    obtain ⟨init, last, h1, h2⟩ := ih
    rw [List.cons_append, cutP_cons, cutP_cons, h1, h2]
    by_cases hd : d = 47
    · exact ⟨[] :: init, last, by rw [if_pos hd]; rfl, by rw [if_pos hd]; rfl⟩
    · rw [if_neg hd, if_neg hd]
      cases init with
      | nil => exact ⟨[], d :: last, rfl, rfl⟩
      | cons h i => exact ⟨(d :: h) :: i, last, rfl, rfl⟩
theorem cutP_snoc47 (a : Str) : cutP (a ++ [47]) = cutP a ++ [[]] := cutP_app a []
theorem cutP_len (a : Str) : (cutP a).length ≤ a.length + 1 := by
  rw [cutP_count]
  have := List.count_le_length (a := (47 : UInt8)) (l := a)
  omega

theorem part_len (s : Str) : ∀ x ∈ cutP s, x.length ≤ s.length := by
  induction s with
  | nil => intro x hx; simp [cutP] at hx; simp [hx]
  | cons c s ih =>
    intro x hx
    rw [cutP_cons] at hx
    by_cases hc : c = 47
    · rw [if_pos hc] at hx
      rcases List.mem_cons.1 hx with rfl | hx
      · simp
      · have := ih x hx; simp; omega
    · rw [if_neg hc] at hx
      cases e : cutP s with
      | nil => exact absurd e (cutP_ne s)
      | cons h t =>
        rw [e] at hx ih
        rcases List.mem_cons.1 hx with rfl | hx
        · have := ih h (by simp); simp; omega
        · have := ih x (by simp [hx]); simp; omega

set_option maxRecDepth 100000 in
set_option maxHeartbeats 4000000 in
theorem rcut_any (s : ByteArray) (hs : s.size ≤ 2000000) (w : World) : Calls Tryd.prog 50 #[.string s] w fun e w' => ∃ v, e = .returned v ∧ w'.ownsRow w.heap.size 9 1 v (cutP s.data.toList).length ((cutP s.data.toList).map encS) ∧ Below w.heap.size w w' := by
  have hl : s.data.toList.length = s.size := rfl
  have HLs := Lib.hid hl
  have hs1 : (s.size : Int) ≤ 2000000 := by omega
  obtain ⟨i0, hi, hz0, hz1, hz2⟩ := info_parts info9
  clear hl
  go_enter Tryd.func50, Tryd.ntmps50
  go_wp2
  have HO : Hid ((w.alloc (.cells #[.string ⟨#[]⟩] 9)).ownsRow w.heap.size 9 1 (.slice (some ⟨w.heap.size, 0, none⟩) 1 1) 1 [encS []]) :=
    World.ownsRow_lit (base := w.heap.size) (e := 9) (size := 1) w #[.string ⟨#[]⟩] 1 (Nat.le_refl _) (by unfold maxLen; omega) rfl
  go_loopw [3, 8] (fun v i wr => ∃ k nn : Nat, ∃ a : Option Addr, ∃ cap : Nat, v = .slice a nn cap ∧ k ≤ s.size ∧ i = .int .i64 k ∧ Hid (nn = (cutP (s.data.toList.take k)).length) ∧ Hid (wr.ownsRow w.heap.size 9 1 (.slice a nn cap) nn ((cutP (s.data.toList.take k)).map encS)) ∧ Below w.heap.size w wr) (fun _ i _ => s.size - (intOf i).toNat)
  case atStart => exact ⟨0, 1, _, 1, rfl, Nat.zero_le _, rfl, rfl, HO, (Below.refl _ _).alloc (Nat.le_refl _) _⟩
  case round =>
    obtain ⟨k, nn, a, cap, rfl, hk, rfl, HN, HR, hB⟩ := hrel
    by_cases hlt : k < s.size
    · have htk : s.data.toList.take (k + 1) = s.data.toList.take k ++ [s[k]'hlt] := by
        rw [List.take_add_one, List.getElem?_eq_getElem (by rw [HLs.out]; exact hlt)]; rfl
      have hnn : nn ≤ 2000001 := by
        have h1 := cutP_len (s.data.toList.take k)
        rw [← HN.out, List.length_take] at h1
        omega
      have hpos : 0 < nn := by
        have := List.length_pos_iff.2 (cutP_ne (s.data.toList.take k))
        rw [← HN.out] at this; exact this
      obtain ⟨g, cap', ha, hgB, hglt⟩ := HR.out.form hpos
      obtain ⟨rfl, rfl⟩ : a = some ⟨g, 0, none⟩ ∧ cap = cap' := by injection ha with h1 h2 h3; exact ⟨h1, h3⟩
      clear ha
      by_cases hc : s[k]'hlt = 47
      · have e1 : (((s[k]'hlt).toNat : Int) == 47) = true := by rw [hc]; rfl
        have HT := Lib.hid (show cutP (s.data.toList.take (k + 1)) = cutP (s.data.toList.take k) ++ [[]] by rw [htk, hc, cutP_snoc47])
        clear htk hc
        go_wp2_with (at_builtin; refine wpList_append_own _ rfl _ _ 46 rfl w.heap.size 9 i0 (.string ⟨#[]⟩) 1 16 Tryd.underlying46 hi hz0 hz1 hz2 rfl (by decide) _ _ _ rfl (HR.out.alloc _) ⟨wr.heap.size, 0, none⟩ 1 1 [.string ⟨#[]⟩] rfl rfl ?c1 ?c2 ?c3 ?c4 ?c5 ?_)
        case c1 => exact cell_one_new _ _ _
        case c2 => simp [Value.oneCell']
        case c3 => unfold maxLen; omega
        case c4 => omega
        case c5 => have := hB.size; simp; omega
        intro v' w2 hown' hgrow _
        obtain ⟨g', cap2, rfl⟩ := ownsRow_succ hown'
        have HO2 := Lib.hid hown'
        have HB2 := Lib.hid ((hB.alloc hB.size (.cells #[.string ⟨#[]⟩] 9)).grown hgrow (by have := hB.size; simp; omega) (fun j ej => by simp [Value.ownBlock] at ej; omega))
        clear hown' hgrow
        go_wp2
        go_roundw
        case rel =>
          refine ⟨k + 1, nn + 1, _, _, rfl, hlt, by go_num, ?_, ?_, HB2.out⟩
          · show nn + 1 = _
            rw [HT.out, List.length_append, ← HN.out]; rfl
          · show w2.ownsRow _ _ _ _ _ _
            rw [HT.out, List.map_append]
            exact HO2.out
        case measure => simp [intOf]; omega
      · have e1 : (((s[k]'hlt).toNat : Int) == 47) = false := by
          rw [beq_eq_false_iff_ne]
          intro h
          apply hc
          apply UInt8.toNat_inj.1
          show (s[k]'hlt).toNat = 47
          omega
        obtain ⟨init, last, h1, h2⟩ := cutP_snoc (s.data.toList.take k) (s[k]'hlt) hc
        rw [← htk] at h2
        obtain ⟨m, hm⟩ : ∃ m, init.length = m := ⟨_, rfl⟩
        have hnm : nn = m + 1 := by rw [HN.out, h1, List.length_append, hm]; rfl
        have HH1 := Lib.hid h1
        have HH2 := Lib.hid h2
        have HM := Lib.hid hm
        have hcl : wr.cell? ⟨g, m, none⟩ = some (.string ⟨last.toArray⟩) := own_cell HR.out m (encS last) (by
          rw [HH1.out, List.map_append, List.getElem?_append_right (by rw [List.length_map]; omega), List.length_map, hm, Nat.sub_self]; rfl)
        have hfr := HR.out.frozenAt m
        have q1 : IntKind.i64.wrap ((nn : Int) - 1) = (m : Int) := by rw [IntWalk.i64_in _ (by omega)]; omega
        have q2 : (0 : Int) ≤ (m : Int) := by omega
        have q3 : (m : Int) < (nn : Int) := by omega
        have q4 : IntKind.i64.wrap ((k : Int) + 1) = (k : Int) + 1 := IntWalk.i64_in _ (by omega)
        have q5 : (0 : Int) ≤ (k : Int) := by omega
        have q6 : (k : Int) ≤ (k : Int) + 1 := by omega
        have q7 : (k : Int) + 1 ≤ (s.size : Int) := by omega
        have q8 : ((k : Int) + 1).toNat = k + 1 := by omega
        have HNM := Lib.hid hnm
        have q9 : last.length + (min (k + 1) s.size - k) ≤ 9223372036854775807 := by
          have h3 := part_len (s.data.toList.take k) last (by rw [HH1.out]; simp)
          rw [List.length_take] at h3
          omega
        clear htk hc h1 h2 hm hnm
        go_wp2
        go_region
        go_wp2
        have eb : (⟨last.toArray⟩ : ByteArray) ++ s.extract k (k + 1) = ⟨(last ++ [s[k]'hlt]).toArray⟩ := by
          refine ba_eq _ _ ?_
          rw [ByteArray.data_append, Array.toList_append, Lib.extract_data]
          congr 1
          have e2 : s.data.toList.drop k = s.data.toList[k]'(by rw [HLs.out]; exact hlt) :: s.data.toList.drop (k + 1) := (List.getElem_cons_drop (by rw [HLs.out]; exact hlt)).symm
          rw [e2, show k + 1 - k = 1 by omega]
          rfl
        refine ⟨⟨k + 1, nn, some ⟨g, 0, none⟩, cap, rfl, hlt, by go_num, ?_, ?_, (hB.setCell (p := ⟨g, m, none⟩) hgB _).drew⟩, by simp [intOf]; omega⟩
        · show nn = _
          rw [HH2.out, List.length_append, HM.out]
          exact HNM.out
        · have h5 := owns_set HR.out m (.string (⟨last.toArray⟩ ++ s.extract k (k + 1)))
          rw [eb, HH1.out, List.map_append] at h5
          rw [eb]
          show World.ownsRow _ _ _ _ _ _ _
          rw [HH2.out, List.map_append]
          have e3 : ((init.map encS) ++ ([last].map encS)).set m (.string ⟨(last ++ [s[k]'hlt]).toArray⟩) = init.map encS ++ [last ++ [s[k]'hlt]].map encS := by
            have hml : m = (init.map encS).length := by rw [List.length_map]; exact HM.out.symm
            rw [List.set_append_right _ _ (by omega), hml, Nat.sub_self]
            rfl
          rw [e3] at h5
          exact h5
    · go_wp2
      go_ret
      have hkk : s.data.toList.take k = s.data.toList := List.take_of_length_le (by rw [HLs.out]; omega)
      have h3 := HR.out
      have h4 := HN.out
      rw [hkk] at h3 h4
      exact ⟨_, rfl, by rw [← h4]; exact h3, hB⟩
end Go.Proofs.YtiakedoebecgpaaDoor
