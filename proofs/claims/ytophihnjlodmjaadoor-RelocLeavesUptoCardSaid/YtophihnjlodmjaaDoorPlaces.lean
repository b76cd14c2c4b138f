/- Proved here: places and Places of package reloc. -/
import Derived.Test.YtophihnjlodmjaaDoorColl
import Derived.Laws.IdiomStrings
import Derived.Laws.BytesString
namespace Go.Proofs.YtophihnjlodmjaaDoor
open Go.RowKit Go.Shelf

/-- '[]byte(s)': memory of its own. -/
theorem bytes_of (l : Bs) (hl : l.length ≤ 1000000000) (w : World) : ∃ a c w', (convert 9 57 (.string ⟨l.toArray⟩)).run Tryd.prog w = .ok (.slice a l.length c) w' ∧ Rd w' (.slice a l.length c) (bytesV l) ∧ Below w.heap.size w w' ∧ (∀ g, inBlk (.slice a l.length c) g → w.heap.size ≤ g ∧ g < w'.heap.size) := by
  refine ⟨_, _, _, run_bytes_of_string w 9 57 5 ⟨l.toArray⟩ Tryd.underlying9 Tryd.underlying57 Tryd.underlying5, ?_, ((Below.refl _ w).drew).alloc (Nat.le_refl _) _, ?_⟩
  · have g1 := grownCap_ge w (⟨l.toArray⟩ : ByteArray).size 0 5
    have g2 := grownCap_le_maxLen w (⟨l.toArray⟩ : ByteArray).size 0 5 (by show l.length ≤ maxLen; unfold maxLen; omega)
    refine ⟨_, _, by rw [bytesV_len], by rw [bytesV_len]; exact g1, g2, fun e => (by cases e), fun _ => ⟨w.heap.size, 0, rfl, ?_, fun j x hx => ?_⟩⟩
    · show _ < (w.drew.heap.push _).size
      rw [Array.size_push]
      exact Nat.lt_succ_self _
    · have hj := (List.getElem?_eq_some_iff.1 hx).1
      rw [bytesV_len] at hj
      rw [bytesV_at hj] at hx
      cases hx
      refine (cell_of_row _ w.heap.size (0 + j) _ 5 _ (heap_alloc_new w.drew _)).trans ?_
      rw [Nat.zero_add]
      exact bytesRow_at ⟨l.toArray⟩ _ j hj
  · rintro g ⟨o, p, n, c, e⟩
    injection e with e1 e2 e3
    injection e1 with e1
    injection e1 with e1
    subst e1
    refine ⟨Nat.le_refl _, ?_⟩
    show _ < (w.drew.heap.push _).size
    rw [Array.size_push]
    exact Nat.lt_succ_self _

theorem plfn_any (a1 a2 : Option Addr) (n1 n2 c1 c2 : Nat) (w : World) : Calls Tryd.prog 31 #[.slice a1 n1 c1, .slice a2 n2 c2] w fun e w' => e = .returned (.func (.func 47) #[] #[.pointer (some ⟨w.heap.size + 1, 0, none⟩), .pointer (some ⟨w.heap.size, 0, none⟩)]) ∧ (w.alloc (.cells #[.slice a1 n1 c1] 57)).alloc (.cells #[.slice a2 n2 c2] 57) = w' := by
  go_enter Tryd.func31, Tryd.ntmps31
  go_wp2
  go_ret
  exact ⟨rfl, rfl⟩

/-- The places that Places tells. -/
def placesL (p l : Bs) : List Nat := if okB p = true then plcs p l else []
def PlacesR (l p : Bs) (w : World) (e : Ending) (w' : World) : Prop := ∃ v, e = .returned v ∧ w'.ownsRow w.heap.size 3 1 v (placesL p l).length (natsV (placesL p l)) ∧ Below w.heap.size w w'

set_option maxRecDepth 100000 in
set_option maxHeartbeats 1000000 in
theorem places_any (l p : Bs) (hl : l.length ≤ 1000000000) (hp : p.length ≤ 1000000000) (w : World) : Calls Tryd.prog 17 #[.string ⟨l.toArray⟩, .string ⟨p.toArray⟩] w (PlacesR l p w) := by
  have HC := Lib.hid (chk_any p (by omega) w)
  by_cases hok : okB p = true
  · have HE : Hid (chkI p = 0) := Lib.hid (by unfold chkI; rw [if_pos hok])
    have HP : Hid (placesL p l = plcs p l) := Lib.hid (by unfold placesL; rw [if_pos hok])
    rw [HE.out] at HC
    obtain ⟨h1, _, _⟩ := (okB_iff p).1 hok
    obtain ⟨a1, c1, w1, hr1, hd1, hb1, hi1⟩ := bytes_of l hl w
    obtain ⟨a2, c2, w2, hr2, hd2, hb2, hi2⟩ := bytes_of p hp w1
    obtain ⟨w3, hw3⟩ : ∃ z, z = (w2.alloc (.cells #[.slice a1 l.length c1] 57)).alloc (.cells #[.slice a2 p.length c2] 57) := ⟨_, rfl⟩
    have hb3 : Below w2.heap.size w2 w3 := by rw [hw3]; exact bch (below_new _ _) (below_new _ _)
    have hs3 : w3.heap.size = w2.heap.size + 2 := by rw [hw3]; simp
    have hk3 : PK w2.heap.size (.slice a1 l.length c1) (.slice a2 p.length c2) l p w3 := ⟨by rw [hw3]; exact (Boxed.new _ _ _).alloc _, by
      rw [hw3]
      have := Boxed.new (w2.alloc (.cells #[.slice a1 l.length c1] 57)) 57 (.slice a2 p.length c2)
      simpa using this, (hd1.on hb2).on hb3, hd2.on hb3⟩
    have s1 := hb1.size
    have s2 := hb2.size
    have hcol := collect_any w2.heap.size l p h1 hl hp _ _ w3 hk3 (fun k hk => by
      rcases hk with rfl | rfl | hk | hk
      · omega
      · omega
      · have := (hi1 k hk).2; omega
      · have := (hi2 k hk).2; omega)
    have HB := Lib.hid (bch (bch hb1 hb2) hb3)
    have HK := Lib.hid hcol
    have HW3 := Lib.hid hw3
    clear hok hb1 hb2 hb3 hd1 hd2 hi1 hi2 hk3 hcol hw3 s1 s2 hs3
    go_enter Tryd.func17, Tryd.ntmps17
    go_wp2_with (first
      | (go_at_call 13; refine HC.out.mono ?_; rintro e w' ⟨rfl, rfl⟩)
      | (go_at_call 31; refine (plfn_any _ _ _ _ _ _ _).mono ?_; rintro e w' ⟨rfl, rfl⟩; rw [← HW3.out])
      | (go_at_call 30; refine HK.out.mono ?_; rintro e w' ⟨v, rfl, ho, hb⟩; have HO := Lib.hid ho; have HB4 := Lib.hid hb; clear ho hb))
    go_ret
    exact ⟨_, rfl, by rw [HP.out]; exact own_mono HO.out HB.out.size, bch HB.out HB4.out⟩
  · have HE : Hid (chkI p = 240) := Lib.hid (by unfold chkI; rw [if_neg hok])
    have HP : Hid (placesL p l = []) := Lib.hid (by unfold placesL; rw [if_neg hok])
    rw [HE.out] at HC
    clear hok
    go_enter Tryd.func17, Tryd.ntmps17
    go_wp2_with (go_at_call 13; refine HC.out.mono ?_; rintro e w' ⟨rfl, rfl⟩)
    go_ret
    exact ⟨_, rfl, by rw [HP.out]; exact World.ownsRow_nil _ _ _ _, Below.refl _ _⟩
end Go.Proofs.YtophihnjlodmjaaDoor
