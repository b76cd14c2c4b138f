/- Proved here: few of puncheonlaw01: at most eight of the texts, each cut to 2001 bytes, in a new slice. -/
import Derived.Test.YtiakedoebecgpaaDoorOf
namespace Go.Proofs.YtiakedoebecgpaaDoor
open Go.RowKit Go.Shelf

def txt (ss : List ByteArray) : List Str := ss.map (·.data.toList)
def fewL (l : List Str) : List Str := (l.take 8).map (·.take 2001)

theorem fewL_len (l : List Str) : (fewL l).length ≤ 8 := by
  simp [fewL]; omega
theorem fewL_sizes (l : List Str) : ∀ x ∈ fewL l, x.length ≤ 2001 := by
  intro x hx
  unfold fewL at hx
  obtain ⟨y, _, rfl⟩ := List.mem_map.1 hx
  simp; omega

/-- What is owned may stand on any lower base; and behind a store into it. -/
theorem owns_set {w : World} {B g n cap : Nat} {xs : List Value} (h : w.ownsRow B 9 1 (.slice (some ⟨g, 0, none⟩) n cap) n xs) (j : Nat) (u : Value) :
    (w.setCell ⟨g, j, none⟩ u).ownsRow B 9 1 (.slice (some ⟨g, 0, none⟩) n cap) n (xs.set j u) := by
  obtain ⟨h1, h2⟩ := h
  rcases h2 with ⟨h0, _⟩ | ⟨g', cap', cur, hv, hg, hh, hn, hcap, hsz, htake⟩
  · cases h0
  · cases hv
    refine ⟨by rw [List.length_set]; exact h1, .inr ⟨g, cap, cur.setIfInBounds j u, rfl, hg, ?_, hn, hcap, by rw [Array.size_setIfInBounds]; exact hsz, ?_⟩⟩
    · simp [World.setCell, Array.getElem?_modify, hh]
    · rw [Array.toList_setIfInBounds, List.take_set, htake]

/-- The first k cut short, the others as they are. -/
def cutB (s : ByteArray) : ByteArray := s.extract 0 (min s.size 2001)
def mixB (l : List ByteArray) (k : Nat) : List Value := ((l.take k).map fun s => .string (cutB s)) ++ (l.drop k).map Value.string
theorem mixB_get (l : List ByteArray) (k : Nat) (s : ByteArray) (h : l[k]? = some s) : (mixB l k)[k]? = some (.string s) := by
  have hk : k < l.length := (List.getElem?_eq_some_iff.1 h).1
  have hl : ((l.take k).map fun s => Value.string (cutB s)).length = k := by simp; omega
  unfold mixB
  rw [List.getElem?_append_right (by omega), hl, Nat.sub_self, List.getElem?_map, List.getElem?_drop, Nat.add_zero, h]
  rfl
theorem mixB_set (l : List ByteArray) (k : Nat) (s : ByteArray) (h : l[k]? = some s) : (mixB l k).set k (.string (cutB s)) = mixB l (k + 1) := by
  have hk : k < l.length := (List.getElem?_eq_some_iff.1 h).1
  have hl : ((l.take k).map fun s => Value.string (cutB s)).length = k := by simp; omega
  unfold mixB
  rw [List.set_append_right _ _ (by omega), hl, Nat.sub_self, List.take_add_one, h, List.map_append, List.append_assoc]
  congr 1
  have e : l.drop k = s :: l.drop (k + 1) := by
    rw [← List.getElem_cons_drop hk]
    congr 1
    have := List.getElem?_eq_getElem hk
    rw [h] at this
    cases this
    rfl
  rw [e]
  rfl
theorem cutB_data (s : ByteArray) : (cutB s).data.toList = s.data.toList.take 2001 := by
  unfold cutB
  rw [Lib.extract_data, List.drop_zero]
  have : s.data.toList.length = s.size := rfl
  rw [Nat.sub_zero, ← this, List.take_eq_take_iff]
  omega
theorem mixB_end (l : List ByteArray) (k : Nat) (h : l.length ≤ k) : mixB l k = ((txt l).map (·.take 2001)).map encS := by
  unfold mixB txt
  rw [List.take_of_length_le h, List.drop_eq_nil_of_le h, List.map_nil, List.append_nil, List.map_map, List.map_map]
  refine List.map_congr_left fun s _ => ?_
  show Value.string (cutB s) = .string ⟨(s.data.toList.take 2001).toArray⟩
  rw [ba_eq (cutB s) _ (cutB_data s)]

theorem map_clone (ss : List ByteArray) : ss.map Value.string = (txt ss).map encS := by
  unfold txt
  rw [List.map_map]
  rfl

set_option maxRecDepth 100000 in
set_option maxHeartbeats 1000000 in
theorem few_loop (b off len cap : Nat) (ss : List ByteArray) (w : World) (h0 : 0 < len) (hl : len ≤ ss.length) (hlc : len ≤ cap) (hss : ∀ s ∈ ss, s.size ≤ maxLen)
    (hcell : ∀ j, j < ss.length → w.cell? ⟨b, off + j, none⟩ = some (.string (ss.getD j ByteArray.empty))) :
    Calls Tryd.prog 22 #[.slice (some ⟨b, off, none⟩) len cap] w fun e w' => ∃ v, e = .returned v ∧ w'.ownsRow w.heap.size 9 1 v (fewL (txt (ss.take len))).length ((fewL (txt (ss.take len))).map encS) ∧ Below w.heap.size w w' := by
  obtain ⟨n, hn⟩ : ∃ n, n = min len 8 := ⟨_, rfl⟩
  have hn8 : n ≤ 8 := by omega
  have hn1 : 0 < n := by omega
  have hnl : n ≤ len := by omega
  have c1 : (0 : Int) ≤ (n : Int) := by omega
  have c2 : (n : Int) ≤ (cap : Int) := by omega
  have c3 : (n : Int) ≤ 8 := by omega
  have HC := Lib.hid (Tryd.slices_Clone_string b off n cap ss w (by omega) (by omega) hcell)
  have HN := Lib.hid hn
  have c4 : min (len : Int) 8 = (n : Int) := by omega
  clear hcell hn
  go_enter Tryd.func22, Tryd.ntmps22
  go_wp2_with (go_at_call 45; refine HC.out.mono ?_; rintro e w1 ⟨v, rfl, hown, hne, hb⟩; clear hne; obtain ⟨g, cap', rfl, hgB, hglt⟩ := hown.form hn1)
  have hL : (ss.take n).length = n := by rw [List.length_take]; omega
  have HL := Lib.hid hL
  have HO : Hid (w1.ownsRow w.heap.size 9 1 (.slice (some ⟨g, 0, none⟩) n cap') n (mixB (ss.take n) 0)) := hown
  have HSS := Lib.hid hss
  clear hown hL hss
  go_loopw [14] (fun i wr => ∃ k : Nat, k ≤ n ∧ i = .int .i64 k ∧ Hid (wr.ownsRow w.heap.size 9 1 (.slice (some ⟨g, 0, none⟩) n cap') n (mixB (ss.take n) k)) ∧ Below w.heap.size w wr) (fun i _ => n - (intOf i).toNat)
  case atStart => exact ⟨0, Nat.zero_le _, rfl, HO, hb⟩
  case round =>
    obtain ⟨k, hk, rfl, HR, hB⟩ := hrel
    by_cases hlt : k < n
    · obtain ⟨s, hs⟩ : ∃ s, (ss.take n)[k]? = some s := ⟨_, List.getElem?_eq_getElem (by rw [HL.out]; exact hlt)⟩
      have hcell := own_cell HR.out k (.string s) (mixB_get _ k s hs)
      have hfr := HR.out.frozenAt k
      have hgs : w.heap.size ≤ g := hgB
      obtain ⟨m, hm⟩ : ∃ m, m = min s.size 2001 := ⟨_, rfl⟩
      have m1 : (0 : Int) ≤ (m : Int) := by omega
      have m2 : (m : Int) ≤ (s.size : Int) := by omega
      have m3 : min (s.size : Int) 2001 = (m : Int) := by omega
      have HM := Lib.hid hm
      have HS := Lib.hid hs
      clear hm hs
      go_wp2
      go_roundw
      case rel =>
        refine ⟨k + 1, hlt, by go_num, ?_, hB.setCell (p := ⟨g, k, none⟩) hgs _⟩
        have h3 := owns_set HR.out k (.string (cutB s))
        rw [mixB_set _ k s HS.out] at h3
        have e : s.extract 0 m = cutB s := by rw [HM.out]; rfl
        rw [e]
        exact h3
      case measure => simp [intOf]; omega
    · go_wp2
      go_ret
      have hkn : k = n := by omega
      have h3 := HR.out
      rw [mixB_end _ k (by rw [HL.out]; omega)] at h3
      have e : (txt (ss.take n)).map (·.take 2001) = fewL (txt (ss.take len)) := by
        unfold fewL txt
        rw [← List.map_take, List.take_take, HN.out, Nat.min_comm 8 len]
      rw [e] at h3
      have e2 : (fewL (txt (ss.take len))).length = n := by
        rw [← e]; simp only [List.length_map, txt]; exact HL.out
      exact ⟨_, rfl, by rw [e2]; exact h3, hB⟩

theorem few_none (a : Option Addr) (cap : Nat) (hcm : cap ≤ maxLen) (w : World) : Calls Tryd.prog 22 #[.slice a 0 cap] w fun e w' => ∃ v, e = .returned v ∧ w'.ownsRow w.heap.size 9 1 v 0 [] ∧ Below w.heap.size w w' := by
  have HC : Hid (Calls Tryd.prog 45 #[.slice a 0 cap] w fun e w' => ∃ v, e = .returned v ∧ w'.ownsRow w.heap.size 9 1 v 0 [] ∧ Below w.heap.size w w') := by
    cases a with
    | none => exact (Tryd.slices_Clone_string_nil 0 cap w).mono fun _ _ ⟨he, hw⟩ => ⟨_, he, World.ownsRow_nil _ _ _ _, hw ▸ Below.refl _ _⟩
    | some ad => exact (Tryd.slices_Clone_string_zero ad cap w).mono fun _ _ ⟨v, he, hv, _, hb⟩ => ⟨v, he, hv, hb⟩
  unfold maxLen at hcm
  go_enter Tryd.func22, Tryd.ntmps22
  go_wp2_with (go_at_call 45; refine HC.out.mono ?_; rintro e w1 ⟨v, rfl, hown, hb⟩; obtain ⟨a1, cap1, rfl⟩ := own_len hown)
  go_loopw [14] (fun i wr => i = .int .i64 0 ∧ wr = w1) (fun _ _ => 0)
  case atStart => exact ⟨rfl, rfl⟩
  case round =>
    obtain ⟨rfl, rfl⟩ := hrel
    go_wp2
    go_ret
    exact ⟨_, rfl, hown, hb⟩
end Go.Proofs.YtiakedoebecgpaaDoor
