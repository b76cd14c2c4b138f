/- Proved here: few and cut of puncheonlaw02: at most a hundred parts, each text cut to 300 bytes, in memory of their own (of more than 20000 parts the first 20001); a text cut to 5000 bytes. -/
import Derived.Test.YtmamolhclohniaaDoorRow
namespace Go.Proofs.YtmamolhclohniaaDoor
open Go.RowKit Go.Shelf

def cutT (p : Part) : Part := ⟨p.isText, p.num, p.text.take 300⟩
def fewL (l : List Part) : List Part := if 20000 < l.length then l.take 20001 else (l.take 100).map cutT

theorem RdP.take {w : World} {a : Option Addr} {cap : Nat} {l : List Part} {n : Nat} (h : RdP w (.slice a n cap) l) (hn : n = l.length) (m : Nat) (hm : m ≤ n) : RdP w (.slice a m cap) (l.take m) := by
  subst hn
  obtain ⟨a', cap', e, h2, h3, h4⟩ := h
  cases e
  have hl : (l.take m).length = m := by simp; omega
  refine ⟨a, cap, by rw [hl], by omega, h3, fun h0 => ?_⟩
  obtain ⟨g, o, e, hg, hc⟩ := h4 (by omega)
  refine ⟨g, o, e, hg, fun j p hp => hc j p ?_⟩
  rw [List.getElem?_take] at hp
  split at hp
  · exact hp
  · cases hp

theorem owns_set3 {w : World} {B g n cap : Nat} {xs : List Value} (h : w.ownsRow B 29 3 (.slice (some ⟨g, 0, none⟩) n cap) n xs) (j : Nat) (u : Value) :
    (w.setCell ⟨g, j, none⟩ u).ownsRow B 29 3 (.slice (some ⟨g, 0, none⟩) n cap) n (xs.set j u) := by
  obtain ⟨h1, h2⟩ := h
  rcases h2 with ⟨h0, _⟩ | ⟨g', cap', cur, hv, hg, hh, hn, hcap, hsz, htake⟩
  · cases h0
  · cases hv
    refine ⟨by rw [List.length_set]; exact h1, .inr ⟨g, cap, cur.setIfInBounds j u, rfl, hg, ?_, hn, hcap, by rw [Array.size_setIfInBounds]; exact hsz, ?_⟩⟩
    · simp [World.setCell, Array.getElem?_modify, hh]
    · rw [Array.toList_setIfInBounds, List.take_set, htake]
theorem own_cell3 {w : World} {B g n cap : Nat} {xs : List Value} (h : w.ownsRow B 29 3 (.slice (some ⟨g, 0, none⟩) n cap) n xs) (j : Nat) (u : Value) (hu : xs[j]? = some u) : w.cell? ⟨g, j, none⟩ = some u := by
  have := h.cells (g := g) rfl j u hu
  rw [add_at, Nat.zero_add] at this
  exact this
theorem own_frozen3 {w : World} {B g n cap : Nat} {xs : List Value} (h : w.ownsRow B 29 3 (.slice (some ⟨g, 0, none⟩) n cap) n xs) (j : Nat) : w.frozen? ⟨g, j, none⟩ = false := by
  obtain ⟨h1, h2⟩ := h
  rcases h2 with ⟨h0, _⟩ | ⟨g', cap', cur, hv, hg, hh, _⟩
  · cases h0
  · cases hv
    simp [World.frozen?, hh]

def mixP (l : List Part) (k : Nat) : List Part := (l.take k).map cutT ++ l.drop k
theorem mixP_get (l : List Part) (k : Nat) (p : Part) (h : l[k]? = some p) : (flatP (mixP l k))[k * 3 + 2]? = some (.string ⟨p.text.toArray⟩) := by
  have hk : k < l.length := (List.getElem?_eq_some_iff.1 h).1
  have e : (mixP l k)[k]? = some p := by
    unfold mixP
    rw [List.getElem?_append_right (by simp; omega)]
    simp only [List.length_map, List.length_take]
    rw [show k - min k l.length = 0 by omega, List.getElem?_drop, Nat.add_zero, h]
  rw [flat3 _ k 2 (by omega), e]
  rfl
theorem set_right {a b : List Value} (j : Nat) (u : Value) (h : a.length = j) (r : Nat) : (a ++ b).set (j + r) u = a ++ b.set r u := by
  rw [List.set_append_right _ _ (by omega), h, Nat.add_sub_cancel_left]
theorem mixP_set (l : List Part) (k : Nat) (p : Part) (h : l[k]? = some p) : (flatP (mixP l k)).set (k * 3 + 2) (.string ⟨(p.text.take 300).toArray⟩) = flatP (mixP l (k + 1)) := by
  have hk : k < l.length := (List.getElem?_eq_some_iff.1 h).1
  have e : l.drop k = p :: l.drop (k + 1) := by
    rw [List.drop_eq_getElem_cons hk]
    have := (List.getElem?_eq_some_iff.1 h).2
    rw [this]
  have e2 : (l.take (k + 1)).map cutT = (l.take k).map cutT ++ [cutT p] := by rw [List.take_add_one, h]; simp
  unfold mixP
  rw [e2, flatP_append, flatP_append, flatP_append, e, flatP_cons, set_right _ _ (by rw [flatP_len]; simp; omega), List.append_assoc]
  rfl
theorem mixP_end (l : List Part) (k : Nat) (h : l.length ≤ k) : mixP l k = l.map cutT := by
  unfold mixP
  rw [List.take_of_length_le h, List.drop_eq_nil_of_le h, List.append_nil]
theorem mixP_len (l : List Part) (k : Nat) : (mixP l k).length = l.length := by unfold mixP; simp; omega

theorem own_len3 {w : World} {base n : Nat} {v : Value} {xs : List Value} (h : w.ownsRow base 29 3 v n xs) : ∃ a cap, v = .slice a n cap := by
  rcases h.2 with ⟨rfl, rfl⟩ | ⟨g, cap, cur, rfl, _⟩
  · exact ⟨none, 0, rfl⟩
  · exact ⟨_, cap, rfl⟩

theorem own_form3 {w : World} {base n : Nat} {v : Value} {xs : List Value} (h : w.ownsRow base 29 3 v n xs) (h0 : 0 < n) : ∃ g cap, v = .slice (some ⟨g, 0, none⟩) n cap ∧ base ≤ g ∧ g < w.heap.size ∧ n ≤ cap ∧ cap ≤ maxLen := by
  rcases id h with ⟨_, ⟨rfl, rfl⟩ | ⟨g, cap, cur, rfl, h1, h2, h3, h4, _⟩⟩
  · omega
  · exact ⟨g, cap, rfl, h1, (h.lt g rfl).2, h3, h4⟩

def FewR (l : List Part) (w : World) (e : Ending) (w' : World) : Prop := ∃ v', e = .returned v' ∧ w'.ownsRow w.heap.size 29 3 v' (fewL l).length (flatP (fewL l)) ∧ Below w.heap.size w w'

set_option maxRecDepth 100000 in
set_option maxHeartbeats 2000000 in
theorem few_long (l : List Part) (v : Value) (w : World) (hv : RdP w v l) (hl : 20000 < l.length) : Calls Tryd.prog 9 #[v] w (FewR l w) := by
  obtain ⟨a, cap, rfl, hlc, hcm, _⟩ := id hv
  have h1 := clone_any (l.take 20001) _ w (hv.take rfl 20001 (by omega)) (by simp; omega)
  have e1 : fewL l = l.take 20001 := by unfold fewL; rw [if_pos hl]
  have HE := Lib.hid e1
  have HC := Lib.hid h1
  unfold maxLen at hcm
  obtain ⟨n, hn⟩ : ∃ n, n = l.length := ⟨_, rfl⟩
  rw [← hn] at hl hlc ⊢
  clear hv e1 h1 hn
  go_enter Tryd.func9, Tryd.ntmps9
  go_wp2_with (go_at_call 12; refine HC.out.mono ?_; rintro e w1 ⟨v', rfl, hown, hb⟩)
  go_ret
  exact ⟨v', rfl, by rw [HE.out]; exact hown, hb⟩

set_option maxRecDepth 100000 in
set_option maxHeartbeats 2000000 in
theorem few_short (l : List Part) (v : Value) (w : World) (hv : RdP w v l) (hl : l.length ≤ 20000) : Calls Tryd.prog 9 #[v] w (FewR l w) := by
  obtain ⟨a, cap, rfl, hlc, hcm, _⟩ := id hv
  obtain ⟨n, hn⟩ : ∃ n, n = min l.length 100 := ⟨_, rfl⟩
  have hL : (l.take n).length = n := by simp; omega
  have h1 := clone_any (l.take n) _ w (hv.take rfl n (by omega)) (by omega)
  rw [hL] at h1
  have e1 : fewL l = (l.take n).map cutT := by
    unfold fewL
    rw [if_neg (by omega)]
    congr 1
    rw [hn, List.take_eq_take_iff]
    omega
  have HE := Lib.hid e1
  have HC := Lib.hid h1
  have HL := Lib.hid hL
  have c4 : min (l.length : Int) 100 = (n : Int) := by omega
  have c2 : (n : Int) ≤ (cap : Int) := by omega
  have c3 : (n : Int) ≤ 100 := by omega
  have c1 : (0 : Int) ≤ (n : Int) := by omega
  unfold maxLen at hcm
  obtain ⟨m, hm⟩ : ∃ m, m = l.length := ⟨_, rfl⟩
  rw [← hm] at hl hlc c4 ⊢
  clear hv e1 h1 hL hn hm
  go_enter Tryd.func9, Tryd.ntmps9
  go_wp2_with (go_at_call 12; refine HC.out.mono ?_; rintro e w1 ⟨v', rfl, hown, hb⟩; have HO := Lib.hid hown; obtain ⟨a1, cap1, rfl⟩ := own_len3 hown; clear hown)
  have H0 : Hid (w1.ownsRow w.heap.size 29 3 (.slice a1 n cap1) n (flatP (mixP (l.take n) 0))) := HO
  go_loopw [4, 19, 20, 21, 22, 23, 24, 25, 26, 27, 28, 29, 30, 31, 32, 33, 34, 35, 36, 37, 38, 39] (fun _ i _ _ _ _ _ _ _ _ _ _ _ _ _ _ _ _ _ _ _ _ wr => ∃ k : Nat, k ≤ n ∧ i = .int .i64 k ∧ Hid (wr.ownsRow w.heap.size 29 3 (.slice a1 n cap1) n (flatP (mixP (l.take n) k))) ∧ Below w.heap.size w wr) (fun _ i _ _ _ _ _ _ _ _ _ _ _ _ _ _ _ _ _ _ _ _ _ => n - (Lib.intOf i).toNat)
  case atStart => exact ⟨0, Nat.zero_le _, rfl, H0, hb⟩
  case round =>
    obtain ⟨k, hk, rfl, HR, hB⟩ := hrel
    by_cases hlt : k < n
    · obtain ⟨p, hp⟩ : ∃ p, (l.take n)[k]? = some p := ⟨_, List.getElem?_eq_getElem (by rw [HL.out]; exact hlt)⟩
      obtain ⟨g, cap', hv', hgB, hglt, hcn, hcm2⟩ := own_form3 HR.out (by omega)
      cases hv'
      unfold maxLen at hcm2
      have hcell := own_cell3 HR.out (k * 3 + 2) _ (mixP_get _ k p hp)
      have hfr := own_frozen3 HR.out (k * 3 + 2)
      have hgs : w.heap.size ≤ g := hgB
      obtain ⟨q, hq⟩ : ∃ q, q = min p.text.length 300 := ⟨_, rfl⟩
      have m1 : (0 : Int) ≤ (q : Int) := by omega
      have m2 : (q : Int) ≤ (p.text.length : Int) := by omega
      have m3 : min (p.text.length : Int) 300 = (q : Int) := by omega
      have HQ := Lib.hid hq
      have HP := Lib.hid hp
      clear hq hp
      go_wp2
      go_region
      go_wp2
      go_roundw
      case rel =>
        refine ⟨k + 1, hlt, by go_num, Lib.hid ?_, (hB.setCell (p := ⟨g, k * 3 + 2, none⟩) hgs _).drew⟩
        have h3 := owns_set3 HR.out (k * 3 + 2) (.string ⟨(p.text.take 300).toArray⟩)
        rw [mixP_set _ k p HP.out] at h3
        have e : (⟨p.text.toArray⟩ : ByteArray).extract 0 q = ⟨(p.text.take 300).toArray⟩ := by
          rw [ba_take]
          show (⟨(p.text.take q).toArray⟩ : ByteArray) = _
          have : p.text.take q = p.text.take 300 := by rw [List.take_eq_take_iff, HQ.out]; omega
          rw [this]
        rw [e]
        exact h3
      case measure => simp [Lib.intOf]; omega
    · go_wp2
      go_ret
      have hkn : k = n := by omega
      have h3 := HR.out
      rw [mixP_end _ k (by rw [HL.out]; omega)] at h3
      have e2 : ((l.take n).map cutT).length = n := by rw [List.length_map]; exact HL.out
      exact ⟨_, rfl, by rw [HE.out, e2]; exact h3, hB⟩

theorem few_any (l : List Part) (v : Value) (w : World) (hv : RdP w v l) : Calls Tryd.prog 9 #[v] w (FewR l w) := by
  by_cases hl : 20000 < l.length
  · exact few_long l v w hv hl
  · exact few_short l v w hv (by omega)

theorem cut_any (s : ByteArray) (hs : s.size ≤ 140737488355328) (w : World) : Calls Tryd.prog 18 #[.string s] w fun e w' => e = .returned (.string ⟨(s.data.toList.take 5000).toArray⟩) ∧ w = w' := by
  obtain ⟨q, hq⟩ : ∃ q, q = min s.size 5000 := ⟨_, rfl⟩
  have m1 : (0 : Int) ≤ (q : Int) := by omega
  have m2 : (q : Int) ≤ (s.size : Int) := by omega
  have m3 : min (s.size : Int) 5000 = (q : Int) := by omega
  have HQ := Lib.hid hq
  clear hq
  go_enter Tryd.func18, Tryd.ntmps18
  go_wp2
  go_ret
  refine ⟨?_, rfl⟩
  rw [ba_take]
  have : s.data.toList.take q = s.data.toList.take 5000 := by
    rw [List.take_eq_take_iff, HQ.out]
    have : s.data.toList.length = s.size := rfl
    omega
  rw [this]
  rfl
end Go.Proofs.YtmamolhclohniaaDoor
