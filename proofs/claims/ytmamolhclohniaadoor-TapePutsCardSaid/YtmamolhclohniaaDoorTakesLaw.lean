/- Proved here: TapeTakes of puncheonlaw02 returns true, whatever row of texts it is called with. -/
import Derived.Test.YtmamolhclohniaaDoorRefT
namespace Go.Proofs.YtmamolhclohniaaDoor
open Go.RowKit Go.Shelf

/-- The slice reads as these texts. -/
def RdT (w : World) (v : Value) (l : List ByteArray) : Prop :=
  ∃ (a : Option Addr) (cap : Nat), v = .slice a l.length cap ∧ l.length ≤ cap ∧ cap ≤ maxLen ∧ (∀ s ∈ l, s.size ≤ maxLen) ∧
    (0 < l.length → ∃ g o, a = some ⟨g, o, none⟩ ∧ g < w.heap.size ∧ ∀ (j : Nat) (s : ByteArray), l[j]? = some s → w.cell? ⟨g, o + j, none⟩ = some (.string s))

theorem cutm_any (s : ByteArray) (hs : s.size ≤ maxLen) (w : World) : Calls Tryd.prog 18 #[.string s] w fun e w' => e = .returned (.string ⟨(s.data.toList.take 5000).toArray⟩) ∧ w = w' := by
  unfold maxLen at hs
  obtain ⟨q, hq⟩ : ∃ q, q = min s.size 5000 := ⟨_, rfl⟩
  have m1 : (0 : Int) ≤ (q : Int) := by omega
  have m2 : (q : Int) ≤ (s.size : Int) := by omega
  have m3 : min (s.size : Int) 5000 = (q : Int) := by omega
  have HQ := Lib.hid hq
  clear hq
  go_enter Tryd.func18, Tryd.ntmps18
  go_wp2
  go_ret
  refine ⟨?_, rfl⟩
  rw [ba_take]
  have : s.data.toList.take q = s.data.toList.take 5000 := by
    rw [List.take_eq_take_iff, HQ.out]
    have : s.data.toList.length = s.size := rfl
    omega
  rw [this]
  rfl

theorem rtake_w_ok (s : ByteArray) (hs : s.size ≤ 140737488355328) (p : Part) (r : Str) (h : takeR s.data.toList = .ok p r) (w : World) : Calls Tryd.prog 20 #[.string s] w fun e' w' => e' = .returned (.tuple #[.agg #[.bool p.isText, .int .u64 p.num, .string ⟨p.text.toArray⟩], .string ⟨r.toArray⟩, .int .i64 0]) ∧ Below w.heap.size w w' :=
  (rtake_any s hs w).mono fun _ _ ⟨he, hb⟩ => ⟨by rw [he, h]; rfl, hb⟩
theorem rtake_w_no (s : ByteArray) (hs : s.size ≤ 140737488355328) (e : Int) (h : takeR s.data.toList = .no e) (w : World) : Calls Tryd.prog 20 #[.string s] w fun e' w' => e' = .returned (.tuple #[.agg #[.bool false, .int .u64 0, .string ⟨#[]⟩], .string ⟨#[]⟩, .int .i64 e]) ∧ Below w.heap.size w w' :=
  (rtake_any s hs w).mono fun _ _ ⟨he, hb⟩ => ⟨by rw [he, h]; rfl, hb⟩

/-- What Take hands back, by what is taken. -/
def tkP : Taken → Part
  | .ok p _ => p
  | .no _ => part0
def tkR : Taken → Str
  | .ok _ r => r
  | .no _ => []
def tkE : Taken → Int
  | .ok _ _ => 0
  | .no e => e
theorem takt_w (t : Str) (ht : t.length ≤ 5000) (p : Part) (r : Str) (e : Int) (hp : p = tkP (takeR t)) (hr : r = tkR (takeR t)) (he : e = tkE (takeR t)) (w : World) : Calls Tryd.prog 19 #[.string ⟨t.toArray⟩] w fun e' w' => e' = .returned (.tuple #[.agg #[.bool p.isText, .int .u64 p.num, .string ⟨p.text.toArray⟩], .string ⟨r.toArray⟩, .int .i64 e]) ∧ Below w.heap.size w w' := by
  subst hp; subst hr; subst he
  have hz : (⟨t.toArray⟩ : ByteArray).size ≤ 140737488355328 := by show t.length ≤ _; omega
  have hd : (⟨t.toArray⟩ : ByteArray).data.toList = t := rfl
  cases h : takeR t with
  | ok p r => exact take_w_ok ⟨t.toArray⟩ hz p r h w
  | no e => exact take_w_no ⟨t.toArray⟩ hz e h w
theorem rtake_w (t : Str) (ht : t.length ≤ 5000) (p : Part) (r : Str) (e : Int) (hp : p = tkP (takeR t)) (hr : r = tkR (takeR t)) (he : e = tkE (takeR t)) (w : World) : Calls Tryd.prog 20 #[.string ⟨t.toArray⟩] w fun e' w' => e' = .returned (.tuple #[.agg #[.bool p.isText, .int .u64 p.num, .string ⟨p.text.toArray⟩], .string ⟨r.toArray⟩, .int .i64 e]) ∧ Below w.heap.size w w' := by
  subst hp; subst hr; subst he
  have hz : (⟨t.toArray⟩ : ByteArray).size ≤ 140737488355328 := by show t.length ≤ _; omega
  have hd : (⟨t.toArray⟩ : ByteArray).data.toList = t := rfl
  cases h : takeR t with
  | ok p r => exact rtake_w_ok ⟨t.toArray⟩ hz p r h w
  | no e => exact rtake_w_no ⟨t.toArray⟩ hz e h w

set_option maxRecDepth 100000 in
set_option maxHeartbeats 2000000 in
theorem takes_law (l : List ByteArray) (v : Value) (w : World) (hv : RdT w v l) (hT : TabW w) : Calls Tryd.prog 4 #[v] w fun e w' => e = .returned (.bool true) ∧ Below w.heap.size w w' := by
  obtain ⟨a, cap, rfl, hlc, hcm, hsz, hcell⟩ := hv
  unfold maxLen at hcm
  obtain ⟨n, hn⟩ : ∃ n, n = l.length := ⟨_, rfl⟩
  rw [← hn] at hlc hcell
  rw [← hn]
  have HN := Lib.hid hn
  have HC := Lib.hid hcell
  have HS := Lib.hid hsz
  clear hn hcell hsz
  go_enter Tryd.func4, Tryd.ntmps4
  go_wp2_with fail
  refine (wakes_any _ hT).mono ?_
  rintro e w1 ⟨rfl, hb1⟩
  go_wp2_with fail
  go_loopw [3, 4, 5, 6, 7, 8, 9, 10, 15, 16, 17, 18, 19, 20, 21, 22, 23, 24, 25, 26, 27, 28, 29, 30, 31, 32, 33, 34, 35, 36, 37, 38, 39, 40, 41, 42, 43, 44, 45, 46, 47, 48, 49] (fun _ _ _ _ _ _ _ _ i _ _ _ _ _ _ _ _ _ _ _ _ _ _ _ _ _ _ _ _ _ _ _ _ _ _ _ _ _ _ _ _ _ _ wr => ∃ k : Nat, k ≤ n ∧ i = .int .i64 k ∧ Below w.heap.size w wr) (fun _ _ _ _ _ _ _ _ i _ _ _ _ _ _ _ _ _ _ _ _ _ _ _ _ _ _ _ _ _ _ _ _ _ _ _ _ _ _ _ _ _ _ _ => n - (Lib.intOf i).toNat)
  case atStart => exact ⟨0, Nat.zero_le _, rfl, hb1⟩
  case round =>
    obtain ⟨k, hk, rfl, hB⟩ := hrel
    by_cases hlt : k < n
    · obtain ⟨s, hs⟩ : ∃ s, l[k]? = some s := ⟨_, List.getElem?_eq_getElem (by have := HN.out; omega)⟩
      obtain ⟨g, o, rfl, hg, hc⟩ := HC.out (by omega)
      have r0 := (hB.cell (p := ⟨g, _, none⟩) hg).trans (hc k s hs)
      have HSS : Hid (s.size ≤ maxLen) := Lib.hid (HS.out s (List.mem_of_getElem? hs))
      clear hc hs
      by_cases h10 : k = 10
      · subst h10
        go_wp2_with fail
        go_ret
        exact ⟨rfl, hB⟩
      · have q1 : ((k : Int) == 10) = false := by rw [beq_eq_false_iff_ne]; omega
        clear h10
        obtain ⟨t, ht⟩ : ∃ t, t = s.data.toList.take 5000 := ⟨_, rfl⟩
        have htl : t.length ≤ 5000 := by rw [ht]; simp; omega
        have HTT := Lib.hid ht
        clear ht
        obtain ⟨p, hp⟩ : ∃ p, p = tkP (takeR t) := ⟨_, rfl⟩
        obtain ⟨r, hr⟩ : ∃ r, r = tkR (takeR t) := ⟨_, rfl⟩
        obtain ⟨e, he⟩ : ∃ e, e = tkE (takeR t) := ⟨_, rfl⟩
        have HP := Lib.hid hp
        have HR := Lib.hid hr
        have HE := Lib.hid he
        clear hp hr he
        go_wp2_with fail
        refine (cutm_any s HSS.out _).mono ?_
        rintro e' w2 ⟨rfl, rfl⟩
        rw [← HTT.out]
        go_wp2_with fail
        refine (takt_w t htl p r e HP.out HR.out HE.out _).mono ?_
        rintro e' w3 ⟨rfl, hb3⟩
        have p3 : PBox (w3.alloc (.cells #[.bool p.isText, .int .u64 p.num, .string ⟨p.text.toArray⟩] 29)) w3.heap.size p := heap_alloc_new w3 _
        go_wp2_with fail
        refine (rtake_w t htl p r e HP.out HR.out HE.out _).mono ?_
        rintro e' w4 ⟨rfl, hb4⟩
        have p4 := p3.below hb4
        have p5 := p4.below (bal (Below.refl _ w4) (.cells #[.bool p.isText, .int .u64 p.num, .string ⟨p.text.toArray⟩] 29))
        have c0 := p4.c0; have c1 := p4.c1; have c2 := p4.c2
        have hlt4 := p4.lt
        have hne := neq29 p.isText p.num ⟨p.text.toArray⟩
        have hgd := guard29
        go_wp2_with fail
        go_roundw
        case rel => exact ⟨k + 1, hlt, by go_num, bal (bch (bal (bch hB hb3) _) hb4) _⟩
        case measure => simp [Lib.intOf]; omega
    · go_wp2_with fail
      go_ret
      exact ⟨rfl, hB⟩
end Go.Proofs.YtmamolhclohniaaDoor
