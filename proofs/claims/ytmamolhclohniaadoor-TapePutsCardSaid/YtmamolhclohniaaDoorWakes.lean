/- Proved here: wakes of puncheonlaw02, which returns true, wherever the table of the powers of ten stands as it is laid. -/
import Derived.Test.YtmamolhclohniaaDoorAll
namespace Go.Proofs.YtmamolhclohniaaDoor
open Go.RowKit Go.Shelf

def TabW (w : World) : Prop := Lib.TabIs Tryd.prog w "internal/strconv.uint64pow10" .u64 Lib.pow10Tab
theorem TabW.below {w w' : World} (h : TabW w) (hb : Below w.heap.size w w') : TabW w' := Lib.tabBelow_of_tabIs h w' hb
theorem TabW.alloc {w : World} (h : TabW w) (o : Obj) : TabW (w.alloc o) := h.below ((Below.refl _ _).alloc (Nat.le_refl _) _)
theorem TabW.tab {w : World} (h : TabW w) : Tab w.heap.size w := Lib.tabBelow_of_tabIs h

theorem bch {w a b : World} (h : Below w.heap.size w a) (k : Below a.heap.size a b) : Below w.heap.size w b := h.trans (k.mono h.size)
theorem bal {w a : World} (h : Below w.heap.size w a) (o : Obj) : Below w.heap.size w (a.alloc o) := h.alloc h.size o

/-- What is put. -/
theorem put_w (l : List Part) (v : Value) (w : World) (hv : RdP w v l) (hfit : ∀ p ∈ l, p.num < 18446744073709551616) (hlen : l.length ≤ 20000 → (rowL l).length ≤ 140737488355328) (hT : TabW w) (a : Str) (e : Int) (hr : putRes l = (a, e)) :
    Calls Tryd.prog 13 #[v] w fun e' w' => e' = .returned (.tuple #[.string ⟨a.toArray⟩, .int .i64 e]) ∧ Below w.heap.size w w' :=
  (put_any l v w hv hfit hlen hT.tab).mono fun _ _ ⟨he, hb⟩ => ⟨by rw [he, hr], hb⟩
theorem take_w_ok (s : ByteArray) (hs : s.size ≤ 140737488355328) (p : Part) (r : Str) (h : takeR s.data.toList = .ok p r) (w : World) : Calls Tryd.prog 19 #[.string s] w fun e' w' => e' = .returned (.tuple #[.agg #[.bool p.isText, .int .u64 p.num, .string ⟨p.text.toArray⟩], .string ⟨r.toArray⟩, .int .i64 0]) ∧ Below w.heap.size w w' :=
  (take_any s hs w).mono fun _ _ ⟨he, hb⟩ => ⟨by rw [he, h]; rfl, hb⟩
theorem take_w_no (s : ByteArray) (hs : s.size ≤ 140737488355328) (e : Int) (h : takeR s.data.toList = .no e) (w : World) : Calls Tryd.prog 19 #[.string s] w fun e' w' => e' = .returned (.tuple #[.agg #[.bool false, .int .u64 0, .string ⟨#[]⟩], .string ⟨#[]⟩, .int .i64 e]) ∧ Below w.heap.size w w' :=
  (take_any s hs w).mono fun _ _ ⟨he, hb⟩ => ⟨by rw [he, h]; rfl, hb⟩
theorem all_ok (s : ByteArray) (hs : s.size ≤ 39998) (l : List Part) (h : allL s.data.toList = (l, [], 0)) (w : World) : Calls Tryd.prog 21 #[.string s] w fun e' w' => ∃ v, e' = .returned (.tuple #[v, .int .i64 s.size, .int .i64 0]) ∧ w'.ownsRow w.heap.size 29 3 v l.length (flatP l) ∧ Below w.heap.size w w' :=
  (all_any s hs w).mono fun _ _ hv => by
    rcases hv with ⟨v, _, he, ho, hb⟩ | ⟨hn, _⟩
    · rw [h] at ho
      exact ⟨v, he, ho, hb⟩
    · rw [h] at hn
      exact absurd rfl hn
theorem all_no (s : ByteArray) (hs : s.size ≤ 39998) (k : Nat) (e : Int) (he0 : e ≠ 0) (h : (allL s.data.toList).2.2 = e) (hk : k = s.size - (allL s.data.toList).2.1.length) (w : World) : Calls Tryd.prog 21 #[.string s] w fun e' w' => e' = .returned (.tuple #[.slice none 0 0, .int .i64 k, .int .i64 e]) ∧ Below w.heap.size w w' :=
  (all_any s hs w).mono fun _ _ hv => by
    rcases hv with ⟨v, h0, _⟩ | ⟨_, he, hb⟩
    · rw [h] at h0
      exact absurd h0 he0
    · rw [h, ← hk] at he
      exact ⟨he, hb⟩

theorem RdP.lit (w : World) (cur : Array Value) (l : List Part) (h : flatP l = cur.toList) (hl : l.length ≤ maxLen) : RdP (w.alloc (.cells cur 29)) (.slice (some ⟨w.heap.size, 0, none⟩) l.length l.length) l :=
  RdP.of_flat (Nat.le_refl _) hl fun _ => ⟨w.heap.size, 0, rfl, by simp, fun j u hu => by
    rw [Nat.zero_add, World.cell?_alloc_new]
    rw [h] at hu
    simpa using hu⟩

theorem wk1 : putRes [⟨false, 7, []⟩, ⟨true, 0, [97, 59, 98]⟩, ⟨false, 0, []⟩, ⟨true, 0, []⟩] = ([55, 59, 51, 58, 97, 59, 98, 48, 59, 48, 58], 0) := by
  simp [putRes, rowL, saysL, Lib.decDigits, rightB]
theorem wk2 : takeR [51, 58, 97, 98, 99, 100] = .ok ⟨true, 0, [97, 98, 99]⟩ [100] := rfl
theorem wk3 : takeR [48, 55, 59] = .no 120 := rfl
theorem wk4 : allL [49, 59, 50, 58, 120, 121, 51, 59] = ([⟨false, 1, []⟩, ⟨true, 0, [120, 121]⟩, ⟨false, 3, []⟩], [], 0) := rfl

theorem ar1 (w : World) (hT : TabW w) : Calls Tryd.prog 13 #[.slice (some ⟨w.heap.size, 0, none⟩) 4 4] (w.alloc (.cells #[.bool false, .int .u64 7, .string ⟨#[]⟩, .bool true, .int .u64 0, .string ⟨#[97, 59, 98]⟩, .bool false, .int .u64 0, .string ⟨#[]⟩, .bool true, .int .u64 0, .string ⟨#[]⟩] 29)) fun e' w' => e' = .returned (.tuple #[.string ⟨#[55, 59, 51, 58, 97, 59, 98, 48, 59, 48, 58]⟩, .int .i64 0]) ∧ Below w.heap.size w w' :=
  (put_w [⟨false, 7, []⟩, ⟨true, 0, [97, 59, 98]⟩, ⟨false, 0, []⟩, ⟨true, 0, []⟩] _ _ (RdP.lit w _ [⟨false, 7, []⟩, ⟨true, 0, [97, 59, 98]⟩, ⟨false, 0, []⟩, ⟨true, 0, []⟩] rfl (by unfold maxLen; simp)) (by
      intro p hp
      simp at hp
      rcases hp with rfl | rfl | rfl | rfl <;> simp) (fun _ => by simp [rowL, saysL, Lib.decDigits]) (hT.alloc _) _ _ wk1).mono fun _ _ ⟨he, hb⟩ => ⟨he, ((Below.refl _ w).alloc (Nat.le_refl _) _).trans (hb.mono (by simp))⟩

set_option maxRecDepth 100000 in
set_option maxHeartbeats 2000000 in
theorem wakes_any (w : World) (hT : TabW w) : Calls Tryd.prog 8 #[] w fun e w' => e = .returned (.bool true) ∧ Below w.heap.size w w' := by
  go_enter Tryd.func8, Tryd.ntmps8
  go_wp2_with fail
  refine (number_any 7 _).mono ?_
  rintro e w1 ⟨rfl, hb1⟩
  go_wp2_with fail
  refine (texts_any ⟨#[97, 59, 98]⟩ _).mono ?_
  rintro e w2 ⟨rfl, hb2⟩
  go_wp2_with fail
  refine (number_any 0 _).mono ?_
  rintro e w3 ⟨rfl, hb3⟩
  go_wp2_with fail
  refine (texts_any ⟨#[]⟩ _).mono ?_
  rintro e w4 ⟨rfl, hb4⟩
  have hb := ((hb1.trans (hb2.mono hb1.size)).trans (hb3.mono (Nat.le_trans hb1.size hb2.size))).trans (hb4.mono (Nat.le_trans hb1.size (Nat.le_trans hb2.size hb3.size)))
  have HB := Lib.hid hb
  clear hb hb1 hb2 hb3 hb4
  unfold aggP
  go_wp2_with fail
  refine (ar1 w4 (hT.below HB.out)).mono ?_
  rintro e w5 ⟨rfl, hb5⟩
  go_wp2_with fail
  refine (take_w_ok ⟨#[51, 58, 97, 98, 99, 100]⟩ (by decide) _ _ wk2 _).mono ?_
  rintro e w6 ⟨rfl, hb6⟩
  have p6 : PBox (w6.alloc (.cells #[.bool true, .int .u64 0, .string ⟨#[97, 98, 99]⟩] 29)) w6.heap.size ⟨true, 0, [97, 98, 99]⟩ := heap_alloc_new w6 _
  go_wp2_with fail
  refine (take_w_no ⟨#[48, 55, 59]⟩ (by decide) _ wk3 _).mono ?_
  rintro e w7 ⟨rfl, hb7⟩
  have p7 := (p6.below hb7).below ((Below.refl _ w7).alloc (Nat.le_refl _) (.cells #[.bool false, .int .u64 0, .string ⟨#[]⟩] 29))
  go_wp2_with fail
  refine (all_ok ⟨#[49, 59, 50, 58, 120, 121, 51, 59]⟩ (by decide) _ wk4 _).mono ?_
  rintro e w8 ⟨v, rfl, ho, hb8⟩
  have p8 := p7.below hb8
  have c8 := p8.c2
  obtain ⟨ao, cp, rfl⟩ := own_len3 ho
  go_wp2_with fail
  go_ret
  exact ⟨rfl, bch (bal (bch (bal (bch (bch HB.out hb5) hb6) _) hb7) _) hb8⟩
end Go.Proofs.YtmamolhclohniaaDoor
