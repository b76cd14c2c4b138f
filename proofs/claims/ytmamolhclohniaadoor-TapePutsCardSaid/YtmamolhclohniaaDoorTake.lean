/- Proved here: Take of package tape: the part with which a text begins, and the rest, for every text of at most 2^47 bytes. -/
import Derived.Test.YtmamolhclohniaaDoorDigits
import Derived.Deep.RegionWith
import Derived.Lib.IndexBytes
namespace Go.Proofs.YtmamolhclohniaaDoor
open Go.RowKit Go.Shelf

theorem PBox.frozen {w : World} {k : Nat} {p : Part} (h : PBox w k p) (j : Nat) : w.frozen? ⟨k, j, none⟩ = false := by simp [World.frozen?, show w.heap[k]? = _ from h]
theorem PBox.set3 {w : World} {k : Nat} {p : Part} (h : PBox w k p) (q : Part) : PBox (((w.setCell ⟨k, 0, none⟩ (.bool q.isText)).setCell ⟨k, 1, none⟩ (.int .u64 q.num)).setCell ⟨k, 2, none⟩ (.string ⟨q.text.toArray⟩)) k q := by
  unfold PBox at h ⊢
  simp [World.setCell, Array.getElem?_modify, h]
theorem below_set3 {w w' : World} {B k : Nat} (h : Below B w w') (hk : B ≤ k) (a b c : Value) : Below B w (((w'.setCell ⟨k, 0, none⟩ a).setCell ⟨k, 1, none⟩ b).setCell ⟨k, 2, none⟩ c) :=
  ((h.setCell (p := ⟨k, 0, none⟩) hk _).setCell (p := ⟨k, 1, none⟩) hk _).setCell (p := ⟨k, 2, none⟩) hk _

def takV : Taken → Value
  | .ok p r => .tuple #[aggP p, .string ⟨r.toArray⟩, .int .i64 0]
  | .no e => .tuple #[aggP ⟨false, 0, []⟩, .string ⟨#[]⟩, .int .i64 e]
def TR (l : Str) (w : World) (e : Ending) (w' : World) : Prop := e = .returned (takV (takeR l)) ∧ Below w.heap.size w w'

theorem takeR_bad (l : Str) (h : digRes l = (0, 0, false)) : takeR l = .no 120 := by
  unfold digRes at h
  unfold takeR
  split at h
  · rename_i hb; rw [if_pos hb]
  · have := congrArg (fun x : Nat × Nat × Bool => x.2.2) h
    cases this
theorem dig_cases (l : Str) : digRes l = (0, 0, false) ∨ digRes l = (val (l.takeWhile dgB), (l.takeWhile dgB).length, true) ∧ badB (l.takeWhile dgB) = false := by
  unfold digRes
  cases h : badB (l.takeWhile dgB) with
  | true => left; rfl
  | false => right; exact ⟨rfl, rfl⟩
theorem tw_len_le (l : Str) : (l.takeWhile dgB).length ≤ l.length := by
  have := congrArg List.length (tw_drop l)
  rw [List.length_append] at this
  omega
theorem dw_get (l : Str) (k : Nat) (hk : k = (l.takeWhile dgB).length) : l.dropWhile dgB = l.drop k := by
  have := tw_drop l
  conv => rhs; rw [this, hk, List.drop_left]

theorem takeR_all (l : Str) (hb : badB (l.takeWhile dgB) = false) (h : (l.takeWhile dgB).length = l.length) : takeR l = .no 7 := by
  have e : l.dropWhile dgB = [] := by rw [dw_get l _ rfl, h, List.drop_length]
  unfold takeR
  rw [hb, e]
  rfl
theorem takeR_cons (l : Str) (k : Nat) (c : UInt8) (hk : k = (l.takeWhile dgB).length) (hb : badB (l.takeWhile dgB) = false) (hc : l[k]? = some c) :
    takeR l = if k = 0 then .no 120 else if c = 59 then .ok ⟨false, val (l.takeWhile dgB), []⟩ (l.drop (k + 1)) else if c = 58 then (if val (l.takeWhile dgB) ≤ (l.drop (k + 1)).length then .ok ⟨true, 0, (l.drop (k + 1)).take (val (l.takeWhile dgB))⟩ ((l.drop (k + 1)).drop (val (l.takeWhile dgB))) else .no 7) else .no 120 := by
  have hlt := (List.getElem?_eq_some_iff.1 hc).1
  have e : l.dropWhile dgB = c :: l.drop (k + 1) := by
    rw [dw_get l k hk, List.drop_eq_getElem_cons hlt]
    have := (List.getElem?_eq_some_iff.1 hc).2
    rw [this]
  unfold takeR
  rw [hb, e]
  have h0 : (l.takeWhile dgB = []) = (k = 0) := propext ⟨fun h => by rw [hk, h]; rfl, fun h => List.eq_nil_of_length_eq_zero (by omega)⟩
  simp only [Bool.false_eq_true, if_false, h0]

theorem tr_no {l : Str} {e : Int} {w w' : World} (h : takeR l = .no e) (hb : Below w.heap.size w w') : TR l w (.returned (takV (.no e))) w' := ⟨by rw [h], hb⟩
theorem tr_ok {l : Str} {p : Part} {r : Str} {w w' : World} (h : takeR l = .ok p r) (hb : Below w.heap.size w w') : TR l w (.returned (takV (.ok p r))) w' := ⟨by rw [h], hb⟩

theorem dig_no (s : ByteArray) (hs : s.size ≤ 140737488355328) (h : digRes s.data.toList = (0, 0, false)) (w : World) : Calls Tryd.prog 25 #[.string s] w fun e w' => e = .returned (.tuple #[.int .u64 0, .int .i64 0, .bool false]) ∧ Below w.heap.size w w' :=
  (digits_any s hs w).mono fun _ _ ⟨he, hb⟩ => ⟨by rw [he, h]; rfl, hb⟩
theorem dig_yes (s : ByteArray) (hs : s.size ≤ 140737488355328) (v k : Nat) (h : digRes s.data.toList = (v, k, true)) (w : World) : Calls Tryd.prog 25 #[.string s] w fun e w' => e = .returned (.tuple #[.int .u64 v, .int .i64 k, .bool true]) ∧ Below w.heap.size w w' :=
  (digits_any s hs w).mono fun _ _ ⟨he, hb⟩ => ⟨by rw [he, h], hb⟩

theorem res19 (W : World) (k : Nat) (p : Part) (v : Value) (u : Value) (h : PBox W k p) (tmps : Array Value) (h2 : tmps.getD 2 undef = .pointer (some ⟨k, 0, none⟩)) (h3 : tmps.getD 3 undef = v) (h4 : tmps.getD 4 undef = u) : (results Tryd.f19 tmps).run Tryd.prog W = .ok (.tuple #[aggP p, v, u]) W := by
  have c0 := h.c0
  have c1 := h.c1
  have c2 := h.c2
  have e : Tryd.f19.results = #[.cell 2 29, .tmp 3, .tmp 4] := rfl
  rw [Array.getD_eq_getD_getElem?] at h2 h3 h4
  unfold results
  rw [e]
  simp [go_sem, h2, h3, h4, c0, c1, c2, aggP]
theorem end19_no {l : Str} {e : Int} {w W : World} (hr : takeR l = .no e) (hp : PBox W w.heap.size ⟨false, 0, []⟩) (hb : Below w.heap.size w W) (tmps : Array Value) (h2 : tmps.getD 2 undef = .pointer (some ⟨w.heap.size, 0, none⟩)) (h3 : tmps.getD 3 undef = .string ⟨#[]⟩) (h4 : tmps.getD 4 undef = .int .i64 e) :
    bodyPost Tryd.prog Tryd.f19 (TR l w) .ret { tmps := tmps, defers := [] } W :=
  bodyPost_ret (v := takV (.no e)) (res19 W _ _ _ _ hp tmps h2 h3 h4) rfl (tr_no hr hb)
theorem end19_ok {l : Str} {p : Part} {r : Str} {w W : World} (hr : takeR l = .ok p r) (hp : PBox W w.heap.size p) (hb : Below w.heap.size w W) (tmps : Array Value) (h2 : tmps.getD 2 undef = .pointer (some ⟨w.heap.size, 0, none⟩)) (h3 : tmps.getD 3 undef = .string ⟨r.toArray⟩) (h4 : tmps.getD 4 undef = .int .i64 0) :
    bodyPost Tryd.prog Tryd.f19 (TR l w) .ret { tmps := tmps, defers := [] } W :=
  bodyPost_ret (v := takV (.ok p r)) (res19 W _ _ _ _ hp tmps h2 h3 h4) rfl (tr_ok hr hb)
theorem fresh29 (w : World) : PBox (w.alloc (.cells #[.bool false, .int .u64 0, .string ⟨#[]⟩] 29)) w.heap.size ⟨false, 0, []⟩ := heap_alloc_new w _

set_option maxRecDepth 100000 in
set_option maxHeartbeats 2000000 in
theorem take_bad (s : ByteArray) (hs : s.size ≤ 140737488355328) (h : digRes s.data.toList = (0, 0, false)) (w : World) : Calls Tryd.prog 19 #[.string s] w (TR s.data.toList w) := by
  have HR := Lib.hid (takeR_bad _ h)
  have HD := Lib.hid h
  clear h
  go_enter Tryd.func19, Tryd.ntmps19
  go_wp2_with fail
  refine (dig_no s hs HD.out _).mono ?_
  rintro e w1 ⟨rfl, hb⟩
  have p1 := (fresh29 w).below hb
  have hb1 := ((Below.refl _ w).alloc (Nat.le_refl _) (.cells #[.bool false, .int .u64 0, .string ⟨#[]⟩] 29)).trans (hb.mono (by simp))
  have c0 := p1.c0; have c1 := p1.c1; have c2 := p1.c2; have f0 := p1.frozen 0; have f1 := p1.frozen 1; have f2 := p1.frozen 2
  go_wp2_with fail
  exact end19_no HR.out (p1.set3 ⟨false, 0, []⟩) (below_set3 hb1 (Nat.le_refl _) _ _ _) _ rfl rfl rfl

set_option maxRecDepth 100000 in
set_option maxHeartbeats 2000000 in
theorem take_end (s : ByteArray) (hs : s.size ≤ 140737488355328) (v k : Nat) (h : digRes s.data.toList = (v, k, true)) (hk : k = s.size) (hr : takeR s.data.toList = .no 7) (w : World) : Calls Tryd.prog 19 #[.string s] w (TR s.data.toList w) := by
  have HR := Lib.hid hr
  have HD := Lib.hid h
  have t1 : ((k : Int) == (s.size : Int)) = true := by rw [beq_iff_eq]; omega
  clear h hr hk
  go_enter Tryd.func19, Tryd.ntmps19
  go_wp2_with fail
  refine (dig_yes s hs v k HD.out _).mono ?_
  rintro e w1 ⟨rfl, hb⟩
  have p1 := (fresh29 w).below hb
  have hb1 := ((Below.refl _ w).alloc (Nat.le_refl _) (.cells #[.bool false, .int .u64 0, .string ⟨#[]⟩] 29)).trans (hb.mono (by simp))
  have c0 := p1.c0; have c1 := p1.c1; have c2 := p1.c2; have f0 := p1.frozen 0; have f1 := p1.frozen 1; have f2 := p1.frozen 2
  go_wp2_with fail
  exact end19_no HR.out (p1.set3 ⟨false, 0, []⟩) (below_set3 hb1 (Nat.le_refl _) _ _ _) _ rfl rfl rfl

set_option maxRecDepth 100000 in
set_option maxHeartbeats 2000000 in
theorem take_none (s : ByteArray) (hs : s.size ≤ 140737488355328) (v : Nat) (h : digRes s.data.toList = (v, 0, true)) (hk : 0 < s.size) (hr : takeR s.data.toList = .no 120) (w : World) : Calls Tryd.prog 19 #[.string s] w (TR s.data.toList w) := by
  have HR := Lib.hid hr
  have HD := Lib.hid h
  have t1 : ((0 : Int) == (s.size : Int)) = false := by rw [beq_eq_false_iff_ne]; omega
  clear h hr
  go_enter Tryd.func19, Tryd.ntmps19
  go_wp2_with fail
  refine (dig_yes s hs v 0 HD.out _).mono ?_
  rintro e w1 ⟨rfl, hb⟩
  have p1 := (fresh29 w).below hb
  have hb1 := ((Below.refl _ w).alloc (Nat.le_refl _) (.cells #[.bool false, .int .u64 0, .string ⟨#[]⟩] 29)).trans (hb.mono (by simp))
  have c0 := p1.c0; have c1 := p1.c1; have c2 := p1.c2; have f0 := p1.frozen 0; have f1 := p1.frozen 1; have f2 := p1.frozen 2
  go_wp2_with fail
  exact end19_no HR.out (p1.set3 ⟨false, 0, []⟩) (below_set3 hb1 (Nat.le_refl _) _ _ _) _ rfl rfl rfl

set_option maxRecDepth 100000 in
set_option maxHeartbeats 2000000 in
theorem take_other (s : ByteArray) (hs : s.size ≤ 140737488355328) (v k : Nat) (h : digRes s.data.toList = (v, k, true)) (h0 : 0 < k) (hk : k < s.size) (h59 : (s[k]'hk).toNat ≠ 59) (h58 : (s[k]'hk).toNat ≠ 58) (hr : takeR s.data.toList = .no 120) (w : World) : Calls Tryd.prog 19 #[.string s] w (TR s.data.toList w) := by
  have HR := Lib.hid hr
  have HD := Lib.hid h
  have t1 : ((k : Int) == (s.size : Int)) = false := by rw [beq_eq_false_iff_ne]; omega
  have t2 : ((k : Int) == 0) = false := by rw [beq_eq_false_iff_ne]; omega
  have t3 : (((s[k]'hk).toNat : Int) == 59) = false := by rw [beq_eq_false_iff_ne]; omega
  have t4 : (((s[k]'hk).toNat : Int) == 58) = false := by rw [beq_eq_false_iff_ne]; omega
  clear h hr h59 h58
  go_enter Tryd.func19, Tryd.ntmps19
  go_wp2_with fail
  refine (dig_yes s hs v k HD.out _).mono ?_
  rintro e w1 ⟨rfl, hb⟩
  have p1 := (fresh29 w).below hb
  have hb1 := ((Below.refl _ w).alloc (Nat.le_refl _) (.cells #[.bool false, .int .u64 0, .string ⟨#[]⟩] 29)).trans (hb.mono (by simp))
  have c0 := p1.c0; have c1 := p1.c1; have c2 := p1.c2; have f0 := p1.frozen 0; have f1 := p1.frozen 1; have f2 := p1.frozen 2
  go_wp2_with fail
  exact end19_no HR.out (p1.set3 ⟨false, 0, []⟩) (below_set3 hb1 (Nat.le_refl _) _ _ _) _ rfl rfl rfl

theorem ba_drop (s : ByteArray) (k : Nat) : s.extract k s.size = ⟨(s.data.toList.drop k).toArray⟩ := by
  have h := Lib.extract_to_end s k
  have : (s.extract k s.size).data = (s.data.toList.drop k).toArray := by rw [← h]
  exact congrArg ByteArray.mk this
theorem ba_take (s : ByteArray) (k : Nat) : s.extract 0 k = ⟨(s.data.toList.take k).toArray⟩ := by
  have h := Lib.extract_data s 0 k
  rw [List.drop_zero, Nat.sub_zero] at h
  have : (s.extract 0 k).data = (s.data.toList.take k).toArray := by rw [← h]
  exact congrArg ByteArray.mk this

set_option maxRecDepth 100000 in
set_option maxHeartbeats 2000000 in
theorem take_num (s : ByteArray) (hs : s.size ≤ 140737488355328) (v k : Nat) (h : digRes s.data.toList = (v, k, true)) (h0 : 0 < k) (hk : k < s.size) (h59 : (s[k]'hk).toNat = 59) (hr : takeR s.data.toList = .ok ⟨false, v, []⟩ (s.data.toList.drop (k + 1))) (w : World) : Calls Tryd.prog 19 #[.string s] w (TR s.data.toList w) := by
  have HR := Lib.hid hr
  have HD := Lib.hid h
  have t1 : ((k : Int) == (s.size : Int)) = false := by rw [beq_eq_false_iff_ne]; omega
  have t2 : ((k : Int) == 0) = false := by rw [beq_eq_false_iff_ne]; omega
  have t3 : (((s[k]'hk).toNat : Int) == 59) = true := by rw [beq_iff_eq]; omega
  clear h hr h59
  go_enter Tryd.func19, Tryd.ntmps19
  go_wp2_with fail
  refine (dig_yes s hs v k HD.out _).mono ?_
  rintro e w1 ⟨rfl, hb⟩
  have p1 := (fresh29 w).below hb
  have hb1 := ((Below.refl _ w).alloc (Nat.le_refl _) (.cells #[.bool false, .int .u64 0, .string ⟨#[]⟩] 29)).trans (hb.mono (by simp))
  go_wp2_with fail
  refine (number_any v _).mono ?_
  rintro e w2 ⟨rfl, hb2⟩
  have p2 := p1.below hb2
  have hb3 := hb1.trans (hb2.mono (by have := hb1.size; omega))
  have c0 := p2.c0; have c1 := p2.c1; have c2 := p2.c2; have f0 := p2.frozen 0; have f1 := p2.frozen 1; have f2 := p2.frozen 2
  have HB := Lib.hid (ba_drop s (k + 1))
  unfold aggP
  go_wp2_with fail
  exact end19_ok HR.out (p2.set3 ⟨false, v, []⟩) (below_set3 hb3 (Nat.le_refl _) _ _ _) _ rfl (congrArg Value.string HB.out) rfl

set_option maxRecDepth 100000 in
set_option maxHeartbeats 2000000 in
theorem take_cut (s : ByteArray) (hs : s.size ≤ 140737488355328) (v k : Nat) (h : digRes s.data.toList = (v, k, true)) (h0 : 0 < k) (hk : k < s.size) (h58 : (s[k]'hk).toNat = 58) (hv : s.size < v + (k + 1)) (hr : takeR s.data.toList = .no 7) (w : World) : Calls Tryd.prog 19 #[.string s] w (TR s.data.toList w) := by
  have HR := Lib.hid hr
  have HD := Lib.hid h
  have t1 : ((k : Int) == (s.size : Int)) = false := by rw [beq_eq_false_iff_ne]; omega
  have t2 : ((k : Int) == 0) = false := by rw [beq_eq_false_iff_ne]; omega
  have t3 : (((s[k]'hk).toNat : Int) == 59) = false := by rw [beq_eq_false_iff_ne]; omega
  have t4 : (((s[k]'hk).toNat : Int) == 58) = true := by rw [beq_iff_eq]; omega
  clear h hr h58
  go_enter Tryd.func19, Tryd.ntmps19
  go_wp2_with fail
  refine (dig_yes s hs v k HD.out _).mono ?_
  rintro e w1 ⟨rfl, hb⟩
  have p1 := (fresh29 w).below hb
  have hb1 := ((Below.refl _ w).alloc (Nat.le_refl _) (.cells #[.bool false, .int .u64 0, .string ⟨#[]⟩] 29)).trans (hb.mono (by simp))
  have c0 := p1.c0; have c1 := p1.c1; have c2 := p1.c2; have f0 := p1.frozen 0; have f1 := p1.frozen 1; have f2 := p1.frozen 2
  go_wp2_with fail
  exact end19_no HR.out (p1.set3 ⟨false, 0, []⟩) (below_set3 hb1 (Nat.le_refl _) _ _ _) _ rfl rfl rfl

theorem texts_any (t : ByteArray) (w : World) : Calls Tryd.prog 16 #[.string t] w fun e w' => e = .returned (.agg #[.bool true, .int .u64 0, .string t]) ∧ Below w.heap.size w w' := text_any t.data.toList w

set_option maxRecDepth 100000 in
set_option maxHeartbeats 2000000 in
theorem take_text (s : ByteArray) (hs : s.size ≤ 140737488355328) (v k : Nat) (h : digRes s.data.toList = (v, k, true)) (h0 : 0 < k) (hk : k < s.size) (h58 : (s[k]'hk).toNat = 58) (hv : v + (k + 1) ≤ s.size) (hr : takeR s.data.toList = .ok ⟨true, 0, (s.data.toList.drop (k + 1)).take v⟩ ((s.data.toList.drop (k + 1)).drop v)) (w : World) : Calls Tryd.prog 19 #[.string s] w (TR s.data.toList w) := by
  have HR := Lib.hid hr
  have HD := Lib.hid h
  have t1 : ((k : Int) == (s.size : Int)) = false := by rw [beq_eq_false_iff_ne]; omega
  have t2 : ((k : Int) == 0) = false := by rw [beq_eq_false_iff_ne]; omega
  have t3 : (((s[k]'hk).toNat : Int) == 59) = false := by rw [beq_eq_false_iff_ne]; omega
  have t4 : (((s[k]'hk).toNat : Int) == 58) = true := by rw [beq_iff_eq]; omega
  clear h hr h58
  go_enter Tryd.func19, Tryd.ntmps19
  go_wp2_with fail
  refine (dig_yes s hs v k HD.out _).mono ?_
  rintro e w1 ⟨rfl, hb⟩
  have p1 := (fresh29 w).below hb
  have hb1 := ((Below.refl _ w).alloc (Nat.le_refl _) (.cells #[.bool false, .int .u64 0, .string ⟨#[]⟩] 29)).trans (hb.mono (by simp))
  have p1d : PBox w1.drew w.heap.size ⟨false, 0, []⟩ := p1
  have hb1d : Below w.heap.size w w1.drew := hb1.drew
  have e1 : (s.extract (k + 1) s.size).size = s.size - (k + 1) := by simp
  have HE := Lib.hid e1
  have c5 : (0 : Int) ≤ (v : Int) := by omega
  clear e1
  go_wp2_with fail
  obtain ⟨r, hr⟩ : ∃ r, r = s.extract (k + 1) s.size := ⟨_, rfl⟩
  rw [← hr]
  have hrs : (v : Int) ≤ (r.size : Int) := by rw [hr, HE.out]; omega
  have HRR := Lib.hid hr
  clear hr
  go_region_with (go_at_call 16; refine (texts_any _ _).mono ?_; rintro e w2 ⟨rfl, hb2⟩; have p2 := p1d.below hb2; have hb3 := hb1d.trans (hb2.mono (by have := hb1d.size; omega)); have c0 := p2.c0; have c1 := p2.c1; have c2 := p2.c2; have f0 := p2.frozen 0; have f1 := p2.frozen 1; have f2 := p2.frozen 2)
  have HR' : Hid (takeR s.data.toList = .ok ⟨true, 0, (r.extract 0 v).data.toList⟩ (r.extract v r.size).data.toList) := Lib.hid (by
    rw [HR.out, Lib.extract_data, Lib.extract_to_end, HRR.out, Lib.extract_to_end, List.drop_zero, Nat.sub_zero])
  all_goals
    go_wp2
    exact end19_ok HR'.out (p2.set3 ⟨true, 0, (r.extract 0 v).data.toList⟩) (below_set3 hb3 (Nat.le_refl _) _ _ _) _ rfl rfl rfl

theorem take_any (s : ByteArray) (hs : s.size ≤ 140737488355328) (w : World) : Calls Tryd.prog 19 #[.string s] w (TR s.data.toList w) := by
  have hl : s.data.toList.length = s.size := rfl
  rcases dig_cases s.data.toList with h | ⟨h, hb⟩
  · exact take_bad s hs h w
  · obtain ⟨k, hk⟩ : ∃ k, k = (s.data.toList.takeWhile dgB).length := ⟨_, rfl⟩
    obtain ⟨v, hv⟩ : ∃ v, v = val (s.data.toList.takeWhile dgB) := ⟨_, rfl⟩
    rw [← hk, ← hv] at h
    have hle := tw_len_le s.data.toList
    rw [← hk] at hle
    by_cases hf : k = s.size
    · exact take_end s hs v k h hf (takeR_all _ hb (by omega)) w
    · have hlt : k < s.size := by omega
      have hg : s.data.toList[k]? = some (s[k]'hlt) := List.getElem?_eq_getElem (by omega)
      have hR := takeR_cons _ k _ hk hb hg
      rw [← hv] at hR
      have hdl : (s.data.toList.drop (k + 1)).length = s.size - (k + 1) := by rw [List.length_drop, hl]
      by_cases h0 : k = 0
      · subst h0
        rw [if_pos rfl] at hR
        exact take_none s hs v h hlt hR w
      · rw [if_neg h0] at hR
        by_cases h59 : s[k]'hlt = 59
        · rw [if_pos h59] at hR
          exact take_num s hs v k h (by omega) hlt (by rw [h59]; rfl) hR w
        · rw [if_neg h59] at hR
          have n59 : (s[k]'hlt).toNat ≠ 59 := fun e => h59 (UInt8.toNat_inj.1 e)
          by_cases h58 : s[k]'hlt = 58
          · rw [if_pos h58, hdl] at hR
            by_cases hv2 : v ≤ s.size - (k + 1)
            · rw [if_pos hv2] at hR
              exact take_text s hs v k h (by omega) hlt (by rw [h58]; rfl) (by omega) hR w
            · rw [if_neg hv2] at hR
              exact take_cut s hs v k h (by omega) hlt (by rw [h58]; rfl) (by omega) hR w
          · rw [if_neg h58] at hR
            exact take_other s hs v k h (by omega) hlt n59 (fun e => h58 (UInt8.toNat_inj.1 e)) hR w
end Go.Proofs.YtmamolhclohniaaDoor
