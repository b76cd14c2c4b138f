/- Proved here: great and Take of puncheonref02: the part with which a text begins, and the rest, are those of the plain words. -/
import Derived.Test.YtmamolhclohniaaDoorJoins2
import Derived.Test.YtmamolhclohniaaDoorMath4
namespace Go.Proofs.YtmamolhclohniaaDoor
open Go.RowKit Go.Shelf

theorem great_any (s : ByteArray) (hs : s.size ≤ 140737488355328) (w : World) : Calls Tryd.prog 26 #[.string s] w fun e w' => e = .returned (.bool (greatB s.data.toList)) ∧ w = w' := by
  have hl : s.data.toList.length = s.size := rfl
  rcases Nat.lt_trichotomy s.size 20 with h | h | h
  · have HG : Hid (greatB s.data.toList = false) := Lib.hid (by
      unfold greatB
      rw [decide_eq_false (by omega), decide_eq_false (by omega)]; rfl)
    rw [HG.out]
    have t1 : decide ((20 : Int) < (s.size : Int)) = false := decide_eq_false (by omega)
    have t2 : ((s.size : Int) == 20) = false := by rw [beq_eq_false_iff_ne]; omega
    clear hl h
    go_enter Tryd.func26, Tryd.ntmps26
    go_wp2
    go_ret
    exact ⟨rfl, rfl⟩
  · have HG : Hid (greatB s.data.toList = (!Op.bytesLess s.toList topL && !(s.toList == topL))) := Lib.hid (by
      unfold greatB
      rw [decide_eq_false (by omega), decide_eq_true (by omega), Bool.true_and, Bool.false_or, Lib.toList_data])
    rw [HG.out]
    have t1 : decide ((20 : Int) < (s.size : Int)) = false := decide_eq_false (by omega)
    have t2 : ((s.size : Int) == 20) = true := by rw [beq_iff_eq]; omega
    clear hl h
    go_enter Tryd.func26, Tryd.ntmps26
    go_wp2
    go_ret
    exact ⟨rfl, rfl⟩
  · have HG : Hid (greatB s.data.toList = true) := Lib.hid (by
      unfold greatB
      rw [decide_eq_true (by omega)]; rfl)
    rw [HG.out]
    have t1 : decide ((20 : Int) < (s.size : Int)) = true := decide_eq_true (by omega)
    clear hl h
    go_enter Tryd.func26, Tryd.ntmps26
    go_wp2
    go_ret
    exact ⟨rfl, rfl⟩

theorem res20 (W : World) (k : Nat) (p : Part) (v : Value) (u : Value) (h : PBox W k p) (tmps : Array Value) (h2 : tmps.getD 2 undef = .pointer (some ⟨k, 0, none⟩)) (h3 : tmps.getD 3 undef = v) (h4 : tmps.getD 4 undef = u) : (results Tryd.f20 tmps).run Tryd.prog W = .ok (.tuple #[aggP p, v, u]) W := by
  have c0 := h.c0
  have c1 := h.c1
  have c2 := h.c2
  have e : Tryd.f20.results = #[.cell 2 29, .tmp 3, .tmp 4] := rfl
  rw [Array.getD_eq_getD_getElem?] at h2 h3 h4
  unfold results
  rw [e]
  simp [go_sem, h2, h3, h4, c0, c1, c2, aggP]
theorem end20_no {l : Str} {e : Int} {w W : World} (hr : takeR l = .no e) (hp : PBox W w.heap.size ⟨false, 0, []⟩) (hb : Below w.heap.size w W) (tmps : Array Value) (h2 : tmps.getD 2 undef = .pointer (some ⟨w.heap.size, 0, none⟩)) (h3 : tmps.getD 3 undef = .string ⟨#[]⟩) (h4 : tmps.getD 4 undef = .int .i64 e) :
    bodyPost Tryd.prog Tryd.f20 (TR l w) .ret { tmps := tmps, defers := [] } W :=
  bodyPost_ret (v := takV (.no e)) (res20 W _ _ _ _ hp tmps h2 h3 h4) rfl (tr_no hr hb)
theorem end20_ok {l : Str} {p : Part} {r : Str} {w W : World} (hr : takeR l = .ok p r) (hp : PBox W w.heap.size p) (hb : Below w.heap.size w W) (tmps : Array Value) (h2 : tmps.getD 2 undef = .pointer (some ⟨w.heap.size, 0, none⟩)) (h3 : tmps.getD 3 undef = .string ⟨r.toArray⟩) (h4 : tmps.getD 4 undef = .int .i64 0) :
    bodyPost Tryd.prog Tryd.f20 (TR l w) .ret { tmps := tmps, defers := [] } W :=
  bodyPost_ret (v := takV (.ok p r)) (res20 W _ _ _ _ hp tmps h2 h3 h4) rfl (tr_ok hr hb)

/-- The digits with which a text begins, and the byte behind them, if any. -/
theorem tw_at (l : Str) (k : Nat) (hk : k = (l.takeWhile dgB).length) : l.takeWhile dgB = l.take k := by
  have h := tw_drop l
  have : l.take k = (l.takeWhile dgB ++ l.dropWhile dgB).take k := by rw [← h]
  rw [this, hk, List.take_left]

theorem isEmpty_no {l : List UInt8} (h : l ≠ []) : l.isEmpty = false := by cases l <;> simp_all
theorem rt_tw (l : Str) (k : Nat) (hk : k ≤ l.length) (h : ∀ c ∈ l.take k, dgB c = true) (he : ∀ c, l[k]? = some c → dgB c = false) : l.takeWhile dgB = l.take k ∧ k = (l.takeWhile dgB).length := by
  have := tw_take l k h he
  exact ⟨this, by rw [this]; simp; omega⟩
theorem rt_bad (l : Str) (h : badB (l.takeWhile dgB) = true) : takeR l = .no 120 := by unfold takeR; rw [if_pos h]
theorem bad_no (ds : Str) (h1 : 1 < ds.length) (h2 : ds.head? = some 48) : badB ds = true := by
  unfold badB
  rw [decide_eq_true h1, decide_eq_true h2]; rfl
theorem bad_gr (ds : Str) (h : ∀ c ∈ ds, dgB c = true) (h0 : ds ≠ []) (hn : ¬ (1 < ds.length ∧ ds.head? = some 48)) : badB ds = greatB ds := by
  have hp : 0 < ds.length := List.length_pos_iff.2 h0
  rw [great_val ds h h0 (by
    by_cases h1 : 1 < ds.length
    · right; exact fun e => hn ⟨h1, e⟩
    · left; omega)]
  unfold badB
  have : (decide (1 < ds.length) && decide (ds.head? = some 48)) = false := by
    rw [Bool.and_eq_false_iff, decide_eq_false_iff_not, decide_eq_false_iff_not]
    by_cases h1 : 1 < ds.length
    · right; exact fun e => hn ⟨h1, e⟩
    · left; exact h1
  rw [this, Bool.false_or]
theorem head_at (l : Str) (k : Nat) (hk : 0 < k) (c : UInt8) (h : l[0]? = some c) : (l.take k).head? = some c := by
  cases l with
  | nil => simp at h
  | cons x l =>
    cases k with
    | zero => omega
    | succ k => simpa using h

set_option maxRecDepth 100000 in
set_option maxHeartbeats 4000000 in
theorem rtake_any (s : ByteArray) (hs : s.size ≤ 140737488355328) (w : World) : Calls Tryd.prog 20 #[.string s] w (TR s.data.toList w) := by
  have hl : s.data.toList.length = s.size := rfl
  have p1 := fresh29 w
  have hb1 := (Below.refl _ w).alloc (Nat.le_refl _) (.cells #[.bool false, .int .u64 0, .string ⟨#[]⟩] 29)
  have HP1 := Lib.hid p1
  have HL := Lib.hid hl
  clear p1 hl
  go_enter Tryd.func20, Tryd.ntmps20
  go_wp2
  go_loop [5, 9, 10, 11, 12, 13, 14, 15, 16, 17, 18, 19, 20, 21, 22, 23, 24, 25, 26] (fun a _ _ _ _ _ _ _ _ _ _ _ _ _ _ _ _ _ _ => ∃ k : Nat, a = .int .i64 k ∧ k ≤ s.size ∧ Hid (∀ c ∈ s.data.toList.take k, dgB c = true)) (fun a _ _ _ _ _ _ _ _ _ _ _ _ _ _ _ _ _ _ => s.size - (Lib.intOf a).toNat)
  case atStart => exact ⟨0, rfl, Nat.zero_le _, Lib.hid (by simp)⟩
  case round =>
    obtain ⟨k, rfl, hk, HD⟩ := hrel
    by_cases hlt : k < s.size
    · have hget : s.data.toList[k]? = some (s[k]'hlt) := List.getElem?_eq_getElem (by have := HL.out; omega)
      have HG := Lib.hid hget
      clear hget
      by_cases hd : 48 ≤ (s[k]'hlt).toNat ∧ (s[k]'hlt).toNat ≤ 57
      · have HDC : Hid (dgB (s[k]'hlt) = true) := Lib.hid (decide_eq_true hd)
        obtain ⟨d1, d2⟩ := hd
        go_wp2
        all_goals first
          | (go_round
             case rel => exact ⟨k + 1, by go_num, hlt, Lib.hid (all_snoc _ k _ HG.out HD.out HDC.out)⟩
             case measure => simp [Lib.intOf]; omega)
          | (exfalso; omega)
      · have HN : Hid (∀ c, s.data.toList[k]? = some c → dgB c = false) := Lib.hid (fun c hc => by
          have := HG.out.symm.trans hc
          cases this
          exact decide_eq_false hd)
        obtain ⟨tw1, tw2⟩ := rt_tw s.data.toList k (by have := HL.out; omega) HD.out HN.out
        have HT1 := Lib.hid tw1
        have HT2 := Lib.hid tw2
        clear tw1 tw2
        have hse : s.toList.isEmpty = false := isEmpty_no (by
          rw [Lib.toList_data]
          exact List.length_pos_iff.1 (by have := HL.out; omega))
        by_cases hk0 : k = 0
        · subst hk0
          have HR : Hid (takeR s.data.toList = .no 120) := Lib.hid (by
            rw [takeR_cons _ 0 _ HT2.out (by rw [HT1.out]; rfl) HG.out, if_pos rfl])
          go_wp2
          all_goals exact end20_no HR.out HP1.out hb1 _ rfl rfl rfl
        · have k0 : ((k : Int) == 0) = false := by rw [beq_eq_false_iff_ne]; omega
          have s0 : 0 < s.size := by omega
          have HG0 : Hid (s.data.toList[0]? = some (s[0]'s0)) := Lib.hid (List.getElem?_eq_getElem (by have := HL.out; omega))
          have i1 : (0 : Int) ≤ (k : Int) := by omega
          have i2 : (k : Int) ≤ (s.size : Int) := by omega
          have HLK : Hid ((s.data.toList.take k).length = k) := Lib.hid (len_take_get _ k _ HG.out)
          by_cases hn : 1 < k ∧ (s[0]'s0) = 48
          · obtain ⟨n1, n2⟩ := hn
            have HR : Hid (takeR s.data.toList = .no 120) := Lib.hid (rt_bad _ (by
              rw [HT1.out]
              exact bad_no _ (by rw [HLK.out]; exact n1) (by rw [← n2]; exact head_at _ k (by omega) _ HG0.out)))
            have n3 : (((s[0]'s0).toNat : Int) == 48) = true := by rw [n2]; rfl
            clear n2
            go_wp2
            all_goals exact end20_no HR.out HP1.out hb1 _ rfl rfl rfl
          · have HBG : Hid (badB (s.data.toList.take k) = greatB (s.data.toList.take k)) := Lib.hid (bad_gr _ HD.out (List.length_pos_iff.1 (by rw [HLK.out]; omega)) (fun ⟨e1, e2⟩ => hn ⟨by rw [HLK.out] at e1; exact e1, by
              rw [head_at _ k (by omega) _ HG0.out] at e2
              exact Option.some.inj e2⟩))
            have hne : ¬ 1 < k ∨ (1 < k ∧ (((s[0]'s0).toNat : Int) == 48) = false) := by
              by_cases h1 : 1 < k
              · right
                refine ⟨h1, ?_⟩
                rw [beq_eq_false_iff_ne]
                intro e
                exact hn ⟨h1, UInt8.toNat_inj.1 (by show (s[0]'s0).toNat = 48; omega)⟩
              · exact .inl h1
            have HXD : Hid ((s.extract 0 k).data.toList = s.data.toList.take k) := Lib.hid (by rw [Lib.extract_data, List.drop_zero, Nat.sub_zero])
            have hxs : (s.extract 0 k).size ≤ 140737488355328 := by
              have : (s.extract 0 k).data.toList.length = (s.extract 0 k).size := rfl
              rw [← this, HXD.out, HLK.out]
              omega
            have HXS := Lib.hid hxs
            clear hn hxs
            cases hgr : greatB (s.data.toList.take k) with
            | true =>
              have HR : Hid (takeR s.data.toList = .no 120) := Lib.hid (rt_bad _ (by rw [HT1.out, HBG.out]; exact hgr))
              have HGE : Hid (greatB (s.extract 0 k).data.toList = true) := Lib.hid (by rw [HXD.out]; exact hgr)
              clear hgr
              rcases hne with h1 | ⟨h1, h2⟩
              all_goals
                go_wp2_with (go_at_call 26; refine (great_any _ HXS.out _).mono ?_; rintro e w' ⟨rfl, rfl⟩; rw [HGE.out])
                all_goals first | exact end20_no HR.out HP1.out hb1 _ rfl rfl rfl | (exfalso; omega)
            | false =>
              have HBF : Hid (badB (s.data.toList.takeWhile dgB) = false) := Lib.hid (by rw [HT1.out, HBG.out]; exact hgr)
              have HGE : Hid (greatB (s.extract 0 k).data.toList = false) := Lib.hid (by rw [HXD.out]; exact hgr)
              have HTC := Lib.hid (takeR_cons _ k _ HT2.out HBF.out HG.out)
              have t1 : ((k : Int) == (s.size : Int)) = false := by rw [beq_eq_false_iff_ne]; omega
              clear hgr
              by_cases ho : (s[k]'hlt) ≠ 59 ∧ (s[k]'hlt) ≠ 58
              · have HR : Hid (takeR s.data.toList = .no 120) := Lib.hid (by rw [HTC.out, if_neg hk0, if_neg ho.1, if_neg ho.2])
                have o1 : (((s[k]'hlt).toNat : Int) == 59) = false := by rw [beq_eq_false_iff_ne]; intro e; exact ho.1 (UInt8.toNat_inj.1 (by show (s[k]'hlt).toNat = 59; omega))
                have o2 : (((s[k]'hlt).toNat : Int) == 58) = false := by rw [beq_eq_false_iff_ne]; intro e; exact ho.2 (UInt8.toNat_inj.1 (by show (s[k]'hlt).toNat = 58; omega))
                have o3 : (((s[k]'hlt).toNat : Int) != 59) = true := by rw [bne, o1]; rfl
                have o4 : (((s[k]'hlt).toNat : Int) != 58) = true := by rw [bne, o2]; rfl
                clear ho
                rcases hne with h1 | ⟨h1, h2⟩
                all_goals
                  go_wp2_with (go_at_call 26; refine (great_any _ HXS.out _).mono ?_; rintro e w' ⟨rfl, rfl⟩; rw [HGE.out])
                  all_goals first | exact end20_no HR.out HP1.out hb1 _ rfl rfl rfl | (exfalso; omega)
              · have hoo : (s[k]'hlt) = 59 ∨ (s[k]'hlt) = 58 := by
                  by_cases h59 : (s[k]'hlt) = 59
                  · exact .inl h59
                  · exact .inr (Classical.byContradiction fun h58 => ho ⟨h59, h58⟩)
                have HOO := Lib.hid hoo
                have hoi : (((s[k]'hlt).toNat : Int) == 59) = true ∨ ((((s[k]'hlt).toNat : Int) == 59) = false ∧ (((s[k]'hlt).toNat : Int) == 58) = true) := by
                  rcases hoo with e | e
                  · left; rw [e]; rfl
                  · right; rw [e]; exact ⟨rfl, rfl⟩
                have HVB : Hid (val (s.data.toList.take k) < 18446744073709551616) := Lib.hid (by
                  have := HBF.out
                  rw [HT1.out] at this
                  unfold badB at this
                  simp only [Bool.or_eq_false_iff, decide_eq_false_iff_not] at this
                  omega)
                clear ho hoo
                have hoi2 : (((s[k]'hlt).toNat : Int) != 59) = false ∨ ((((s[k]'hlt).toNat : Int) != 59) = true ∧ (((s[k]'hlt).toNat : Int) != 58) = false) := by
                  rcases hoi with e | ⟨e1, e2⟩
                  · left; rw [bne, e]; rfl
                  · right; rw [bne, bne, e1, e2]; exact ⟨rfl, rfl⟩
                have HOI := Lib.hid hoi
                clear hoi
                rcases hne with h1 | ⟨h1, h2⟩ <;> rcases hoi2 with z1 | ⟨z1, z2⟩
                all_goals
                  go_wp2_with (go_at_call 26; refine (great_any _ HXS.out _).mono ?_; rintro e w' ⟨rfl, rfl⟩; rw [HGE.out])
                  all_goals first
                    | (exfalso; omega)
                    | skip
                all_goals
                  go_loop [6, 7, 64, 65, 66, 67, 68, 69, 70, 71, 72, 73, 74, 75, 76] (fun n i _ _ _ _ _ _ _ _ _ _ _ _ _ => ∃ j : Nat, j ≤ k ∧ i = .int .i64 j ∧ n = .int .u64 (val (s.data.toList.take j))) (fun _ i _ _ _ _ _ _ _ _ _ _ _ _ _ => k - (Lib.intOf i).toNat)
                  case atStart => exact ⟨0, Nat.zero_le _, rfl, rfl⟩
                  case round =>
                    obtain ⟨j, hj, rfl, rfl⟩ := hrel
                    by_cases hjk : j < k
                    · have hjs : j < s.size := by omega
                      have hgj : s.data.toList[j]? = some (s[j]'hjs) := List.getElem?_eq_getElem (by have := HL.out; omega)
                      have hdj := dg_bounds (HD.out (s[j]'hjs) (by
                        rw [List.mem_iff_getElem?]
                        exact ⟨j, by rw [List.getElem?_take, if_pos hjk]; exact hgj⟩))
                      have hvs := val_snoc (s.data.toList.take j) (s[j]'hjs)
                      rw [← take_snoc_get _ j _ hgj] at hvs
                      have hvl : val (s.data.toList.take (j + 1)) ≤ val (s.data.toList.take k) := by
                        have h1 : s.data.toList.take k = s.data.toList.take (j + 1) ++ (s.data.toList.take k).drop (j + 1) := by
                          conv => lhs; rw [← List.take_append_drop (j + 1) (s.data.toList.take k)]
                          rw [List.take_take, Nat.min_eq_left (by omega)]
                        rw [h1]
                        exact val_append_le _ _
                      have HVS := Lib.hid hvs
                      have hv2 : 10 * val (s.data.toList.take j) + ((s[j]'hjs).toNat - 48) ≤ 18446744073709551615 := by
                        have := HVB.out
                        omega
                      obtain ⟨v, hv⟩ : ∃ v, v = val (s.data.toList.take j) := ⟨_, rfl⟩
                      rw [← hv] at hv2 ⊢
                      have HV := Lib.hid hv
                      obtain ⟨d1, d2⟩ := hdj
                      clear hvs hvl hgj hv
                      go_wp2
                      go_round
                      case rel => exact ⟨j + 1, hjk, by go_num, by rw [HVS.out, ← HV.out]; exact congrArg _ (by omega)⟩
                      case measure => simp [Lib.intOf]; omega
                    · obtain rfl : j = k := by omega
                      obtain ⟨v, hv⟩ : ∃ v, v = val (s.data.toList.take j) := ⟨_, rfl⟩
                      rw [← hv]
                      have hvb : v ≤ 18446744073709551615 := by have := HVB.out; omega
                      have HV := Lib.hid hv
                      have hdl : (s.data.toList.drop (j + 1)).length = s.size - (j + 1) := by rw [List.length_drop, HL.out]
                      have HDL := Lib.hid hdl
                      clear hv hdl
                      have e1 : (s.extract (j + 1) s.size).size = s.size - (j + 1) := by simp
                      have HE1 := Lib.hid e1
                      clear e1
                      rcases HOO.out with e59 | e58
                      · have HR : Hid (takeR s.data.toList = .ok ⟨false, v, []⟩ (s.data.toList.drop (j + 1))) := Lib.hid (by rw [HTC.out, if_neg hk0, if_pos e59, HT1.out, ← HV.out])
                        have y1 : (((s[j]'hlt).toNat : Int) == 59) = true := by rw [e59]; rfl
                        have HBD := Lib.hid (ba_drop s (j + 1))
                        clear e59
                        go_wp2
                        exact end20_ok HR.out (heap_alloc_new w _) ((Below.refl _ w).alloc (Nat.le_refl _) _) _ rfl (congrArg Value.string HBD.out) rfl
                      · have y1 : (((s[j]'hlt).toNat : Int) == 59) = false := by rw [e58]; rfl
                        have n59 : (s[j]'hlt) ≠ 59 := by rw [e58]; decide
                        by_cases hfit : v ≤ s.size - (j + 1)
                        · have HR : Hid (takeR s.data.toList = .ok ⟨true, 0, (s.data.toList.drop (j + 1)).take v⟩ ((s.data.toList.drop (j + 1)).drop v)) := Lib.hid (by rw [HTC.out, if_neg hk0, if_neg n59, if_pos e58, HT1.out, ← HV.out, HDL.out, if_pos hfit])
                          have c5 : (0 : Int) ≤ (v : Int) := by omega
                          clear n59 e58
                          go_wp2
                          obtain ⟨r, hr⟩ : ∃ r, r = s.extract (j + 1) s.size := ⟨_, rfl⟩
                          rw [← hr]
                          have hrs : (v : Int) ≤ (r.size : Int) := by rw [hr, HE1.out]; omega
                          have HR' : Hid (takeR s.data.toList = .ok ⟨true, 0, (r.extract 0 v).data.toList⟩ (r.extract v r.size).data.toList) := Lib.hid (by
                            rw [HR.out, Lib.extract_data, Lib.extract_to_end, hr, Lib.extract_to_end, List.drop_zero, Nat.sub_zero])
                          clear hr
                          have pw : PBox ((w.alloc (.cells #[.bool true, .int .u64 0, .string (r.extract 0 v)] 29)).drew) w.heap.size ⟨true, 0, (r.extract 0 v).data.toList⟩ := heap_alloc_new w _
                          go_region
                          all_goals
                            go_wp2
                            exact end20_ok (p := ⟨true, 0, (r.extract 0 v).data.toList⟩) HR'.out pw (((Below.refl _ w).alloc (Nat.le_refl _) _).drew) _ rfl rfl rfl
                        · have HR : Hid (takeR s.data.toList = .no 7) := Lib.hid (by rw [HTC.out, if_neg hk0, if_neg n59, if_pos e58, HT1.out, ← HV.out, HDL.out, if_neg hfit])
                          clear n59 e58
                          go_wp2
                          exact end20_no HR.out HP1.out hb1 _ rfl rfl rfl
    · obtain rfl : k = s.size := by omega
      have HN : Hid (∀ c, s.data.toList[s.size]? = some c → dgB c = false) := Lib.hid (fun c hc => by
        have := (List.getElem?_eq_some_iff.1 hc).1
        have := HL.out
        omega)
      obtain ⟨tw1, tw2⟩ := rt_tw s.data.toList s.size (by have := HL.out; omega) HD.out HN.out
      have HT1 := Lib.hid tw1
      have HT2 := Lib.hid tw2
      clear tw1 tw2
      by_cases hz : s.size = 0
      · have hs0 : s.toList = [] := by
          rw [Lib.toList_data]
          exact List.eq_nil_of_length_eq_zero (by rw [HL.out, hz])
        have hse : s.toList.isEmpty = true := by rw [hs0]; rfl
        have HR : Hid (takeR s.data.toList = .no 7) := Lib.hid (by
          rw [← Lib.toList_data, hs0]; rfl)
        clear hz
        go_wp2
        all_goals exact end20_no HR.out HP1.out hb1 _ rfl rfl rfl
      · have s0 : 0 < s.size := by omega
        have hse : s.toList.isEmpty = false := isEmpty_no (by
          rw [Lib.toList_data]
          exact List.length_pos_iff.1 (by rw [HL.out]; exact s0))
        have k0 : ((s.size : Int) == 0) = false := by rw [beq_eq_false_iff_ne]; omega
        have HG0 : Hid (s.data.toList[0]? = some (s[0]'s0)) := Lib.hid (List.getElem?_eq_getElem (by rw [HL.out]; exact s0))
        have HLK : Hid ((s.data.toList.take s.size).length = s.size) := Lib.hid (by rw [List.length_take, HL.out]; omega)
        by_cases hn : 1 < s.size ∧ (s[0]'s0) = 48
        · obtain ⟨n1, n2⟩ := hn
          have HR : Hid (takeR s.data.toList = .no 120) := Lib.hid (rt_bad _ (by
            rw [HT1.out]
            exact bad_no _ (by rw [HLK.out]; exact n1) (by rw [← n2]; exact head_at _ s.size s0 _ HG0.out)))
          have n3 : (((s[0]'s0).toNat : Int) == 48) = true := by rw [n2]; rfl
          clear n2
          go_wp2
          all_goals first | exact end20_no HR.out HP1.out hb1 _ rfl rfl rfl | (exfalso; omega)
        · have HBG : Hid (badB (s.data.toList.take s.size) = greatB (s.data.toList.take s.size)) := Lib.hid (bad_gr _ HD.out (List.length_pos_iff.1 (by rw [HLK.out]; exact s0)) (fun ⟨e1, e2⟩ => hn ⟨by rw [HLK.out] at e1; exact e1, by
            rw [head_at _ s.size s0 _ HG0.out] at e2
            exact Option.some.inj e2⟩))
          have hne : ¬ 1 < s.size ∨ (1 < s.size ∧ (((s[0]'s0).toNat : Int) == 48) = false) := by
            by_cases h1 : 1 < s.size
            · right
              refine ⟨h1, ?_⟩
              rw [beq_eq_false_iff_ne]
              intro e
              exact hn ⟨h1, UInt8.toNat_inj.1 (by show (s[0]'s0).toNat = 48; omega)⟩
            · exact .inl h1
          have HXD : Hid ((s.extract 0 s.size).data.toList = s.data.toList.take s.size) := Lib.hid (by rw [Lib.extract_data, List.drop_zero, Nat.sub_zero])
          have hxs : (s.extract 0 s.size).size ≤ 140737488355328 := by
            have : (s.extract 0 s.size).data.toList.length = (s.extract 0 s.size).size := rfl
            rw [← this, HXD.out, HLK.out]
            exact hs
          have HXS := Lib.hid hxs
          have HXE : Hid (s.extract 0 s.size = s) := Lib.hid (by
            rw [ba_take, List.take_of_length_le (by rw [HL.out]; exact Nat.le_refl _)])
          clear hn hxs
          cases hgr : greatB (s.data.toList.take s.size) with
          | true =>
            have HR : Hid (takeR s.data.toList = .no 120) := Lib.hid (rt_bad _ (by rw [HT1.out, HBG.out]; exact hgr))
            have HGE : Hid (greatB (s.extract 0 s.size).data.toList = true) := Lib.hid (by rw [HXD.out]; exact hgr)
            have HGS : Hid (greatB s.data.toList = true) := Lib.hid (by have := HGE.out; rwa [HXE.out] at this)
            clear hgr
            rcases hne with h1 | ⟨h1, h2⟩
            all_goals
              go_wp2_with (go_at_call 26; refine (great_any _ (by first | exact HXS.out | exact hs) _).mono ?_; rintro e w' ⟨rfl, rfl⟩; first | rw [HGE.out] | rw [HGS.out])
              all_goals first | exact end20_no HR.out HP1.out hb1 _ rfl rfl rfl | (exfalso; omega)
          | false =>
            have HBF : Hid (badB (s.data.toList.takeWhile dgB) = false) := Lib.hid (by rw [HT1.out, HBG.out]; exact hgr)
            have HGE : Hid (greatB (s.extract 0 s.size).data.toList = false) := Lib.hid (by rw [HXD.out]; exact hgr)
            have HGS : Hid (greatB s.data.toList = false) := Lib.hid (by have := HGE.out; rwa [HXE.out] at this)
            have HR : Hid (takeR s.data.toList = .no 7) := Lib.hid (takeR_all _ HBF.out (by rw [← HT2.out, HL.out]))
            clear hgr
            rcases hne with h1 | ⟨h1, h2⟩
            all_goals
              go_wp2_with (go_at_call 26; refine (great_any _ (by first | exact HXS.out | exact hs) _).mono ?_; rintro e w' ⟨rfl, rfl⟩; first | rw [HGE.out] | rw [HGS.out])
              all_goals first | exact end20_no HR.out HP1.out hb1 _ rfl rfl rfl | (exfalso; omega)
end Go.Proofs.YtmamolhclohniaaDoor
