/- Proved here: the law PathOrder returns true for every row of texts: from the contracts of few, slices.SortFunc, Compare and Under. -/
import Derived.Test.YtjnmlhmlcbbafaaSort
namespace Go.Proofs.Ytjnmlhmlcbbafaa
open Go.RowKit Go.Shelf

set_option maxHeartbeats 1000000 in
theorem ins_none (a : Option Addr) (cap : Nat) (fv : Value) (w : World) :
    Calls Try.prog 59 #[.slice a 0 cap, .int .i64 0, .int .i64 0, fv] w fun e w' => e = .returned (.tuple #[]) ∧ w = w' := by
  go_enter Try.func59, Try.ntmps59
  go_wp2
  go_loopw [8] (fun i wr => i = .int .i64 1 ∧ wr = w) (fun _ _ => 0)
  case atStart => exact ⟨rfl, rfl⟩
  case round =>
    obtain ⟨rfl, rfl⟩ := hrel
    go_wp2
    go_end0
    exact ⟨rfl, rfl⟩
set_option maxHeartbeats 1000000 in
theorem pdq_none (a : Option Addr) (cap : Nat) (lim : Int) (fv : Value) (w : World) :
    Calls Try.prog 47 #[.slice a 0 cap, .int .i64 0, .int .i64 0, .int .i64 lim, fv] w fun e w' => e = .returned (.tuple #[]) ∧ w = w' := by
  go_enter Try.func47, Try.ntmps47
  go_wp2
  refine wp_loop_rounds 1 ?_
  rw [rounds_succ]
  go_wp2_with (go_at_call 59; refine (ins_none _ _ _ _).mono ?_; rintro e w' ⟨rfl, rfl⟩)
  (try simp only [Exit.inBlock, Exit.then])
  refine bodyPost_ret (results_none rfl _ _ _) rfl ?_
  exact ⟨rfl, rfl⟩
set_option maxHeartbeats 1000000 in
theorem sort_none (a : Option Addr) (cap : Nat) (fv : Value) (w : World) :
    Calls Try.prog 32 #[.slice a 0 cap, fv] w fun e w' => e = .returned (.tuple #[]) ∧ w = w' := by
  have hl : ∀ W, Calls Try.prog 48 #[.int .u64 0] W fun e w' => (∃ v : Int, e = .returned (.int .i64 v)) ∧ W = w' := fun W =>
    (Try.bits_Len 0 W (by omega) (by omega)).mono fun _ _ ⟨he, hw⟩ => ⟨⟨_, he⟩, hw.symm⟩
  have HL := Lib.hid hl
  clear hl
  go_enter Try.func32, Try.ntmps32
  go_wp2_with (first | (go_at_call 48; refine (HL.out _).mono ?_; rintro e w' ⟨⟨v, rfl⟩, rfl⟩) | (go_at_call 47; refine (pdq_none _ _ _ _ _).mono ?_; rintro e w' ⟨rfl, rfl⟩))
  go_end0
  exact ⟨rfl, rfl⟩

theorem und_at (x a : Str) (hx : x.length ≤ 140737488355328) (ha : a.length ≤ 140737488355328) (u : Bool) (hu : underB x a = u) (w : World) :
    Calls Try.prog 29 #[.string ⟨x.toArray⟩, .string ⟨a.toArray⟩] w fun e w' => e = .returned (.bool u) ∧ Below w.heap.size w w' := by
  rw [← hu]; exact under_any ⟨x.toArray⟩ ⟨a.toArray⟩ hx ha w

/-- What a slice of texts that came in reads as. -/
def ArgS (w : World) (v : Value) (l : List Str) : Prop :=
  (v = .slice none 0 0 ∧ l = []) ∨ ∃ (a : Addr) (len cap : Nat) (ss : List ByteArray), v = .slice (some a) len cap ∧ len ≤ cap ∧ cap ≤ maxLen ∧ len ≤ ss.length ∧ (0 < ss.length → a.block < w.heap.size) ∧
    (∀ i, i < ss.length → w.cell? (a.add i) = some (.string (ss.getD i ByteArray.empty))) ∧ (∀ s ∈ ss, s.size ≤ maxLen) ∧ l = txt (ss.take len)

theorem ArgS.below {w w' : World} {v : Value} {l : List Str} (h : ArgS w v l) (hb : Below w.heap.size w w') : ArgS w' v l := by
  rcases h with h | ⟨a, len, cap, ss, h1, h2, h3, h4, h5, h6, h7, h8⟩
  · exact .inl h
  · refine .inr ⟨a, len, cap, ss, h1, h2, h3, h4, fun h0 => Nat.lt_of_lt_of_le (h5 h0) hb.size, fun i hi => ?_, h7, h8⟩
    have hbl : (a.add i).block = a.block := by unfold Addr.add; split <;> rfl
    rw [hb.cell (p := a.add i) (by rw [hbl]; exact h5 (by omega))]
    exact h6 i hi

theorem few_any (v : Value) (l : List Str) (w : World) (h : ArgS w v l) : Calls Try.prog 10 #[v] w fun e w' => ∃ v', e = .returned v' ∧ w'.ownsRow w.heap.size 9 1 v' (fewL l).length ((fewL l).map encS) ∧ Below w.heap.size w w' := by
  rcases h with ⟨rfl, rfl⟩ | ⟨⟨b, off, spot⟩, len, cap, ss, rfl, h2, h3, h4, _, h6, h7, rfl⟩
  · exact few_none none 0 (by unfold maxLen; omega) w
  · by_cases h0 : len = 0
    · subst h0
      have e : txt (ss.take 0) = [] := by simp [txt]
      rw [e]
      exact few_none _ cap h3 w
    · have hspot : spot = none := by simpa [Addr.add] using World.cell?_spot (h6 0 (by omega))
      subst hspot
      refine few_loop b off len cap ss w (by omega) h4 h2 h7 (fun j hj => ?_)
      have := h6 j hj
      have e : (⟨b, off, none⟩ : Addr).add j = ⟨b, off + j, none⟩ := by
        unfold Addr.add
        by_cases hj0 : j = 0
        · simp [hj0]
        · simp [hj0]
      rwa [e] at this

def TrueB (w : World) (e : Ending) (w' : World) : Prop := e = .returned (.bool true) ∧ Below w.heap.size w w'
theorem chn {w w1 w2 : World} (h : Below w.heap.size w w1) (k : Below w1.heap.size w1 w2) : Below w.heap.size w w2 := h.trans (k.mono h.size)

set_option maxRecDepth 100000 in
set_option maxHeartbeats 1000000 in
theorem order_nil (v : Value) (l : List Str) (w : World) (h : ArgS w v l) (h0 : fewL l = []) : Calls Try.prog 8 #[v] w (TrueB w) := by
  have HA := Lib.hid h
  have H0 := Lib.hid h0
  have hvs : ∃ a n c, v = .slice a n c := by
    rcases h with ⟨rfl, _⟩ | ⟨a, n, c, _, rfl, _⟩
    · exact ⟨_, _, _, rfl⟩
    · exact ⟨_, _, _, rfl⟩
  obtain ⟨a0, n0, c0, rfl⟩ := hvs
  clear h h0
  go_enter Try.func8, Try.ntmps8
  go_wp2_with fail
  refine (wakes_any _).mono ?_
  rintro e w1 ⟨rfl, hb1⟩
  go_wp2_with fail
  refine (few_any _ l _ (HA.out.below hb1)).mono ?_
  rintro e w2 ⟨v, rfl, hrow, hb⟩
  have hb2 := chn hb1 hb
  rw [H0.out] at hrow
  obtain ⟨a1, c1, rfl⟩ := own_len hrow
  clear hb1 hb hrow
  go_wp2_with (go_at_call 32; refine (sort_none _ _ _ _).mono ?_; rintro e w3 ⟨rfl, rfl⟩)
  go_loopw [17] (fun i wr => i = .int .i64 0 ∧ wr = w2) (fun _ _ => 0)
  case atStart => exact ⟨rfl, rfl⟩
  case round =>
    obtain ⟨rfl, rfl⟩ := hrel
    go_wp2
    go_ret
    exact ⟨rfl, hb2⟩

/-- What the tests of one round come to. -/
theorem tests (l : List Str) (hs : SortedP l) (i k : Nat) (x y : Str) (hx : l[i]? = some x) (hy : l[k]? = some y) :
    (cmpL x y = 0 ∧ cmpL y x = 0 ∧ x = y) ∨ (cmpL x y = -1 ∧ cmpL y x = 1 ∧ x ≠ y) ∨ (cmpL x y = 1 ∧ cmpL y x = -1 ∧ x ≠ y ∧ k ≤ i ∧ underB y x = false) := by
  have ha := cl_anti x y
  have hz := cl_zero x y
  rcases cl_range x y with h | h | h
  · exact .inr (.inl ⟨h, by omega, fun e => by have := hz.2 e; omega⟩)
  · exact .inl ⟨h, by omega, hz.1 h⟩
  · refine .inr (.inr ⟨h, by omega, fun e => by have := hz.2 e; omega, ?_, ?_⟩)
    · rcases Nat.lt_or_ge i k with hik | hik
      · have := sorted_get l hs i k x y hx hy (by omega)
        omega
      · exact hik
    · by_cases hu : underB y x = true
      · have := cl_under x y hu
        omega
      · exact Bool.eq_false_iff.2 hu

set_option maxRecDepth 100000 in
set_option maxHeartbeats 8000000 in
theorem order_some (v : Value) (l : List Str) (w : World) (h : ArgS w v l) (h0 : fewL l ≠ []) : Calls Try.prog 8 #[v] w (TrueB w) := by
  have HA := Lib.hid h
  have H0 := Lib.hid h0
  have hvs : ∃ a n c, v = .slice a n c := by
    rcases h with ⟨rfl, _⟩ | ⟨a, n, c, _, rfl, _⟩
    · exact ⟨_, _, _, rfl⟩
    · exact ⟨_, _, _, rfl⟩
  obtain ⟨a0, n0, c0, rfl⟩ := hvs
  obtain ⟨n, hn⟩ : ∃ n, (fewL l).length = n := ⟨_, rfl⟩
  have hn8 : n ≤ 8 := by have := fewL_len l; omega
  have hn1 : 0 < n := by have := List.length_pos_iff.2 h0; omega
  have HN := Lib.hid hn
  have HZ : Hid (Sizes (fewL l)) := fun x hx => Nat.le_trans (fewL_sizes l x hx) (by omega)
  clear h h0 hn
  go_enter Try.func8, Try.ntmps8
  go_wp2_with fail
  refine (wakes_any _).mono ?_
  rintro e w1 ⟨rfl, hb1⟩
  go_wp2_with fail
  refine (few_any _ l _ (HA.out.below hb1)).mono ?_
  rintro e w2 ⟨v, rfl, hrow, hb⟩
  have hb2 := chn hb1 hb
  have hrow' : w2.ownsRow w.heap.size 9 1 v (fewL l).length ((fewL l).map encS) := owns_low hrow hb1.size
  obtain ⟨g, cap, rfl, _, _⟩ := hrow'.form (by rw [HN.out]; exact hn1)
  rw [HN.out]
  have hR : RowIs w.heap.size g cap (fewL l) w2 := hrow'
  have HS := Lib.hid (sort_some w.heap.size g n cap (fewL l) w2 HN.out (by omega) hR HZ.out hb2.size)
  clear hb1 hb hrow hrow' hR
  go_wp2_with (go_at_call 32; refine HS.out.mono ?_; rintro e w3 ⟨rfl, l2, hp, hs, hr, hb3⟩)
  have hb4 : Below w.heap.size w w3 := hb2.trans hb3
  have hl2 : l2.length = n := by have := hp.length_eq; have := HN.out; omega
  have HL2 := Lib.hid hl2
  have HZ2 : Hid (Sizes l2) := fun x hx => HZ.out x (hp.mem_iff.1 hx)
  have HSO := Lib.hid hs
  have HR := Lib.hid hr
  clear hb2 hb3 hp hs hr hl2
  go_loopw [17] (fun i wr => ∃ ii : Nat, ii ≤ n ∧ i = .int .i64 ii ∧ Hid (RowIs w.heap.size g cap l2 wr) ∧ Below w.heap.size w wr) (fun i _ => n - (intOf i).toNat)
  case atStart => exact ⟨0, Nat.zero_le _, rfl, HR, hb4⟩
  case round =>
    obtain ⟨i, hi, rfl, HR1, hB1⟩ := hrel
    by_cases hlt : i < n
    · obtain ⟨x, hx⟩ : ∃ x, l2[i]? = some x := ⟨_, List.getElem?_eq_getElem (by rw [HL2.out]; exact hlt)⟩
      have hcx := row_cell HR1.out i x hx
      have HX := Lib.hid hx
      clear hx
      go_wp2
      obtain ⟨wo, hwo⟩ : ∃ wo : World, wo = wr := ⟨_, rfl⟩
      subst hwo
      clear hcx
      go_loopw [24] (fun k w5 => ∃ kk : Nat, kk ≤ n ∧ k = .int .i64 kk ∧ Hid (RowIs w.heap.size g cap l2 w5) ∧ Below w.heap.size w w5) (fun k _ => n - (intOf k).toNat)
      case atStart => exact ⟨0, Nat.zero_le _, rfl, HR1, hB1⟩
      case round =>
        obtain ⟨k, hk, rfl, HR2, hB2⟩ := hrel
        by_cases hkl : k < n
        · obtain ⟨y, hy⟩ : ∃ y, l2[k]? = some y := ⟨_, List.getElem?_eq_getElem (by rw [HL2.out]; exact hkl)⟩
          have hcy := row_cell HR2.out k y hy
          have hT := tests l2 HSO.out i k x y HX.out hy
          have hxz := HZ2.out x (List.mem_of_getElem? HX.out)
          have hyz := HZ2.out y (List.mem_of_getElem? hy)
          have HY := Lib.hid hy
          clear hy
          rcases hT with ⟨t1, t2, rfl⟩ | ⟨t1, t2, t3⟩ | ⟨t1, t2, t3, t4, t5⟩
          · have T1 := Lib.hid t1
            clear t1 t2
            obtain ⟨u, hu⟩ : ∃ u, underB x x = u := ⟨_, rfl⟩
            have HU := Lib.hid hu
            clear hu
            by_cases hik : i < k
            · have d1 : decide ((i : Int) < (k : Int)) = true := decide_eq_true (by omega)
              have d2 : decide (i < k) = true := decide_eq_true hik
              cases u
              · go_wp2_with fail
                refine (cmp_at x x hxz hxz _ T1.out _).mono ?_
                rintro e w6 ⟨rfl, hb⟩
                have hR6 := row_below HR2.out hb
                have hB6 := chn hB2 hb
                clear hb
                go_wp2_with fail
                refine (cmp_at x x hxz hxz _ T1.out _).mono ?_
                rintro e w7 ⟨rfl, hb⟩
                have hR7 := row_below hR6 hb
                have hB7 := chn hB6 hb
                clear hb hR6 hB6
                go_wp2_with fail
                refine (und_at x x hxz hxz _ HU.out _).mono ?_
                rintro e w8 ⟨rfl, hb⟩
                have hR8 := row_below hR7 hb
                have hB8 := chn hB7 hb
                clear hb hR7 hB7
                go_wp2_with fail
                refine (und_at x x hxz hxz _ HU.out _).mono ?_
                rintro e w9 ⟨rfl, hb⟩
                have hR9 := row_below hR8 hb
                have hB9 := chn hB8 hb
                clear hb hR8 hB8
                go_wp2_with fail
                exact ⟨⟨k + 1, hkl, by go_num, hR9, hB9⟩, by simp [intOf]; omega⟩
              · obtain ⟨z, hz⟩ : ∃ z, l2[i + 1]? = some z := ⟨_, List.getElem?_eq_getElem (by rw [HL2.out]; omega)⟩
                have hzz := HZ2.out z (List.mem_of_getElem? hz)
                have HUZ := Lib.hid (cl_between x x z HU.out (sorted_get l2 HSO.out i (i + 1) x z HX.out hz (by omega)) (sorted_get l2 HSO.out (i + 1) k z x hz HY.out (by omega)))
                have HZE := Lib.hid hz
                have s1 : IntKind.i64.wrap ((i : Int) + 1) = (i : Int) + 1 := IntWalk.i64_in _ (by omega)
                have s2 : ((i : Int) + 1).toNat = i + 1 := by omega
                have s3 : (0 : Int) ≤ (i : Int) + 1 := by omega
                have s4 : (i : Int) + 1 < (n : Int) := by omega
                clear hz
                go_wp2_with fail
                refine (cmp_at x x hxz hxz _ T1.out _).mono ?_
                rintro e w6 ⟨rfl, hb⟩
                have hR6 := row_below HR2.out hb
                have hB6 := chn hB2 hb
                clear hb
                go_wp2_with fail
                refine (cmp_at x x hxz hxz _ T1.out _).mono ?_
                rintro e w7 ⟨rfl, hb⟩
                have hR7 := row_below hR6 hb
                have hB7 := chn hB6 hb
                clear hb hR6 hB6
                go_wp2_with fail
                refine (und_at x x hxz hxz _ HU.out _).mono ?_
                rintro e w8 ⟨rfl, hb⟩
                have hR8 := row_below hR7 hb
                have hB8 := chn hB7 hb
                clear hb hR7 hB7
                go_wp2_with fail
                refine (und_at x x hxz hxz _ HU.out _).mono ?_
                rintro e w9 ⟨rfl, hb⟩
                have hR9 := row_below hR8 hb
                have hB9 := chn hB8 hb
                clear hb hR8 hB8
                have hcz := row_cell hR9 (i + 1) z HZE.out
                go_wp2_with fail
                refine (und_at z x hzz hxz _ HUZ.out _).mono ?_
                rintro e w10 ⟨rfl, hb⟩
                have hR10 := row_below hR9 hb
                have hB10 := chn hB9 hb
                clear hb hR9 hB9
                go_wp2_with fail
                exact ⟨⟨k + 1, hkl, by go_num, hR10, hB10⟩, by simp [intOf]; omega⟩
            · have d1 : decide ((i : Int) < (k : Int)) = false := decide_eq_false (by omega)
              have d2 : decide (i < k) = false := decide_eq_false hik
              cases u
              · go_wp2_with fail
                refine (cmp_at x x hxz hxz _ T1.out _).mono ?_
                rintro e w6 ⟨rfl, hb⟩
                have hR6 := row_below HR2.out hb
                have hB6 := chn hB2 hb
                clear hb
                go_wp2_with fail
                refine (cmp_at x x hxz hxz _ T1.out _).mono ?_
                rintro e w7 ⟨rfl, hb⟩
                have hR7 := row_below hR6 hb
                have hB7 := chn hB6 hb
                clear hb hR6 hB6
                go_wp2_with fail
                refine (und_at x x hxz hxz _ HU.out _).mono ?_
                rintro e w8 ⟨rfl, hb⟩
                have hR8 := row_below hR7 hb
                have hB8 := chn hB7 hb
                clear hb hR7 hB7
                go_wp2_with fail
                refine (und_at x x hxz hxz _ HU.out _).mono ?_
                rintro e w9 ⟨rfl, hb⟩
                have hR9 := row_below hR8 hb
                have hB9 := chn hB8 hb
                clear hb hR8 hB8
                go_wp2_with fail
                exact ⟨⟨k + 1, hkl, by go_num, hR9, hB9⟩, by simp [intOf]; omega⟩
              · go_wp2_with fail
                refine (cmp_at x x hxz hxz _ T1.out _).mono ?_
                rintro e w6 ⟨rfl, hb⟩
                have hR6 := row_below HR2.out hb
                have hB6 := chn hB2 hb
                clear hb
                go_wp2_with fail
                refine (cmp_at x x hxz hxz _ T1.out _).mono ?_
                rintro e w7 ⟨rfl, hb⟩
                have hR7 := row_below hR6 hb
                have hB7 := chn hB6 hb
                clear hb hR6 hB6
                go_wp2_with fail
                refine (und_at x x hxz hxz _ HU.out _).mono ?_
                rintro e w8 ⟨rfl, hb⟩
                have hR8 := row_below hR7 hb
                have hB8 := chn hB7 hb
                clear hb hR7 hB7
                go_wp2_with fail
                refine (und_at x x hxz hxz _ HU.out _).mono ?_
                rintro e w9 ⟨rfl, hb⟩
                have hR9 := row_below hR8 hb
                have hB9 := chn hB8 hb
                clear hb hR8 hB8
                go_wp2_with fail
                exact ⟨⟨k + 1, hkl, by go_num, hR9, hB9⟩, by simp [intOf]; omega⟩
          · have T1 := Lib.hid t1
            have T2 := Lib.hid t2
            have e1 : (x == y) = false := by simp [t3]
            clear t1 t2 t3
            obtain ⟨u, hu⟩ : ∃ u, underB y x = u := ⟨_, rfl⟩
            have HU := Lib.hid hu
            clear hu
            by_cases hik : i < k
            · have d1 : decide ((i : Int) < (k : Int)) = true := decide_eq_true (by omega)
              have d2 : decide (i < k) = true := decide_eq_true hik
              cases u
              · go_wp2_with fail
                refine (cmp_at x y hxz hyz _ T1.out _).mono ?_
                rintro e w6 ⟨rfl, hb⟩
                have hR6 := row_below HR2.out hb
                have hB6 := chn hB2 hb
                clear hb
                go_wp2_with fail
                refine (cmp_at y x hyz hxz _ T2.out _).mono ?_
                rintro e w7 ⟨rfl, hb⟩
                have hR7 := row_below hR6 hb
                have hB7 := chn hB6 hb
                clear hb hR6 hB6
                go_wp2_with fail
                refine (und_at y x hyz hxz _ HU.out _).mono ?_
                rintro e w8 ⟨rfl, hb⟩
                have hR8 := row_below hR7 hb
                have hB8 := chn hB7 hb
                clear hb hR7 hB7
                go_wp2_with fail
                refine (und_at y x hyz hxz _ HU.out _).mono ?_
                rintro e w9 ⟨rfl, hb⟩
                have hR9 := row_below hR8 hb
                have hB9 := chn hB8 hb
                clear hb hR8 hB8
                go_wp2_with fail
                exact ⟨⟨k + 1, hkl, by go_num, hR9, hB9⟩, by simp [intOf]; omega⟩
              · obtain ⟨z, hz⟩ : ∃ z, l2[i + 1]? = some z := ⟨_, List.getElem?_eq_getElem (by rw [HL2.out]; omega)⟩
                have hzz := HZ2.out z (List.mem_of_getElem? hz)
                have HUZ := Lib.hid (cl_between x y z HU.out (sorted_get l2 HSO.out i (i + 1) x z HX.out hz (by omega)) (sorted_get l2 HSO.out (i + 1) k z y hz HY.out (by omega)))
                have HZE := Lib.hid hz
                have s1 : IntKind.i64.wrap ((i : Int) + 1) = (i : Int) + 1 := IntWalk.i64_in _ (by omega)
                have s2 : ((i : Int) + 1).toNat = i + 1 := by omega
                have s3 : (0 : Int) ≤ (i : Int) + 1 := by omega
                have s4 : (i : Int) + 1 < (n : Int) := by omega
                clear hz
                go_wp2_with fail
                refine (cmp_at x y hxz hyz _ T1.out _).mono ?_
                rintro e w6 ⟨rfl, hb⟩
                have hR6 := row_below HR2.out hb
                have hB6 := chn hB2 hb
                clear hb
                go_wp2_with fail
                refine (cmp_at y x hyz hxz _ T2.out _).mono ?_
                rintro e w7 ⟨rfl, hb⟩
                have hR7 := row_below hR6 hb
                have hB7 := chn hB6 hb
                clear hb hR6 hB6
                go_wp2_with fail
                refine (und_at y x hyz hxz _ HU.out _).mono ?_
                rintro e w8 ⟨rfl, hb⟩
                have hR8 := row_below hR7 hb
                have hB8 := chn hB7 hb
                clear hb hR7 hB7
                go_wp2_with fail
                refine (und_at y x hyz hxz _ HU.out _).mono ?_
                rintro e w9 ⟨rfl, hb⟩
                have hR9 := row_below hR8 hb
                have hB9 := chn hB8 hb
                clear hb hR8 hB8
                have hcz := row_cell hR9 (i + 1) z HZE.out
                go_wp2_with fail
                refine (und_at z x hzz hxz _ HUZ.out _).mono ?_
                rintro e w10 ⟨rfl, hb⟩
                have hR10 := row_below hR9 hb
                have hB10 := chn hB9 hb
                clear hb hR9 hB9
                go_wp2_with fail
                exact ⟨⟨k + 1, hkl, by go_num, hR10, hB10⟩, by simp [intOf]; omega⟩
            · have d1 : decide ((i : Int) < (k : Int)) = false := decide_eq_false (by omega)
              have d2 : decide (i < k) = false := decide_eq_false hik
              cases u
              · go_wp2_with fail
                refine (cmp_at x y hxz hyz _ T1.out _).mono ?_
                rintro e w6 ⟨rfl, hb⟩
                have hR6 := row_below HR2.out hb
                have hB6 := chn hB2 hb
                clear hb
                go_wp2_with fail
                refine (cmp_at y x hyz hxz _ T2.out _).mono ?_
                rintro e w7 ⟨rfl, hb⟩
                have hR7 := row_below hR6 hb
                have hB7 := chn hB6 hb
                clear hb hR6 hB6
                go_wp2_with fail
                refine (und_at y x hyz hxz _ HU.out _).mono ?_
                rintro e w8 ⟨rfl, hb⟩
                have hR8 := row_below hR7 hb
                have hB8 := chn hB7 hb
                clear hb hR7 hB7
                go_wp2_with fail
                refine (und_at y x hyz hxz _ HU.out _).mono ?_
                rintro e w9 ⟨rfl, hb⟩
                have hR9 := row_below hR8 hb
                have hB9 := chn hB8 hb
                clear hb hR8 hB8
                go_wp2_with fail
                exact ⟨⟨k + 1, hkl, by go_num, hR9, hB9⟩, by simp [intOf]; omega⟩
              · go_wp2_with fail
                refine (cmp_at x y hxz hyz _ T1.out _).mono ?_
                rintro e w6 ⟨rfl, hb⟩
                have hR6 := row_below HR2.out hb
                have hB6 := chn hB2 hb
                clear hb
                go_wp2_with fail
                refine (cmp_at y x hyz hxz _ T2.out _).mono ?_
                rintro e w7 ⟨rfl, hb⟩
                have hR7 := row_below hR6 hb
                have hB7 := chn hB6 hb
                clear hb hR6 hB6
                go_wp2_with fail
                refine (und_at y x hyz hxz _ HU.out _).mono ?_
                rintro e w8 ⟨rfl, hb⟩
                have hR8 := row_below hR7 hb
                have hB8 := chn hB7 hb
                clear hb hR7 hB7
                go_wp2_with fail
                refine (und_at y x hyz hxz _ HU.out _).mono ?_
                rintro e w9 ⟨rfl, hb⟩
                have hR9 := row_below hR8 hb
                have hB9 := chn hB8 hb
                clear hb hR8 hB8
                go_wp2_with fail
                exact ⟨⟨k + 1, hkl, by go_num, hR9, hB9⟩, by simp [intOf]; omega⟩
          · have T1 := Lib.hid t1
            have T2 := Lib.hid t2
            have T5 := Lib.hid t5
            have e1 : (x == y) = false := by simp [t3]
            have e2 : decide ((i : Int) < (k : Int)) = false := decide_eq_false (by omega)
            have e3 : decide (i < k) = false := decide_eq_false (by omega)
            clear t1 t2 t3 t5
            go_wp2_with fail
            refine (cmp_at x y hxz hyz _ T1.out _).mono ?_
            rintro e w6 ⟨rfl, hb⟩
            have hR6 := row_below HR2.out hb
            have hB6 := chn hB2 hb
            clear hb
            go_wp2_with fail
            refine (cmp_at y x hyz hxz _ T2.out _).mono ?_
            rintro e w7 ⟨rfl, hb⟩
            have hR7 := row_below hR6 hb
            have hB7 := chn hB6 hb
            clear hb hR6 hB6
            go_wp2_with fail
            refine (und_at y x hyz hxz _ T5.out _).mono ?_
            rintro e w8 ⟨rfl, hb⟩
            have hR8 := row_below hR7 hb
            have hB8 := chn hB7 hb
            clear hb hR7 hB7
            go_wp2_with fail
            refine (und_at y x hyz hxz _ T5.out _).mono ?_
            rintro e w9 ⟨rfl, hb⟩
            have hR9 := row_below hR8 hb
            have hB9 := chn hB8 hb
            clear hb hR8 hB8
            go_wp2_with fail
            exact ⟨⟨k + 1, hkl, by go_num, hR9, hB9⟩, by simp [intOf]; omega⟩
        · go_wp2
          exact ⟨⟨i + 1, hlt, by go_num, HR2, hB2⟩, by simp [intOf]; omega⟩
    · go_wp2
      go_ret
      exact ⟨rfl, hB1⟩

theorem order_any (v : Value) (l : List Str) (w : World) (h : ArgS w v l) : Calls Try.prog 8 #[v] w (TrueB w) := by
  by_cases h0 : fewL l = []
  · exact order_nil v l w h h0
  · exact order_some v l w h h0
end Go.Proofs.Ytjnmlhmlcbbafaa
