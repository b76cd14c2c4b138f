/- Proved here: HasNumber and PutNumber of puncheonref16. PutNumber of puncheonref16. SomeNumbers of puncheonref16; what it and PutNumber make is the set. Clone of numbers; numbers of puncheonlaw16: the sets of two of numbers are what the document says. -/
import Derived.Test.YtgmplpfbhcdofaaGreatGSet
import Derived.Test.YtgmplpfbhcdofaaGreatReg
import Derived.Deep.DeepCutAuto
import Derived.Shelf.Slices.Clone
namespace Go.Proofs.YtgmplpfbhcdofaaGreat
open Go.RowKit Go.Shelf Go.Lib
attribute [local go_sem] Oper.semAt_some

def ltK (x y : Int) : Bool := decide (y < x)
/-- A set in order, with one more. -/
def putI (l : List Int) (x : Int) : List Int := if hasI l x = true then l else l.takeWhile (ltK x) ++ x :: l.dropWhile (ltK x)
theorem putI_mem (l : List Int) (x y : Int) : y ∈ putI l x ↔ y ∈ l ∨ y = x := by
  unfold putI
  split
  · rename_i h
    rw [hasI_iff] at h
    constructor
    · exact .inl
    · rintro (h1 | rfl)
      · exact h1
      · exact h
  · have e : l.takeWhile (ltK x) ++ l.dropWhile (ltK x) = l := List.takeWhile_append_dropWhile
    have e2 : y ∈ l ↔ y ∈ l.takeWhile (ltK x) ∨ y ∈ l.dropWhile (ltK x) := by rw [← List.mem_append, e]
    rw [List.mem_append, List.mem_cons, e2]
    constructor
    · rintro (h | rfl | h)
      · exact .inl (.inl h)
      · exact .inr rfl
      · exact .inl (.inr h)
    · rintro ((h | h) | rfl)
      · exact .inl h
      · exact .inr (.inr h)
      · exact .inr (.inl rfl)
theorem upS_iff (l : List Int) : UpS leI l ↔ l.Pairwise (· < ·) := by
  unfold UpS
  constructor
  · exact fun h => h.imp (fun {a b} k => by have h1 : a ≤ b := by simpa [leI] using k.1
                                            have := k.2
                                            omega)
  · exact fun h => h.imp (fun {a b} k => ⟨by simp [leI]; omega, by omega⟩)
theorem putI_up {l : List Int} (h : UpS leI l) (x : Int) : UpS leI (putI l x) := by
  unfold putI
  split
  · exact h
  · rename_i hx
    rw [hasI_iff] at hx
    rw [upS_iff] at h ⊢
    have e : l.takeWhile (ltK x) ++ l.dropWhile (ltK x) = l := List.takeWhile_append_dropWhile
    rw [← e] at h
    obtain ⟨h1, h2, h3⟩ := List.pairwise_append.1 h
    have hT : ∀ y ∈ l.takeWhile (ltK x), y < x := fun y hy => by
      have := tw_mem hy
      simpa [ltK] using this
    have hD : ∀ y ∈ l.dropWhile (ltK x), x < y := by
      intro y hy
      cases ed : l.dropWhile (ltK x) with
      | nil => rw [ed] at hy; cases hy
      | cons z r =>
        have hz : ltK x z = false := by
          have := List.head?_dropWhile_not (ltK x) l
          rw [ed] at this
          simpa using this
        have hz2 : x < z := by
          have h5 : ¬ z < x := by simpa [ltK] using hz
          have h6 : z ≠ x := fun k => hx (by rw [← e, ed, ← k]; simp)
          omega
        rw [ed] at hy h2
        rcases List.mem_cons.1 hy with rfl | hy
        · exact hz2
        · have := (List.pairwise_cons.1 h2).1 y hy
          omega
    refine List.pairwise_append.2 ⟨h1, List.pairwise_cons.2 ⟨hD, h2⟩, ?_⟩
    intro a ha b hb
    rcases List.mem_cons.1 hb with rfl | hb
    · exact hT a ha
    · exact h3 a ha b hb
theorem putI_len (l : List Int) (x : Int) : (putI l x).length ≤ l.length + 1 := by
  unfold putI
  split
  · omega
  · have := congrArg List.length (List.takeWhile_append_dropWhile (p := ltK x) (l := l))
    rw [List.length_append] at this
    rw [List.length_append, List.length_cons]
    omega

set_option maxRecDepth 100000 in
set_option maxHeartbeats 2000000 in
theorem has_any (l : List Int) (x : Int) (v : Value) (w : World) (hv : Rd w v (intsV l)) (hl : l.length ≤ 1000000) : Calls Tryz.prog 50 #[v, .int .i64 x] w fun e w' => e = .returned (.bool (hasI l x)) ∧ w = w' := by
  have HV := Lib.hid hv
  obtain ⟨a, c, rfl, _⟩ := hv.open'
  rw [intsV_len] at HV ⊢
  obtain ⟨n, hn⟩ : ∃ n, n = l.length := ⟨_, rfl⟩
  rw [← hn] at HV hl ⊢
  have HN := Lib.hid hn
  clear hv hn
  go_enter Tryz.func50, Tryz.ntmps50
  go_wp2_with fail
  go_loopw [9] (fun i W => ∃ k : Nat, k ≤ n ∧ i = .int .i64 (k : Int) ∧ W = w ∧ Hid (∀ (j : Nat) (hj : j < l.length), j < k → l[j] ≠ x)) (fun i _ => n - (Lib.intOf i).toNat)
  case atStart => exact ⟨0, Nat.zero_le _, rfl, rfl, Lib.hid (fun j _ h => absurd h (Nat.not_lt_zero _))⟩
  case round =>
    obtain ⟨k, hk, rfl, rfl, HLo⟩ := hrel
    by_cases hlt : k < n
    · have hkl : k < l.length := by rw [← HN.out]; exact hlt
      obtain ⟨g, o, rfl, q0⟩ := int_at3 HV.out k hkl
      have k1 : (k : Int) < (n : Int) := by omega
      have k2 : (0 : Int) ≤ (k : Int) := by omega
      have k4 : IntKind.i64.wrap ((k : Int) + 1) = (k : Int) + 1 := IntWalk.i64_in _ (by omega)
      obtain ⟨y, hy⟩ : ∃ y, y = l[k] := ⟨_, rfl⟩
      rw [← hy] at q0
      by_cases he : y = x
      · have te : (y == x) = true := by simp [he]
        have HH : Hid (hasI l x = true) := Lib.hid (by rw [hasI_iff, ← he, hy]; exact List.getElem_mem _)
        clear hy he
        go_wp2_with fail
        go_ret
        exact ⟨by rw [HH.out]; rfl, rfl⟩
      · have te : (y == x) = false := by simpa using he
        have HE : Hid (∀ (j : Nat) (hj : j < l.length), j < k + 1 → l[j] ≠ x) := Lib.hid (fun j hj h => by
          rcases Nat.lt_or_ge j k with h2 | h2
          · exact HLo.out j hj h2
          · obtain rfl : j = k := by omega
            rw [← hy]
            exact he)
        clear hy he
        go_wp2_with fail
        go_roundw
        case rel => exact ⟨k + 1, by omega, by go_num, trivial, HE⟩
        case measure => simp [Lib.intOf]; omega
    · have k1 : ¬ ((k : Int) < (n : Int)) := by omega
      have HH : Hid (hasI l x = false) := Lib.hid (by
        rw [← Bool.not_eq_true, hasI_iff]
        intro hm
        obtain ⟨j, hj, e⟩ := List.getElem_of_mem hm
        exact HLo.out j hj (by rw [← HN.out] at hj; omega) e)
      go_wp2_with fail
      go_ret
      exact ⟨by rw [HH.out]; rfl, rfl⟩
end Go.Proofs.YtgmplpfbhcdofaaGreat

namespace Go.Proofs.YtgmplpfbhcdofaaGreat
open Go.RowKit Go.Shelf Go.Lib
attribute [local go_sem] Oper.semAt_some

theorem tw_of {p : Int → Bool} {l : List Int} {k : Nat} (h : ∀ (j : Nat) (hj : j < l.length), j < k → p l[j] = true) (hk : k ≤ l.length) (hs : k = l.length ∨ ∃ h : k < l.length, p l[k] = false) : l.takeWhile p = l.take k ∧ l.dropWhile p = l.drop k := by
  induction l generalizing k with
  | nil => simp
  | cons a l ih =>
    cases k with
    | zero =>
      rcases hs with hs | ⟨_, hs⟩
      · simp at hs
      · have : p a = false := by simpa using hs
        simp [this]
    | succ k =>
      have ha : p a = true := h 0 (by simp) (by omega)
      have := ih (k := k) (fun j hj hjk => h (j + 1) (by simpa using hj) (by omega)) (by simpa using hk) (by
        rcases hs with hs | ⟨h1, hs⟩
        · exact .inl (by simpa using hs)
        · exact .inr ⟨by simpa using h1, hs⟩)
      simp [ha, this.1, this.2]
theorem own_lit {B : Nat} (w : World) (l : List Int) (hB : B ≤ w.heap.size) (hl : l.length ≤ 1000000 := by simp) : (w.alloc (.cells (intsV l).toArray 3)).ownsRow B 3 1 (.slice (some ⟨w.heap.size, 0, none⟩) l.length l.length) l.length (intsV l) := by
  have := World.ownsRow_lit (base := B) (e := 3) (size := 1) w (intsV l).toArray l.length hB (by unfold maxLen; omega) (by simp [intsV_len])
  simpa using this
theorem Rd.off {w : World} {g n c k m d : Nat} {l : List Int} (h : Rd w (.slice (some ⟨g, 0, none⟩) n c) (intsV l)) (hk : k ≤ n) (hm : m = n - k) (hd : d = c - k) : Rd w (.slice (some ⟨g, k, none⟩) m d) (intsV (l.drop k)) := by
  obtain ⟨a', c', e, h1, h2, hn, h3⟩ := h
  cases e
  rw [intsV_len] at h1 h3 hk hm
  have el : (l.drop k).length = m := by rw [List.length_drop]; omega
  refine ⟨_, d, by rw [intsV_len, el], by rw [intsV_len, el]; omega, by omega, (fun e => by cases e), fun h0 => ?_⟩
  rw [intsV_len, el] at h0
  obtain ⟨g', o, e, hg, hc⟩ := h3 (by omega)
  cases e
  refine ⟨g, k, rfl, hg, fun j u hu => ?_⟩
  have e3 : intsV (l.drop k) = (intsV l).drop k := by simp [intsV, List.map_drop]
  rw [e3, List.getElem?_drop] at hu
  have := hc (k + j) u hu
  rwa [Nat.zero_add] at this
theorem step_append_int {op : Oper} {a : Act} {w : World} {K : Act → World → Prop} {Q : Exit → Act → World → Prop} {ops : Array Oper} {E : Prop} (hw : Region.wanted op (yielded ops a.tmps) = true) (s x : Operand)
    (ho : op.op = .call { callee := .builtin .append, args := #[s, x], argTypes := #[22, 22] }) (B : Nat) (v vx : Value) (l m : List Int) (hs : a.eval s = v) (hx : a.eval x = vx) (hown : w.ownsRow B 3 1 v l.length (intsV l)) (hsrc : Rd w vx (intsV m)) (hB : B ≤ w.heap.size)
    {r : List Int} (he : l ++ m = r) (hl : r.length ≤ 1000000) (h : ∀ v' w', w'.ownsRow B 3 1 v' r.length (intsV r) → w.grownBy w' v.ownBlock → K (a.put op.dst v') w') :
    if Region.wanted op (yielded ops a.tmps) = true then op.wp Tryz.prog a w K Q else E := by
  subst he
  rw [List.length_append] at hl
  rw [if_pos hw]
  obtain ⟨i0, hi, hz0, hz1, hz2⟩ := info_parts info3
  obtain ⟨ad, cap, rfl, hc1, hc2, hn, hc3⟩ := hsrc
  rw [intsV_len] at hc1 hc3 hx
  have hap : intsV (l ++ m) = intsV l ++ intsV m := by simp [intsV]
  cases ad with
  | none =>
    obtain ⟨hm0, rfl⟩ := hn rfl
    have hm : m = [] := by
      cases m with
      | nil => rfl
      | cons y t => simp [intsV] at hm0
    subst hm
    have hr := run_append_owned_none (P := Tryz.prog) w B 22 op.type 3 i0 1 Tryz.underlying22 hi v l.length (intsV l) hown
    unfold Oper.wp execOp
    simp only [ho, resolve, invoke, builtin, Sem.run_bind, Sem.run_pure, Result.andThen_ok, List.map_toArray, List.map_cons, List.map_nil, hs, hx, List.length_nil, hr]
    exact h v w (by rw [List.append_nil]; exact hown) ⟨rfl, rfl, rfl, Nat.le_refl _, fun _ _ _ => rfl⟩
  | some ad =>
    have hnews : ∀ (j : Nat) (y : Value), (intsV m)[j]? = some y → w.cell? (ad.add j) = some y := fun j y hy => by
      have hlt := (List.getElem?_eq_some_iff.1 hy).1
      rw [intsV_len] at hlt
      obtain ⟨g, o, e, _, hc⟩ := hc3 (by omega)
      cases e
      rw [addr_add]
      exact hc j y hy
    obtain ⟨v', w', hr, r2, r3, _, _⟩ := run_append_own_at (P := Tryz.prog) w B 22 op.type 3 i0 (.int .i64 0) 1 8 Tryz.underlying22 hi hz0 hz1 hz2 rfl (by decide) v l.length (intsV l) hown ad m.length cap (intsV m) (by rw [intsV_len, Nat.mul_one]) hnews (intsV_one m) (by unfold maxLen; omega) (by omega) hB
    unfold Oper.wp execOp
    simp only [ho, resolve, invoke, builtin, Sem.run_bind, Sem.run_pure, Result.andThen_ok, List.map_toArray, List.map_cons, List.map_nil, hs, hx, hr]
    exact h v' w' (by rw [List.length_append, hap]; exact r2) r3

set_option maxRecDepth 100000 in
set_option maxHeartbeats 4000000 in
theorem put_any (l : List Int) (x : Int) (v : Value) (w : World) (B : Nat) (hv : w.ownsRow B 3 1 v l.length (intsV l)) (hl : l.length ≤ 100000) : Calls Tryz.prog 26 #[v, .int .i64 x] w fun e w' =>
    ∃ v', e = .returned v' ∧ (hasI l x = true → v' = v) ∧ (hasI l x = false → w'.ownsRow w.heap.size 3 1 v' (putI l x).length (intsV (putI l x))) ∧ Below w.heap.size w w' := by
  have HH := Lib.hid (has_any l x v w (Rd.of_own hv) (by omega))
  have HV := Lib.hid (Rd.of_own hv)
  obtain ⟨a, c, rfl⟩ := own_slice hv
  have hsh : (a = none ∧ l.length = 0 ∧ c = 0) ∨ ∃ g, a = some ⟨g, 0, none⟩ := by
    rcases own_addr hv with ⟨h1, h2, h3⟩ | ⟨b, h1, _⟩
    · exact .inl ⟨h1, h2, h3⟩
    · exact .inr ⟨b, h1⟩
  have hcl : l.length ≤ c := by
    obtain ⟨_, _, e, h1, _⟩ := HV.out
    rw [intsV_len] at e h1
    cases e
    exact h1
  obtain ⟨n, hn⟩ : ∃ n, n = l.length := ⟨_, rfl⟩
  rw [← hn] at HH HV hsh hcl hl ⊢
  have HN := Lib.hid hn
  clear hv hn
  cases hh : hasI l x with
  | true =>
    have HI := Lib.hid hh
    rw [hh] at HH
    clear hh
    go_enter Tryz.func26, Tryz.ntmps26
    go_wp2_with (go_at_call 50; refine HH.out.mono ?_; rintro e w' ⟨rfl, rfl⟩)
    go_ret
    exact ⟨_, rfl, fun _ => rfl, (fun h => by cases h), Below.refl _ _⟩
  | false =>
    have HNH := Lib.hid hh
    rw [hh] at HH
    clear hh
    have HPL : Hid (putI l x = l.takeWhile (ltK x) ++ x :: l.dropWhile (ltK x)) := Lib.hid (by unfold putI; rw [if_neg (by rw [HNH.out]; decide)])
    go_enter Tryz.func26, Tryz.ntmps26
    go_wp2_with (go_at_call 50; refine HH.out.mono ?_; rintro e w' ⟨rfl, rfl⟩)
    go_loopw [5] (fun i W => ∃ k : Nat, k ≤ n ∧ i = .int .i64 (k : Int) ∧ w = W ∧ Hid (∀ (j : Nat) (hj : j < l.length), j < k → ltK x l[j] = true)) (fun i _ => n - (Lib.intOf i).toNat)
    case atStart => exact ⟨0, Nat.zero_le _, rfl, rfl, Lib.hid (fun j _ h => absurd h (Nat.not_lt_zero _))⟩
    case round =>
      obtain ⟨k, hk, rfl, hw0, HLo⟩ := hrel
      subst hw0
      have k2 : (0 : Int) ≤ (k : Int) := by omega
      by_cases hlt : k < n
      · have hkl : k < l.length := by rw [← HN.out]; exact hlt
        obtain ⟨g, o, rfl, q0⟩ := int_at3 HV.out k hkl
        have ho : o = 0 := by
          rcases hsh with ⟨h1, _⟩ | ⟨g', h1⟩
          · cases h1
          · cases h1; rfl
        subst ho
        rw [Nat.zero_add] at q0
        have k1 : (k : Int) < (n : Int) := by omega
        have k4 : IntKind.i64.wrap ((k : Int) + 1) = (k : Int) + 1 := IntWalk.i64_in _ (by omega)
        obtain ⟨y, hy⟩ : ∃ y, y = l[k] := ⟨_, rfl⟩
        rw [← hy] at q0
        by_cases he : y < x
        · have te : decide (y < x) = true := decide_eq_true he
          have HE : Hid (∀ (j : Nat) (hj : j < l.length), j < k + 1 → ltK x l[j] = true) := Lib.hid (fun j hj h => by
            rcases Nat.lt_or_ge j k with h2 | h2
            · exact HLo.out j hj h2
            · obtain rfl : j = k := by omega
              rw [← hy]
              exact te)
          clear hy he
          go_wp2_with fail
          go_roundw
          case rel => exact ⟨k + 1, by omega, by go_num, by first | rfl | trivial, HE⟩
          case measure => simp [Lib.intOf]; omega
        · have te : decide (y < x) = false := decide_eq_false he
          have HTW := Lib.hid (tw_of HLo.out (by omega) (.inr ⟨hkl, by rw [← hy]; exact te⟩))
          have s2 : (k : Int) ≤ (n : Int) := by omega
          have s3 : (n : Int) ≤ (c : Int) := by omega
          have s4 : (k : Int) ≤ (c : Int) := by omega
          have s5 : ¬ c = k := by omega
          have s6 : ¬ c = 0 := by omega
          have HTK : Hid (∀ W, Below w.heap.size w W → Rd W (.slice (some ⟨g, 0, none⟩) k c) (intsV (l.take k))) := Lib.hid (fun W hW => (HV.out.on hW).cut (by omega))
          have HDR : Hid (∀ W, Below w.heap.size w W → Rd W (.slice (some ⟨g, k, none⟩) (n - k) (c - k)) (intsV (l.drop k))) := Lib.hid (fun W hW => (HV.out.on hW).off (by omega) (by omega) (by omega))
          have HLK : Hid (k ≤ 100000 ∧ l.length ≤ 100000) := Lib.hid ⟨by omega, by rw [← HN.out]; exact hl⟩
          obtain ⟨R4, hR4⟩ : ∃ z, z = [] ++ l.take k := ⟨_, rfl⟩
          obtain ⟨R7, hR7⟩ : ∃ z, z = R4 ++ [x] := ⟨_, rfl⟩
          obtain ⟨R11, hR11⟩ : ∃ z, z = R7 ++ l.drop k := ⟨_, rfl⟩
          have HE4 : Hid ([] ++ l.take k = R4) := Lib.hid hR4.symm
          have HE7 : Hid (R4 ++ [x] = R7) := Lib.hid hR7.symm
          have HE11 : Hid (R7 ++ l.drop k = R11) := Lib.hid hR11.symm
          have HL4 : Hid (R4.length ≤ 1000000) := Lib.hid (by have := HN.out; rw [hR4]; simp <;> omega)
          have HL7 : Hid (R7.length ≤ 1000000) := Lib.hid (by have := HN.out; rw [hR7, hR4]; simp <;> omega)
          have HL11 : Hid (R11.length ≤ 1000000) := Lib.hid (by have := HN.out; rw [hR11, hR7, hR4]; simp <;> omega)
          have HPI : Hid (putI l x = R11) := Lib.hid (by rw [HPL.out, HTW.out.1, HTW.out.2, hR11, hR7, hR4]; simp)
          clear hR4 hR7 hR11
          clear hy he HTW HPL HLo
          go_upto_region 6 with fail
          go_cut [4] (fun p4 wx => ∃ a' c', p4 = .slice a' R11.length c' ∧ Hid (wx.ownsRow w.heap.size 3 1 (.slice a' R11.length c') R11.length (intsV R11)) ∧ Hid (Below w.heap.size w wx))
          case first =>
            rename_i J2 K2 hJ hK2
            obtain ⟨v0, hv0⟩ : ∃ q, q = World.drew w := ⟨_, rfl⟩
            refine wp_region_held_drew (S := fun w' => Below w.heap.size w w') (by kernel_rfl) (below_drewN (Below.refl _ _) 1) (fun hHeld => ?_)
            rw [← hv0] at hHeld ⊢
            clear hv0
            refine wpAnyH_take (i := 1) (oi := { dst := some 25, op := Op.move (Operand.tmp 0), type := 22, pos := "ref.go:52", after := #[], guard := none }) (v := ?_) rfl (by kernel_rfl) (by kernel_rfl) (by kernel_rfl) (fun _ _ _ h => h) (Or.inl ⟨by rfl, ?_⟩) hHeld ?_
            rotate_left
            · (intro w hSw; go_simp; try with_reducible rfl)
            (try simp only [Act.put, List.setIfInBounds_toArray, List.set_cons_zero, List.set_cons_succ])
            refine wpAnyH_take (i := 2) (oi := { dst := some 26, op := Op.move (Operand.tmp 5), type := 3, pos := "ref.go:52", after := #[], guard := none }) (v := ?_) rfl (by kernel_rfl) (by kernel_rfl) (by kernel_rfl) (fun _ _ _ h => h) (Or.inl ⟨by rfl, ?_⟩) hHeld ?_
            rotate_left
            · (intro w hSw; go_simp; try with_reducible rfl)
            (try simp only [Act.put, List.setIfInBounds_toArray, List.set_cons_zero, List.set_cons_succ])
            refine wpAnyH_take (i := 3) (oi := { dst := some 27, op := Op.slice 22 (Operand.tmp 25) none (some (Operand.tmp 26)) none, type := 22, pos := "ref.go:52", after := #[{ on := 1, ground := Ground.data }, { on := 2, ground := Ground.data }], guard := none }) (v := ?_) rfl (by kernel_rfl) (by kernel_rfl) (by kernel_rfl) (fun _ _ _ h => h) (Or.inl ⟨by rfl, ?_⟩) hHeld ?_
            rotate_left
            · (intro w hSw; go_simp; try with_reducible rfl)
            (try simp only [Act.put, List.setIfInBounds_toArray, List.set_cons_zero, List.set_cons_succ])
            refine wpAnyH_take (i := 5) (oi := { dst := some 29, op := Op.move (Operand.tmp 1), type := 3, pos := "ref.go:52", after := #[], guard := none }) (v := ?_) rfl (by kernel_rfl) (by kernel_rfl) (by kernel_rfl) (fun _ _ _ h => h) (Or.inl ⟨by rfl, ?_⟩) hHeld ?_
            rotate_left
            · (intro w hSw; go_simp; try with_reducible rfl)
            (try simp only [Act.put, List.setIfInBounds_toArray, List.set_cons_zero, List.set_cons_succ])
            refine wpAnyH_take (i := 8) (oi := { dst := some 32, op := Op.move (Operand.tmp 0), type := 22, pos := "ref.go:52", after := #[], guard := none }) (v := ?_) rfl (by kernel_rfl) (by kernel_rfl) (by kernel_rfl) (fun _ _ _ h => h) (Or.inl ⟨by rfl, ?_⟩) hHeld ?_
            rotate_left
            · (intro w hSw; go_simp; try with_reducible rfl)
            (try simp only [Act.put, List.setIfInBounds_toArray, List.set_cons_zero, List.set_cons_succ])
            refine wpAnyH_take (i := 9) (oi := { dst := some 33, op := Op.move (Operand.tmp 5), type := 3, pos := "ref.go:52", after := #[], guard := none }) (v := ?_) rfl (by kernel_rfl) (by kernel_rfl) (by kernel_rfl) (fun _ _ _ h => h) (Or.inl ⟨by rfl, ?_⟩) hHeld ?_
            rotate_left
            · (intro w hSw; go_simp; try with_reducible rfl)
            (try simp only [Act.put, List.setIfInBounds_toArray, List.set_cons_zero, List.set_cons_succ])
            refine wpAnyH_take (i := 10) (oi := { dst := some 34, op := Op.slice 22 (Operand.tmp 32) (some (Operand.tmp 33)) none none, type := 22, pos := "ref.go:52", after := #[{ on := 8, ground := Ground.data }, { on := 9, ground := Ground.data }], guard := none }) (v := ?_) rfl (by kernel_rfl) (by kernel_rfl) (by kernel_rfl) (fun _ _ _ h => h) (Or.inl ⟨by rfl, ?_⟩) hHeld ?_
            rotate_left
            · (intro w hSw; go_simp; try with_reducible rfl)
            (try simp only [Act.put, List.setIfInBounds_toArray, List.set_cons_zero, List.set_cons_succ])
            refine wpAnyH_ready (rs := [0, 6]) (by kernel_rfl) (by simp) (AllReadyH.cons (o := { dst := some 24, op := Op.buildSlice 22 0 #[], type := 22, pos := "ref.go:52", after := #[], guard := none }) rfl (fun K hK => ?_) (AllReadyH.cons (o := { dst := some 30, op := Op.buildSlice 22 1 #[(0, Operand.tmp 29)], type := 22, pos := "ref.go:52", after := #[{ on := 5, ground := Ground.data }], guard := none }) rfl (fun K hK => ?_) AllReadyH.nil))
            · go_simp
              obtain ⟨w_0_, hwn⟩ : ∃ z, z = v0.alloc (.cells #[] 3) := ⟨_, rfl⟩
              rw [← hwn]
              have hbn : Below v0.heap.size v0 w_0_ := by rw [hwn]; exact below_new _ _
              obtain ⟨g0, hg0⟩ : ∃ z, z = v0.heap.size := ⟨_, rfl⟩
              have H0 : Hid (w_0_.ownsRow w.heap.size 3 1 (.slice (some ⟨g0, 0, none⟩) 0 0) ([] : List Int).length (intsV [])) := Lib.hid (by rw [hwn, hg0]; exact own_lit v0 [] (hHeld.size))
              have H0p : Hid (g0 < w_0_.heap.size) := Lib.hid (by rw [hwn, hg0]; simp)
              rw [← hg0]
              refine hK.out _ _ (bch hHeld hbn) (fun hHeld => ?_)
              clear hwn hbn hg0 hK K
              (try simp only [Act.put, List.setIfInBounds_toArray, List.set_cons_zero, List.set_cons_succ])
              refine wpAnyH_ready (rs := [4, 6]) (by kernel_rfl) (by simp) (AllReadyH.cons (o := { dst := some 28, op := Op.call { callee := Callee.builtin Builtin.append, args := #[Operand.tmp 24, Operand.tmp 27], argTypes := #[22, 22] }, type := 22, pos := "ref.go:52", after := #[{ on := 0, ground := Ground.data }, { on := 3, ground := Ground.data }], guard := none }) rfl (fun K hK => ?_) (AllReadyH.cons (o := { dst := some 30, op := Op.buildSlice 22 1 #[(0, Operand.tmp 29)], type := 22, pos := "ref.go:52", after := #[{ on := 5, ground := Ground.data }], guard := none }) rfl (fun K hK => ?_) AllReadyH.nil))
              · refine step_append_int (by rfl) (.tmp 24) (.tmp 27) rfl w.heap.size (.slice (some ⟨g0, 0, none⟩) 0 0) _ ([]) (l.take k) rfl rfl H0.out (HTK.out w_0_ hHeld) hHeld.size (HE4.out) HL4.out ?_
                intro v4 w_0_4_ hown hgr
                have H4 := Lib.hid hown
                have hbn : Below w.heap.size w w_0_4_ := hHeld.grown hgr hHeld.size (fun r e => (own_in H0.out e).1)
                obtain ⟨a4, c4, rfl⟩ := own_slice hown
                refine hK _ _ hbn (fun hHeld => ?_)
                clear hown hgr hbn hK K
                (try simp only [Act.put, List.setIfInBounds_toArray, List.set_cons_zero, List.set_cons_succ])
                refine wpAnyH_ready (rs := [6]) (by kernel_rfl) (by simp) (AllReadyH.cons (o := { dst := some 30, op := Op.buildSlice 22 1 #[(0, Operand.tmp 29)], type := 22, pos := "ref.go:52", after := #[{ on := 5, ground := Ground.data }], guard := none }) rfl (fun K hK => ?_) AllReadyH.nil)
                · go_simp
                  obtain ⟨w_0_4_6_, hwn⟩ : ∃ z, z = w_0_4_.alloc (.cells #[.int .i64 x] 3) := ⟨_, rfl⟩
                  rw [← hwn]
                  have hbn : Below w_0_4_.heap.size w_0_4_ w_0_4_6_ := by rw [hwn]; exact below_new _ _
                  replace H4 := Lib.hid (own_on H4.out hbn)
                  obtain ⟨g6, hg6⟩ : ∃ z, z = w_0_4_.heap.size := ⟨_, rfl⟩
                  have H6 : Hid (w_0_4_6_.ownsRow w.heap.size 3 1 (.slice (some ⟨g6, 0, none⟩) 1 1) ([x] : List Int).length (intsV [x])) := Lib.hid (by rw [hwn, hg6]; exact own_lit w_0_4_ [x] (hHeld.size))
                  have H6p : Hid (g6 < w_0_4_6_.heap.size) := Lib.hid (by rw [hwn, hg6]; simp)
                  rw [← hg6]
                  refine hK.out _ _ (bch hHeld hbn) (fun hHeld => ?_)
                  clear hwn hbn hg6 hK K
                  (try simp only [Act.put, List.setIfInBounds_toArray, List.set_cons_zero, List.set_cons_succ])
                  refine wpAnyH_ready (rs := [7]) (by kernel_rfl) (by simp) (AllReadyH.cons (o := { dst := some 31, op := Op.call { callee := Callee.builtin Builtin.append, args := #[Operand.tmp 28, Operand.tmp 30], argTypes := #[22, 22] }, type := 22, pos := "ref.go:52", after := #[{ on := 4, ground := Ground.data }, { on := 6, ground := Ground.data }, { on := 4, ground := Ground.chain }], guard := none }) rfl (fun K hK => ?_) AllReadyH.nil)
                  · refine step_append_int (by rfl) (.tmp 28) (.tmp 30) rfl w.heap.size (.slice a4 R4.length c4) (.slice (some ⟨g6, 0, none⟩) 1 1) (R4) ([x]) rfl rfl H4.out (Rd.of_own H6.out) hHeld.size (HE7.out) HL7.out ?_
                    intro v7 w_0_4_6_7_ hown hgr
                    have H7 := Lib.hid hown
                    have hbn : Below w.heap.size w w_0_4_6_7_ := hHeld.grown hgr hHeld.size (fun r e => (own_in H4.out e).1)
                    obtain ⟨a7, c7, rfl⟩ := own_slice hown
                    refine hK _ _ hbn (fun hHeld => ?_)
                    clear hown hgr hbn hK K
                    (try simp only [Act.put, List.setIfInBounds_toArray, List.set_cons_zero, List.set_cons_succ])
                    refine wpAnyH_ready (rs := [11]) (by kernel_rfl) (by simp) (AllReadyH.cons (o := { dst := some 35, op := Op.call { callee := Callee.builtin Builtin.append, args := #[Operand.tmp 31, Operand.tmp 34], argTypes := #[22, 22] }, type := 22, pos := "ref.go:52", after := #[{ on := 7, ground := Ground.data }, { on := 10, ground := Ground.data }, { on := 7, ground := Ground.chain }], guard := none }) rfl (fun K hK => ?_) AllReadyH.nil)
                    · refine step_append_int (by rfl) (.tmp 31) (.tmp 34) rfl w.heap.size (.slice a7 R7.length c7) _ (R7) (l.drop k) rfl rfl H7.out (HDR.out w_0_4_6_7_ hHeld) hHeld.size (HE11.out) HL11.out ?_
                      intro v11 w_0_4_6_7_11_ hown hgr
                      have H11 := Lib.hid hown
                      have hbn : Below w.heap.size w w_0_4_6_7_11_ := hHeld.grown hgr hHeld.size (fun r e => (own_in H7.out e).1)
                      obtain ⟨a11, c11, rfl⟩ := own_slice hown
                      refine hK _ _ hbn (fun hHeld => ?_)
                      clear hown hgr hbn hK K
                      (try simp only [Act.put, List.setIfInBounds_toArray, List.set_cons_zero, List.set_cons_succ])
                      refine wpAnyH_take (i := 12) (oi := { dst := some 4, op := Op.assign (Operand.tmp 35), type := 22, pos := "ref.go:52", after := #[{ on := 11, ground := Ground.data }, { on := 11, ground := Ground.chain }, { on := 0, ground := Ground.phase }, { on := 1, ground := Ground.phase }, { on := 2, ground := Ground.phase }, { on := 3, ground := Ground.phase }, { on := 4, ground := Ground.phase }, { on := 5, ground := Ground.phase }, { on := 6, ground := Ground.phase }, { on := 7, ground := Ground.phase }, { on := 8, ground := Ground.phase }, { on := 9, ground := Ground.phase }, { on := 10, ground := Ground.phase }, { on := 11, ground := Ground.phase }], guard := none }) (v := ?_) rfl (by kernel_rfl) (by kernel_rfl) (by kernel_rfl) (fun _ _ _ h => h) (Or.inl ⟨by rfl, ?_⟩) hHeld ?_
                      rotate_left
                      · (intro w hSw; go_simp; try with_reducible rfl)
                      (try simp only [Act.put, List.setIfInBounds_toArray, List.set_cons_zero, List.set_cons_succ])
                      refine wpAnyH_done (by kernel_rfl) ?_ _
                      first | refine hK2 _ _ (Met.intro (hJ _ _ ?_)) | refine Met.intro (hJ _ _ ?_)
                      (repeat apply Exists.intro)
                      refine ⟨?_, rfl⟩
                      exact ⟨_, _, rfl, H11, Lib.hid hHeld⟩
              · go_simp
                obtain ⟨w_0_6_, hwn⟩ : ∃ z, z = w_0_.alloc (.cells #[.int .i64 x] 3) := ⟨_, rfl⟩
                rw [← hwn]
                have hbn : Below w_0_.heap.size w_0_ w_0_6_ := by rw [hwn]; exact below_new _ _
                replace H0 := Lib.hid (own_on H0.out hbn)
                obtain ⟨g6, hg6⟩ : ∃ z, z = w_0_.heap.size := ⟨_, rfl⟩
                have H6 : Hid (w_0_6_.ownsRow w.heap.size 3 1 (.slice (some ⟨g6, 0, none⟩) 1 1) ([x] : List Int).length (intsV [x])) := Lib.hid (by rw [hwn, hg6]; exact own_lit w_0_ [x] (hHeld.size))
                have HNE : Hid (g6 ≠ g0) := Lib.hid (fun e => by have := (H0p.out); omega)
                have H6p : Hid (g6 < w_0_6_.heap.size) := Lib.hid (by rw [hwn, hg6]; simp)
                rw [← hg6]
                refine hK.out _ _ (bch hHeld hbn) (fun hHeld => ?_)
                clear hwn hbn hg6 hK K
                (try simp only [Act.put, List.setIfInBounds_toArray, List.set_cons_zero, List.set_cons_succ])
                refine wpAnyH_ready (rs := [4]) (by kernel_rfl) (by simp) (AllReadyH.cons (o := { dst := some 28, op := Op.call { callee := Callee.builtin Builtin.append, args := #[Operand.tmp 24, Operand.tmp 27], argTypes := #[22, 22] }, type := 22, pos := "ref.go:52", after := #[{ on := 0, ground := Ground.data }, { on := 3, ground := Ground.data }], guard := none }) rfl (fun K hK => ?_) AllReadyH.nil)
                · refine step_append_int (by rfl) (.tmp 24) (.tmp 27) rfl w.heap.size (.slice (some ⟨g0, 0, none⟩) 0 0) _ ([]) (l.take k) rfl rfl H0.out (HTK.out w_0_6_ hHeld) hHeld.size (HE4.out) HL4.out ?_
                  intro v4 w_0_6_4_ hown hgr
                  have H4 := Lib.hid hown
                  have hbn : Below w.heap.size w w_0_6_4_ := hHeld.grown hgr hHeld.size (fun r e => (own_in H0.out e).1)
                  replace H6 := Lib.hid (own_grown H6.out hgr (fun r e e2 => by cases e; cases e2; exact HNE.out rfl))
                  obtain ⟨a4, c4, rfl⟩ := own_slice hown
                  refine hK _ _ hbn (fun hHeld => ?_)
                  clear hown hgr hbn hK K
                  (try simp only [Act.put, List.setIfInBounds_toArray, List.set_cons_zero, List.set_cons_succ])
                  refine wpAnyH_ready (rs := [7]) (by kernel_rfl) (by simp) (AllReadyH.cons (o := { dst := some 31, op := Op.call { callee := Callee.builtin Builtin.append, args := #[Operand.tmp 28, Operand.tmp 30], argTypes := #[22, 22] }, type := 22, pos := "ref.go:52", after := #[{ on := 4, ground := Ground.data }, { on := 6, ground := Ground.data }, { on := 4, ground := Ground.chain }], guard := none }) rfl (fun K hK => ?_) AllReadyH.nil)
                  · refine step_append_int (by rfl) (.tmp 28) (.tmp 30) rfl w.heap.size (.slice a4 R4.length c4) (.slice (some ⟨g6, 0, none⟩) 1 1) (R4) ([x]) rfl rfl H4.out (Rd.of_own H6.out) hHeld.size (HE7.out) HL7.out ?_
                    intro v7 w_0_6_4_7_ hown hgr
                    have H7 := Lib.hid hown
                    have hbn : Below w.heap.size w w_0_6_4_7_ := hHeld.grown hgr hHeld.size (fun r e => (own_in H4.out e).1)
                    obtain ⟨a7, c7, rfl⟩ := own_slice hown
                    refine hK _ _ hbn (fun hHeld => ?_)
                    clear hown hgr hbn hK K
                    (try simp only [Act.put, List.setIfInBounds_toArray, List.set_cons_zero, List.set_cons_succ])
                    refine wpAnyH_ready (rs := [11]) (by kernel_rfl) (by simp) (AllReadyH.cons (o := { dst := some 35, op := Op.call { callee := Callee.builtin Builtin.append, args := #[Operand.tmp 31, Operand.tmp 34], argTypes := #[22, 22] }, type := 22, pos := "ref.go:52", after := #[{ on := 7, ground := Ground.data }, { on := 10, ground := Ground.data }, { on := 7, ground := Ground.chain }], guard := none }) rfl (fun K hK => ?_) AllReadyH.nil)
                    · refine step_append_int (by rfl) (.tmp 31) (.tmp 34) rfl w.heap.size (.slice a7 R7.length c7) _ (R7) (l.drop k) rfl rfl H7.out (HDR.out w_0_6_4_7_ hHeld) hHeld.size (HE11.out) HL11.out ?_
                      intro v11 w_0_6_4_7_11_ hown hgr
                      have H11 := Lib.hid hown
                      have hbn : Below w.heap.size w w_0_6_4_7_11_ := hHeld.grown hgr hHeld.size (fun r e => (own_in H7.out e).1)
                      obtain ⟨a11, c11, rfl⟩ := own_slice hown
                      refine hK _ _ hbn (fun hHeld => ?_)
                      clear hown hgr hbn hK K
                      (try simp only [Act.put, List.setIfInBounds_toArray, List.set_cons_zero, List.set_cons_succ])
                      refine wpAnyH_take (i := 12) (oi := { dst := some 4, op := Op.assign (Operand.tmp 35), type := 22, pos := "ref.go:52", after := #[{ on := 11, ground := Ground.data }, { on := 11, ground := Ground.chain }, { on := 0, ground := Ground.phase }, { on := 1, ground := Ground.phase }, { on := 2, ground := Ground.phase }, { on := 3, ground := Ground.phase }, { on := 4, ground := Ground.phase }, { on := 5, ground := Ground.phase }, { on := 6, ground := Ground.phase }, { on := 7, ground := Ground.phase }, { on := 8, ground := Ground.phase }, { on := 9, ground := Ground.phase }, { on := 10, ground := Ground.phase }, { on := 11, ground := Ground.phase }], guard := none }) (v := ?_) rfl (by kernel_rfl) (by kernel_rfl) (by kernel_rfl) (fun _ _ _ h => h) (Or.inl ⟨by rfl, ?_⟩) hHeld ?_
                      rotate_left
                      · (intro w hSw; go_simp; try with_reducible rfl)
                      (try simp only [Act.put, List.setIfInBounds_toArray, List.set_cons_zero, List.set_cons_succ])
                      refine wpAnyH_done (by kernel_rfl) ?_ _
                      first | refine hK2 _ _ (Met.intro (hJ _ _ ?_)) | refine Met.intro (hJ _ _ ?_)
                      (repeat apply Exists.intro)
                      refine ⟨?_, rfl⟩
                      exact ⟨_, _, rfl, H11, Lib.hid hHeld⟩
            · go_simp
              obtain ⟨w_6_, hwn⟩ : ∃ z, z = v0.alloc (.cells #[.int .i64 x] 3) := ⟨_, rfl⟩
              rw [← hwn]
              have hbn : Below v0.heap.size v0 w_6_ := by rw [hwn]; exact below_new _ _
              obtain ⟨g6, hg6⟩ : ∃ z, z = v0.heap.size := ⟨_, rfl⟩
              have H6 : Hid (w_6_.ownsRow w.heap.size 3 1 (.slice (some ⟨g6, 0, none⟩) 1 1) ([x] : List Int).length (intsV [x])) := Lib.hid (by rw [hwn, hg6]; exact own_lit v0 [x] (hHeld.size))
              have H6p : Hid (g6 < w_6_.heap.size) := Lib.hid (by rw [hwn, hg6]; simp)
              rw [← hg6]
              refine hK.out _ _ (bch hHeld hbn) (fun hHeld => ?_)
              clear hwn hbn hg6 hK K
              (try simp only [Act.put, List.setIfInBounds_toArray, List.set_cons_zero, List.set_cons_succ])
              refine wpAnyH_ready (rs := [0]) (by kernel_rfl) (by simp) (AllReadyH.cons (o := { dst := some 24, op := Op.buildSlice 22 0 #[], type := 22, pos := "ref.go:52", after := #[], guard := none }) rfl (fun K hK => ?_) AllReadyH.nil)
              · go_simp
                obtain ⟨w_6_0_, hwn⟩ : ∃ z, z = w_6_.alloc (.cells #[] 3) := ⟨_, rfl⟩
                rw [← hwn]
                have hbn : Below w_6_.heap.size w_6_ w_6_0_ := by rw [hwn]; exact below_new _ _
                replace H6 := Lib.hid (own_on H6.out hbn)
                obtain ⟨g0, hg0⟩ : ∃ z, z = w_6_.heap.size := ⟨_, rfl⟩
                have H0 : Hid (w_6_0_.ownsRow w.heap.size 3 1 (.slice (some ⟨g0, 0, none⟩) 0 0) ([] : List Int).length (intsV [])) := Lib.hid (by rw [hwn, hg0]; exact own_lit w_6_ [] (hHeld.size))
                have HNE : Hid (g6 ≠ g0) := Lib.hid (fun e => by have := (H6p.out); omega)
                have H0p : Hid (g0 < w_6_0_.heap.size) := Lib.hid (by rw [hwn, hg0]; simp)
                rw [← hg0]
                refine hK.out _ _ (bch hHeld hbn) (fun hHeld => ?_)
                clear hwn hbn hg0 hK K
                (try simp only [Act.put, List.setIfInBounds_toArray, List.set_cons_zero, List.set_cons_succ])
                refine wpAnyH_ready (rs := [4]) (by kernel_rfl) (by simp) (AllReadyH.cons (o := { dst := some 28, op := Op.call { callee := Callee.builtin Builtin.append, args := #[Operand.tmp 24, Operand.tmp 27], argTypes := #[22, 22] }, type := 22, pos := "ref.go:52", after := #[{ on := 0, ground := Ground.data }, { on := 3, ground := Ground.data }], guard := none }) rfl (fun K hK => ?_) AllReadyH.nil)
                · refine step_append_int (by rfl) (.tmp 24) (.tmp 27) rfl w.heap.size (.slice (some ⟨g0, 0, none⟩) 0 0) _ ([]) (l.take k) rfl rfl H0.out (HTK.out w_6_0_ hHeld) hHeld.size (HE4.out) HL4.out ?_
                  intro v4 w_6_0_4_ hown hgr
                  have H4 := Lib.hid hown
                  have hbn : Below w.heap.size w w_6_0_4_ := hHeld.grown hgr hHeld.size (fun r e => (own_in H0.out e).1)
                  replace H6 := Lib.hid (own_grown H6.out hgr (fun r e e2 => by cases e; cases e2; exact HNE.out rfl))
                  obtain ⟨a4, c4, rfl⟩ := own_slice hown
                  refine hK _ _ hbn (fun hHeld => ?_)
                  clear hown hgr hbn hK K
                  (try simp only [Act.put, List.setIfInBounds_toArray, List.set_cons_zero, List.set_cons_succ])
                  refine wpAnyH_ready (rs := [7]) (by kernel_rfl) (by simp) (AllReadyH.cons (o := { dst := some 31, op := Op.call { callee := Callee.builtin Builtin.append, args := #[Operand.tmp 28, Operand.tmp 30], argTypes := #[22, 22] }, type := 22, pos := "ref.go:52", after := #[{ on := 4, ground := Ground.data }, { on := 6, ground := Ground.data }, { on := 4, ground := Ground.chain }], guard := none }) rfl (fun K hK => ?_) AllReadyH.nil)
                  · refine step_append_int (by rfl) (.tmp 28) (.tmp 30) rfl w.heap.size (.slice a4 R4.length c4) (.slice (some ⟨g6, 0, none⟩) 1 1) (R4) ([x]) rfl rfl H4.out (Rd.of_own H6.out) hHeld.size (HE7.out) HL7.out ?_
                    intro v7 w_6_0_4_7_ hown hgr
                    have H7 := Lib.hid hown
                    have hbn : Below w.heap.size w w_6_0_4_7_ := hHeld.grown hgr hHeld.size (fun r e => (own_in H4.out e).1)
                    obtain ⟨a7, c7, rfl⟩ := own_slice hown
                    refine hK _ _ hbn (fun hHeld => ?_)
                    clear hown hgr hbn hK K
                    (try simp only [Act.put, List.setIfInBounds_toArray, List.set_cons_zero, List.set_cons_succ])
                    refine wpAnyH_ready (rs := [11]) (by kernel_rfl) (by simp) (AllReadyH.cons (o := { dst := some 35, op := Op.call { callee := Callee.builtin Builtin.append, args := #[Operand.tmp 31, Operand.tmp 34], argTypes := #[22, 22] }, type := 22, pos := "ref.go:52", after := #[{ on := 7, ground := Ground.data }, { on := 10, ground := Ground.data }, { on := 7, ground := Ground.chain }], guard := none }) rfl (fun K hK => ?_) AllReadyH.nil)
                    · refine step_append_int (by rfl) (.tmp 31) (.tmp 34) rfl w.heap.size (.slice a7 R7.length c7) _ (R7) (l.drop k) rfl rfl H7.out (HDR.out w_6_0_4_7_ hHeld) hHeld.size (HE11.out) HL11.out ?_
                      intro v11 w_6_0_4_7_11_ hown hgr
                      have H11 := Lib.hid hown
                      have hbn : Below w.heap.size w w_6_0_4_7_11_ := hHeld.grown hgr hHeld.size (fun r e => (own_in H7.out e).1)
                      obtain ⟨a11, c11, rfl⟩ := own_slice hown
                      refine hK _ _ hbn (fun hHeld => ?_)
                      clear hown hgr hbn hK K
                      (try simp only [Act.put, List.setIfInBounds_toArray, List.set_cons_zero, List.set_cons_succ])
                      refine wpAnyH_take (i := 12) (oi := { dst := some 4, op := Op.assign (Operand.tmp 35), type := 22, pos := "ref.go:52", after := #[{ on := 11, ground := Ground.data }, { on := 11, ground := Ground.chain }, { on := 0, ground := Ground.phase }, { on := 1, ground := Ground.phase }, { on := 2, ground := Ground.phase }, { on := 3, ground := Ground.phase }, { on := 4, ground := Ground.phase }, { on := 5, ground := Ground.phase }, { on := 6, ground := Ground.phase }, { on := 7, ground := Ground.phase }, { on := 8, ground := Ground.phase }, { on := 9, ground := Ground.phase }, { on := 10, ground := Ground.phase }, { on := 11, ground := Ground.phase }], guard := none }) (v := ?_) rfl (by kernel_rfl) (by kernel_rfl) (by kernel_rfl) (fun _ _ _ h => h) (Or.inl ⟨by rfl, ?_⟩) hHeld ?_
                      rotate_left
                      · (intro w hSw; go_simp; try with_reducible rfl)
                      (try simp only [Act.put, List.setIfInBounds_toArray, List.set_cons_zero, List.set_cons_succ])
                      refine wpAnyH_done (by kernel_rfl) ?_ _
                      first | refine hK2 _ _ (Met.intro (hJ _ _ ?_)) | refine Met.intro (hJ _ _ ?_)
                      (repeat apply Exists.intro)
                      refine ⟨?_, rfl⟩
                      exact ⟨_, _, rfl, H11, Lib.hid hHeld⟩
          case rest =>
          obtain ⟨a', c', rfl, HOW, HBW⟩ := hcut
          go_wp2_with fail
          go_ret
          first | exact ⟨_, rfl, (fun h => by cases h), (fun _ => by rw [HPI.out]; exact HOW.out), HBW.out⟩ | exact ⟨_, rfl, by rw [HPI.out]; exact HOW.out, HBW.out⟩ | exact ⟨rfl, by rw [HPI.out]; exact HOW.out, HBW.out⟩

      · have k1 : ¬ ((k : Int) < (n : Int)) := by omega
        have hkn : k = n := by omega
        have HTW := Lib.hid (tw_of HLo.out (by rw [← HN.out]; omega) (.inl (by rw [← HN.out]; exact hkn)))
        subst hkn
        rcases hsh with ⟨rfl, hn0, hc0⟩ | ⟨g, rfl⟩
        · subst hn0
          subst hc0
          have hl0 : l = [] := List.eq_nil_of_length_eq_zero HN.out.symm
          have HTK : Hid (∀ W, Below w.heap.size w W → Rd W (.slice none 0 0) (intsV (l.take 0))) := Lib.hid (fun W hW => Rd.nil W)
          have HDR : Hid (∀ W, Below w.heap.size w W → Rd W (.slice none 0 0) (intsV (l.drop 0))) := Lib.hid (fun W hW => by rw [hl0]; exact Rd.nil W)
          obtain ⟨R4, hR4⟩ : ∃ z, z = [] ++ l.take 0 := ⟨_, rfl⟩
          obtain ⟨R7, hR7⟩ : ∃ z, z = R4 ++ [x] := ⟨_, rfl⟩
          obtain ⟨R11, hR11⟩ : ∃ z, z = R7 ++ l.drop 0 := ⟨_, rfl⟩
          have HE4 : Hid ([] ++ l.take 0 = R4) := Lib.hid hR4.symm
          have HE7 : Hid (R4 ++ [x] = R7) := Lib.hid hR7.symm
          have HE11 : Hid (R7 ++ l.drop 0 = R11) := Lib.hid hR11.symm
          have HL4 : Hid (R4.length ≤ 1000000) := Lib.hid (by have := HN.out; rw [hR4]; simp <;> omega)
          have HL7 : Hid (R7.length ≤ 1000000) := Lib.hid (by have := HN.out; rw [hR7, hR4]; simp <;> omega)
          have HL11 : Hid (R11.length ≤ 1000000) := Lib.hid (by have := HN.out; rw [hR11, hR7, hR4]; simp <;> omega)
          have HPI : Hid (putI l x = R11) := Lib.hid (by rw [HPL.out, HTW.out.1, HTW.out.2, hR11, hR7, hR4]; simp)
          clear hR4 hR7 hR11
          clear hl0 HTW HPL HLo k1 k2 hlt
          go_upto_region 6 with fail
          go_cut [4] (fun p4 wx => ∃ a' c', p4 = .slice a' R11.length c' ∧ Hid (wx.ownsRow w.heap.size 3 1 (.slice a' R11.length c') R11.length (intsV R11)) ∧ Hid (Below w.heap.size w wx))
          case first =>
            rename_i J2 K2 hJ hK2
            obtain ⟨v0, hv0⟩ : ∃ q, q = World.drew w := ⟨_, rfl⟩
            refine wp_region_held_drew (S := fun w' => Below w.heap.size w w') (by kernel_rfl) (below_drewN (Below.refl _ _) 1) (fun hHeld => ?_)
            rw [← hv0] at hHeld ⊢
            clear hv0
            refine wpAnyH_take (i := 1) (oi := { dst := some 25, op := Op.move (Operand.tmp 0), type := 22, pos := "ref.go:52", after := #[], guard := none }) (v := ?_) rfl (by kernel_rfl) (by kernel_rfl) (by kernel_rfl) (fun _ _ _ h => h) (Or.inl ⟨by rfl, ?_⟩) hHeld ?_
            rotate_left
            · (intro w hSw; go_simp; try with_reducible rfl)
            (try simp only [Act.put, List.setIfInBounds_toArray, List.set_cons_zero, List.set_cons_succ])
            refine wpAnyH_take (i := 2) (oi := { dst := some 26, op := Op.move (Operand.tmp 5), type := 3, pos := "ref.go:52", after := #[], guard := none }) (v := ?_) rfl (by kernel_rfl) (by kernel_rfl) (by kernel_rfl) (fun _ _ _ h => h) (Or.inl ⟨by rfl, ?_⟩) hHeld ?_
            rotate_left
            · (intro w hSw; go_simp; try with_reducible rfl)
            (try simp only [Act.put, List.setIfInBounds_toArray, List.set_cons_zero, List.set_cons_succ])
            refine wpAnyH_take (i := 3) (oi := { dst := some 27, op := Op.slice 22 (Operand.tmp 25) none (some (Operand.tmp 26)) none, type := 22, pos := "ref.go:52", after := #[{ on := 1, ground := Ground.data }, { on := 2, ground := Ground.data }], guard := none }) (v := ?_) rfl (by kernel_rfl) (by kernel_rfl) (by kernel_rfl) (fun _ _ _ h => h) (Or.inl ⟨by rfl, ?_⟩) hHeld ?_
            rotate_left
            · (intro w hSw; go_simp; try with_reducible rfl)
            (try simp only [Act.put, List.setIfInBounds_toArray, List.set_cons_zero, List.set_cons_succ])
            refine wpAnyH_take (i := 5) (oi := { dst := some 29, op := Op.move (Operand.tmp 1), type := 3, pos := "ref.go:52", after := #[], guard := none }) (v := ?_) rfl (by kernel_rfl) (by kernel_rfl) (by kernel_rfl) (fun _ _ _ h => h) (Or.inl ⟨by rfl, ?_⟩) hHeld ?_
            rotate_left
            · (intro w hSw; go_simp; try with_reducible rfl)
            (try simp only [Act.put, List.setIfInBounds_toArray, List.set_cons_zero, List.set_cons_succ])
            refine wpAnyH_take (i := 8) (oi := { dst := some 32, op := Op.move (Operand.tmp 0), type := 22, pos := "ref.go:52", after := #[], guard := none }) (v := ?_) rfl (by kernel_rfl) (by kernel_rfl) (by kernel_rfl) (fun _ _ _ h => h) (Or.inl ⟨by rfl, ?_⟩) hHeld ?_
            rotate_left
            · (intro w hSw; go_simp; try with_reducible rfl)
            (try simp only [Act.put, List.setIfInBounds_toArray, List.set_cons_zero, List.set_cons_succ])
            refine wpAnyH_take (i := 9) (oi := { dst := some 33, op := Op.move (Operand.tmp 5), type := 3, pos := "ref.go:52", after := #[], guard := none }) (v := ?_) rfl (by kernel_rfl) (by kernel_rfl) (by kernel_rfl) (fun _ _ _ h => h) (Or.inl ⟨by rfl, ?_⟩) hHeld ?_
            rotate_left
            · (intro w hSw; go_simp; try with_reducible rfl)
            (try simp only [Act.put, List.setIfInBounds_toArray, List.set_cons_zero, List.set_cons_succ])
            refine wpAnyH_take (i := 10) (oi := { dst := some 34, op := Op.slice 22 (Operand.tmp 32) (some (Operand.tmp 33)) none none, type := 22, pos := "ref.go:52", after := #[{ on := 8, ground := Ground.data }, { on := 9, ground := Ground.data }], guard := none }) (v := ?_) rfl (by kernel_rfl) (by kernel_rfl) (by kernel_rfl) (fun _ _ _ h => h) (Or.inl ⟨by rfl, ?_⟩) hHeld ?_
            rotate_left
            · (intro w hSw; go_simp; try with_reducible rfl)
            (try simp only [Act.put, List.setIfInBounds_toArray, List.set_cons_zero, List.set_cons_succ])
            refine wpAnyH_ready (rs := [0, 6]) (by kernel_rfl) (by simp) (AllReadyH.cons (o := { dst := some 24, op := Op.buildSlice 22 0 #[], type := 22, pos := "ref.go:52", after := #[], guard := none }) rfl (fun K hK => ?_) (AllReadyH.cons (o := { dst := some 30, op := Op.buildSlice 22 1 #[(0, Operand.tmp 29)], type := 22, pos := "ref.go:52", after := #[{ on := 5, ground := Ground.data }], guard := none }) rfl (fun K hK => ?_) AllReadyH.nil))
            · go_simp
              obtain ⟨w_0_, hwn⟩ : ∃ z, z = v0.alloc (.cells #[] 3) := ⟨_, rfl⟩
              rw [← hwn]
              have hbn : Below v0.heap.size v0 w_0_ := by rw [hwn]; exact below_new _ _
              obtain ⟨g0, hg0⟩ : ∃ z, z = v0.heap.size := ⟨_, rfl⟩
              have H0 : Hid (w_0_.ownsRow w.heap.size 3 1 (.slice (some ⟨g0, 0, none⟩) 0 0) ([] : List Int).length (intsV [])) := Lib.hid (by rw [hwn, hg0]; exact own_lit v0 [] (hHeld.size))
              have H0p : Hid (g0 < w_0_.heap.size) := Lib.hid (by rw [hwn, hg0]; simp)
              rw [← hg0]
              refine hK.out _ _ (bch hHeld hbn) (fun hHeld => ?_)
              clear hwn hbn hg0 hK K
              (try simp only [Act.put, List.setIfInBounds_toArray, List.set_cons_zero, List.set_cons_succ])
              refine wpAnyH_ready (rs := [4, 6]) (by kernel_rfl) (by simp) (AllReadyH.cons (o := { dst := some 28, op := Op.call { callee := Callee.builtin Builtin.append, args := #[Operand.tmp 24, Operand.tmp 27], argTypes := #[22, 22] }, type := 22, pos := "ref.go:52", after := #[{ on := 0, ground := Ground.data }, { on := 3, ground := Ground.data }], guard := none }) rfl (fun K hK => ?_) (AllReadyH.cons (o := { dst := some 30, op := Op.buildSlice 22 1 #[(0, Operand.tmp 29)], type := 22, pos := "ref.go:52", after := #[{ on := 5, ground := Ground.data }], guard := none }) rfl (fun K hK => ?_) AllReadyH.nil))
              · refine step_append_int (by rfl) (.tmp 24) (.tmp 27) rfl w.heap.size (.slice (some ⟨g0, 0, none⟩) 0 0) _ ([]) (l.take 0) rfl rfl H0.out (HTK.out w_0_ hHeld) hHeld.size (HE4.out) HL4.out ?_
                intro v4 w_0_4_ hown hgr
                have H4 := Lib.hid hown
                have hbn : Below w.heap.size w w_0_4_ := hHeld.grown hgr hHeld.size (fun r e => (own_in H0.out e).1)
                obtain ⟨a4, c4, rfl⟩ := own_slice hown
                refine hK _ _ hbn (fun hHeld => ?_)
                clear hown hgr hbn hK K
                (try simp only [Act.put, List.setIfInBounds_toArray, List.set_cons_zero, List.set_cons_succ])
                refine wpAnyH_ready (rs := [6]) (by kernel_rfl) (by simp) (AllReadyH.cons (o := { dst := some 30, op := Op.buildSlice 22 1 #[(0, Operand.tmp 29)], type := 22, pos := "ref.go:52", after := #[{ on := 5, ground := Ground.data }], guard := none }) rfl (fun K hK => ?_) AllReadyH.nil)
                · go_simp
                  obtain ⟨w_0_4_6_, hwn⟩ : ∃ z, z = w_0_4_.alloc (.cells #[.int .i64 x] 3) := ⟨_, rfl⟩
                  rw [← hwn]
                  have hbn : Below w_0_4_.heap.size w_0_4_ w_0_4_6_ := by rw [hwn]; exact below_new _ _
                  replace H4 := Lib.hid (own_on H4.out hbn)
                  obtain ⟨g6, hg6⟩ : ∃ z, z = w_0_4_.heap.size := ⟨_, rfl⟩
                  have H6 : Hid (w_0_4_6_.ownsRow w.heap.size 3 1 (.slice (some ⟨g6, 0, none⟩) 1 1) ([x] : List Int).length (intsV [x])) := Lib.hid (by rw [hwn, hg6]; exact own_lit w_0_4_ [x] (hHeld.size))
                  have H6p : Hid (g6 < w_0_4_6_.heap.size) := Lib.hid (by rw [hwn, hg6]; simp)
                  rw [← hg6]
                  refine hK.out _ _ (bch hHeld hbn) (fun hHeld => ?_)
                  clear hwn hbn hg6 hK K
                  (try simp only [Act.put, List.setIfInBounds_toArray, List.set_cons_zero, List.set_cons_succ])
                  refine wpAnyH_ready (rs := [7]) (by kernel_rfl) (by simp) (AllReadyH.cons (o := { dst := some 31, op := Op.call { callee := Callee.builtin Builtin.append, args := #[Operand.tmp 28, Operand.tmp 30], argTypes := #[22, 22] }, type := 22, pos := "ref.go:52", after := #[{ on := 4, ground := Ground.data }, { on := 6, ground := Ground.data }, { on := 4, ground := Ground.chain }], guard := none }) rfl (fun K hK => ?_) AllReadyH.nil)
                  · refine step_append_int (by rfl) (.tmp 28) (.tmp 30) rfl w.heap.size (.slice a4 R4.length c4) (.slice (some ⟨g6, 0, none⟩) 1 1) (R4) ([x]) rfl rfl H4.out (Rd.of_own H6.out) hHeld.size (HE7.out) HL7.out ?_
                    intro v7 w_0_4_6_7_ hown hgr
                    have H7 := Lib.hid hown
                    have hbn : Below w.heap.size w w_0_4_6_7_ := hHeld.grown hgr hHeld.size (fun r e => (own_in H4.out e).1)
                    obtain ⟨a7, c7, rfl⟩ := own_slice hown
                    refine hK _ _ hbn (fun hHeld => ?_)
                    clear hown hgr hbn hK K
                    (try simp only [Act.put, List.setIfInBounds_toArray, List.set_cons_zero, List.set_cons_succ])
                    refine wpAnyH_ready (rs := [11]) (by kernel_rfl) (by simp) (AllReadyH.cons (o := { dst := some 35, op := Op.call { callee := Callee.builtin Builtin.append, args := #[Operand.tmp 31, Operand.tmp 34], argTypes := #[22, 22] }, type := 22, pos := "ref.go:52", after := #[{ on := 7, ground := Ground.data }, { on := 10, ground := Ground.data }, { on := 7, ground := Ground.chain }], guard := none }) rfl (fun K hK => ?_) AllReadyH.nil)
                    · refine step_append_int (by rfl) (.tmp 31) (.tmp 34) rfl w.heap.size (.slice a7 R7.length c7) _ (R7) (l.drop 0) rfl rfl H7.out (HDR.out w_0_4_6_7_ hHeld) hHeld.size (HE11.out) HL11.out ?_
                      intro v11 w_0_4_6_7_11_ hown hgr
                      have H11 := Lib.hid hown
                      have hbn : Below w.heap.size w w_0_4_6_7_11_ := hHeld.grown hgr hHeld.size (fun r e => (own_in H7.out e).1)
                      obtain ⟨a11, c11, rfl⟩ := own_slice hown
                      refine hK _ _ hbn (fun hHeld => ?_)
                      clear hown hgr hbn hK K
                      (try simp only [Act.put, List.setIfInBounds_toArray, List.set_cons_zero, List.set_cons_succ])
                      refine wpAnyH_take (i := 12) (oi := { dst := some 4, op := Op.assign (Operand.tmp 35), type := 22, pos := "ref.go:52", after := #[{ on := 11, ground := Ground.data }, { on := 11, ground := Ground.chain }, { on := 0, ground := Ground.phase }, { on := 1, ground := Ground.phase }, { on := 2, ground := Ground.phase }, { on := 3, ground := Ground.phase }, { on := 4, ground := Ground.phase }, { on := 5, ground := Ground.phase }, { on := 6, ground := Ground.phase }, { on := 7, ground := Ground.phase }, { on := 8, ground := Ground.phase }, { on := 9, ground := Ground.phase }, { on := 10, ground := Ground.phase }, { on := 11, ground := Ground.phase }], guard := none }) (v := ?_) rfl (by kernel_rfl) (by kernel_rfl) (by kernel_rfl) (fun _ _ _ h => h) (Or.inl ⟨by rfl, ?_⟩) hHeld ?_
                      rotate_left
                      · (intro w hSw; go_simp; try with_reducible rfl)
                      (try simp only [Act.put, List.setIfInBounds_toArray, List.set_cons_zero, List.set_cons_succ])
                      refine wpAnyH_done (by kernel_rfl) ?_ _
                      first | refine hK2 _ _ (Met.intro (hJ _ _ ?_)) | refine Met.intro (hJ _ _ ?_)
                      (repeat apply Exists.intro)
                      refine ⟨?_, rfl⟩
                      exact ⟨_, _, rfl, H11, Lib.hid hHeld⟩
              · go_simp
                obtain ⟨w_0_6_, hwn⟩ : ∃ z, z = w_0_.alloc (.cells #[.int .i64 x] 3) := ⟨_, rfl⟩
                rw [← hwn]
                have hbn : Below w_0_.heap.size w_0_ w_0_6_ := by rw [hwn]; exact below_new _ _
                replace H0 := Lib.hid (own_on H0.out hbn)
                obtain ⟨g6, hg6⟩ : ∃ z, z = w_0_.heap.size := ⟨_, rfl⟩
                have H6 : Hid (w_0_6_.ownsRow w.heap.size 3 1 (.slice (some ⟨g6, 0, none⟩) 1 1) ([x] : List Int).length (intsV [x])) := Lib.hid (by rw [hwn, hg6]; exact own_lit w_0_ [x] (hHeld.size))
                have HNE : Hid (g6 ≠ g0) := Lib.hid (fun e => by have := (H0p.out); omega)
                have H6p : Hid (g6 < w_0_6_.heap.size) := Lib.hid (by rw [hwn, hg6]; simp)
                rw [← hg6]
                refine hK.out _ _ (bch hHeld hbn) (fun hHeld => ?_)
                clear hwn hbn hg6 hK K
                (try simp only [Act.put, List.setIfInBounds_toArray, List.set_cons_zero, List.set_cons_succ])
                refine wpAnyH_ready (rs := [4]) (by kernel_rfl) (by simp) (AllReadyH.cons (o := { dst := some 28, op := Op.call { callee := Callee.builtin Builtin.append, args := #[Operand.tmp 24, Operand.tmp 27], argTypes := #[22, 22] }, type := 22, pos := "ref.go:52", after := #[{ on := 0, ground := Ground.data }, { on := 3, ground := Ground.data }], guard := none }) rfl (fun K hK => ?_) AllReadyH.nil)
                · refine step_append_int (by rfl) (.tmp 24) (.tmp 27) rfl w.heap.size (.slice (some ⟨g0, 0, none⟩) 0 0) _ ([]) (l.take 0) rfl rfl H0.out (HTK.out w_0_6_ hHeld) hHeld.size (HE4.out) HL4.out ?_
                  intro v4 w_0_6_4_ hown hgr
                  have H4 := Lib.hid hown
                  have hbn : Below w.heap.size w w_0_6_4_ := hHeld.grown hgr hHeld.size (fun r e => (own_in H0.out e).1)
                  replace H6 := Lib.hid (own_grown H6.out hgr (fun r e e2 => by cases e; cases e2; exact HNE.out rfl))
                  obtain ⟨a4, c4, rfl⟩ := own_slice hown
                  refine hK _ _ hbn (fun hHeld => ?_)
                  clear hown hgr hbn hK K
                  (try simp only [Act.put, List.setIfInBounds_toArray, List.set_cons_zero, List.set_cons_succ])
                  refine wpAnyH_ready (rs := [7]) (by kernel_rfl) (by simp) (AllReadyH.cons (o := { dst := some 31, op := Op.call { callee := Callee.builtin Builtin.append, args := #[Operand.tmp 28, Operand.tmp 30], argTypes := #[22, 22] }, type := 22, pos := "ref.go:52", after := #[{ on := 4, ground := Ground.data }, { on := 6, ground := Ground.data }, { on := 4, ground := Ground.chain }], guard := none }) rfl (fun K hK => ?_) AllReadyH.nil)
                  · refine step_append_int (by rfl) (.tmp 28) (.tmp 30) rfl w.heap.size (.slice a4 R4.length c4) (.slice (some ⟨g6, 0, none⟩) 1 1) (R4) ([x]) rfl rfl H4.out (Rd.of_own H6.out) hHeld.size (HE7.out) HL7.out ?_
                    intro v7 w_0_6_4_7_ hown hgr
                    have H7 := Lib.hid hown
                    have hbn : Below w.heap.size w w_0_6_4_7_ := hHeld.grown hgr hHeld.size (fun r e => (own_in H4.out e).1)
                    obtain ⟨a7, c7, rfl⟩ := own_slice hown
                    refine hK _ _ hbn (fun hHeld => ?_)
                    clear hown hgr hbn hK K
                    (try simp only [Act.put, List.setIfInBounds_toArray, List.set_cons_zero, List.set_cons_succ])
                    refine wpAnyH_ready (rs := [11]) (by kernel_rfl) (by simp) (AllReadyH.cons (o := { dst := some 35, op := Op.call { callee := Callee.builtin Builtin.append, args := #[Operand.tmp 31, Operand.tmp 34], argTypes := #[22, 22] }, type := 22, pos := "ref.go:52", after := #[{ on := 7, ground := Ground.data }, { on := 10, ground := Ground.data }, { on := 7, ground := Ground.chain }], guard := none }) rfl (fun K hK => ?_) AllReadyH.nil)
                    · refine step_append_int (by rfl) (.tmp 31) (.tmp 34) rfl w.heap.size (.slice a7 R7.length c7) _ (R7) (l.drop 0) rfl rfl H7.out (HDR.out w_0_6_4_7_ hHeld) hHeld.size (HE11.out) HL11.out ?_
                      intro v11 w_0_6_4_7_11_ hown hgr
                      have H11 := Lib.hid hown
                      have hbn : Below w.heap.size w w_0_6_4_7_11_ := hHeld.grown hgr hHeld.size (fun r e => (own_in H7.out e).1)
                      obtain ⟨a11, c11, rfl⟩ := own_slice hown
                      refine hK _ _ hbn (fun hHeld => ?_)
                      clear hown hgr hbn hK K
                      (try simp only [Act.put, List.setIfInBounds_toArray, List.set_cons_zero, List.set_cons_succ])
                      refine wpAnyH_take (i := 12) (oi := { dst := some 4, op := Op.assign (Operand.tmp 35), type := 22, pos := "ref.go:52", after := #[{ on := 11, ground := Ground.data }, { on := 11, ground := Ground.chain }, { on := 0, ground := Ground.phase }, { on := 1, ground := Ground.phase }, { on := 2, ground := Ground.phase }, { on := 3, ground := Ground.phase }, { on := 4, ground := Ground.phase }, { on := 5, ground := Ground.phase }, { on := 6, ground := Ground.phase }, { on := 7, ground := Ground.phase }, { on := 8, ground := Ground.phase }, { on := 9, ground := Ground.phase }, { on := 10, ground := Ground.phase }, { on := 11, ground := Ground.phase }], guard := none }) (v := ?_) rfl (by kernel_rfl) (by kernel_rfl) (by kernel_rfl) (fun _ _ _ h => h) (Or.inl ⟨by rfl, ?_⟩) hHeld ?_
                      rotate_left
                      · (intro w hSw; go_simp; try with_reducible rfl)
                      (try simp only [Act.put, List.setIfInBounds_toArray, List.set_cons_zero, List.set_cons_succ])
                      refine wpAnyH_done (by kernel_rfl) ?_ _
                      first | refine hK2 _ _ (Met.intro (hJ _ _ ?_)) | refine Met.intro (hJ _ _ ?_)
                      (repeat apply Exists.intro)
                      refine ⟨?_, rfl⟩
                      exact ⟨_, _, rfl, H11, Lib.hid hHeld⟩
            · go_simp
              obtain ⟨w_6_, hwn⟩ : ∃ z, z = v0.alloc (.cells #[.int .i64 x] 3) := ⟨_, rfl⟩
              rw [← hwn]
              have hbn : Below v0.heap.size v0 w_6_ := by rw [hwn]; exact below_new _ _
              obtain ⟨g6, hg6⟩ : ∃ z, z = v0.heap.size := ⟨_, rfl⟩
              have H6 : Hid (w_6_.ownsRow w.heap.size 3 1 (.slice (some ⟨g6, 0, none⟩) 1 1) ([x] : List Int).length (intsV [x])) := Lib.hid (by rw [hwn, hg6]; exact own_lit v0 [x] (hHeld.size))
              have H6p : Hid (g6 < w_6_.heap.size) := Lib.hid (by rw [hwn, hg6]; simp)
              rw [← hg6]
              refine hK.out _ _ (bch hHeld hbn) (fun hHeld => ?_)
              clear hwn hbn hg6 hK K
              (try simp only [Act.put, List.setIfInBounds_toArray, List.set_cons_zero, List.set_cons_succ])
              refine wpAnyH_ready (rs := [0]) (by kernel_rfl) (by simp) (AllReadyH.cons (o := { dst := some 24, op := Op.buildSlice 22 0 #[], type := 22, pos := "ref.go:52", after := #[], guard := none }) rfl (fun K hK => ?_) AllReadyH.nil)
              · go_simp
                obtain ⟨w_6_0_, hwn⟩ : ∃ z, z = w_6_.alloc (.cells #[] 3) := ⟨_, rfl⟩
                rw [← hwn]
                have hbn : Below w_6_.heap.size w_6_ w_6_0_ := by rw [hwn]; exact below_new _ _
                replace H6 := Lib.hid (own_on H6.out hbn)
                obtain ⟨g0, hg0⟩ : ∃ z, z = w_6_.heap.size := ⟨_, rfl⟩
                have H0 : Hid (w_6_0_.ownsRow w.heap.size 3 1 (.slice (some ⟨g0, 0, none⟩) 0 0) ([] : List Int).length (intsV [])) := Lib.hid (by rw [hwn, hg0]; exact own_lit w_6_ [] (hHeld.size))
                have HNE : Hid (g6 ≠ g0) := Lib.hid (fun e => by have := (H6p.out); omega)
                have H0p : Hid (g0 < w_6_0_.heap.size) := Lib.hid (by rw [hwn, hg0]; simp)
                rw [← hg0]
                refine hK.out _ _ (bch hHeld hbn) (fun hHeld => ?_)
                clear hwn hbn hg0 hK K
                (try simp only [Act.put, List.setIfInBounds_toArray, List.set_cons_zero, List.set_cons_succ])
                refine wpAnyH_ready (rs := [4]) (by kernel_rfl) (by simp) (AllReadyH.cons (o := { dst := some 28, op := Op.call { callee := Callee.builtin Builtin.append, args := #[Operand.tmp 24, Operand.tmp 27], argTypes := #[22, 22] }, type := 22, pos := "ref.go:52", after := #[{ on := 0, ground := Ground.data }, { on := 3, ground := Ground.data }], guard := none }) rfl (fun K hK => ?_) AllReadyH.nil)
                · refine step_append_int (by rfl) (.tmp 24) (.tmp 27) rfl w.heap.size (.slice (some ⟨g0, 0, none⟩) 0 0) _ ([]) (l.take 0) rfl rfl H0.out (HTK.out w_6_0_ hHeld) hHeld.size (HE4.out) HL4.out ?_
                  intro v4 w_6_0_4_ hown hgr
                  have H4 := Lib.hid hown
                  have hbn : Below w.heap.size w w_6_0_4_ := hHeld.grown hgr hHeld.size (fun r e => (own_in H0.out e).1)
                  replace H6 := Lib.hid (own_grown H6.out hgr (fun r e e2 => by cases e; cases e2; exact HNE.out rfl))
                  obtain ⟨a4, c4, rfl⟩ := own_slice hown
                  refine hK _ _ hbn (fun hHeld => ?_)
                  clear hown hgr hbn hK K
                  (try simp only [Act.put, List.setIfInBounds_toArray, List.set_cons_zero, List.set_cons_succ])
                  refine wpAnyH_ready (rs := [7]) (by kernel_rfl) (by simp) (AllReadyH.cons (o := { dst := some 31, op := Op.call { callee := Callee.builtin Builtin.append, args := #[Operand.tmp 28, Operand.tmp 30], argTypes := #[22, 22] }, type := 22, pos := "ref.go:52", after := #[{ on := 4, ground := Ground.data }, { on := 6, ground := Ground.data }, { on := 4, ground := Ground.chain }], guard := none }) rfl (fun K hK => ?_) AllReadyH.nil)
                  · refine step_append_int (by rfl) (.tmp 28) (.tmp 30) rfl w.heap.size (.slice a4 R4.length c4) (.slice (some ⟨g6, 0, none⟩) 1 1) (R4) ([x]) rfl rfl H4.out (Rd.of_own H6.out) hHeld.size (HE7.out) HL7.out ?_
                    intro v7 w_6_0_4_7_ hown hgr
                    have H7 := Lib.hid hown
                    have hbn : Below w.heap.size w w_6_0_4_7_ := hHeld.grown hgr hHeld.size (fun r e => (own_in H4.out e).1)
                    obtain ⟨a7, c7, rfl⟩ := own_slice hown
                    refine hK _ _ hbn (fun hHeld => ?_)
                    clear hown hgr hbn hK K
                    (try simp only [Act.put, List.setIfInBounds_toArray, List.set_cons_zero, List.set_cons_succ])
                    refine wpAnyH_ready (rs := [11]) (by kernel_rfl) (by simp) (AllReadyH.cons (o := { dst := some 35, op := Op.call { callee := Callee.builtin Builtin.append, args := #[Operand.tmp 31, Operand.tmp 34], argTypes := #[22, 22] }, type := 22, pos := "ref.go:52", after := #[{ on := 7, ground := Ground.data }, { on := 10, ground := Ground.data }, { on := 7, ground := Ground.chain }], guard := none }) rfl (fun K hK => ?_) AllReadyH.nil)
                    · refine step_append_int (by rfl) (.tmp 31) (.tmp 34) rfl w.heap.size (.slice a7 R7.length c7) _ (R7) (l.drop 0) rfl rfl H7.out (HDR.out w_6_0_4_7_ hHeld) hHeld.size (HE11.out) HL11.out ?_
                      intro v11 w_6_0_4_7_11_ hown hgr
                      have H11 := Lib.hid hown
                      have hbn : Below w.heap.size w w_6_0_4_7_11_ := hHeld.grown hgr hHeld.size (fun r e => (own_in H7.out e).1)
                      obtain ⟨a11, c11, rfl⟩ := own_slice hown
                      refine hK _ _ hbn (fun hHeld => ?_)
                      clear hown hgr hbn hK K
                      (try simp only [Act.put, List.setIfInBounds_toArray, List.set_cons_zero, List.set_cons_succ])
                      refine wpAnyH_take (i := 12) (oi := { dst := some 4, op := Op.assign (Operand.tmp 35), type := 22, pos := "ref.go:52", after := #[{ on := 11, ground := Ground.data }, { on := 11, ground := Ground.chain }, { on := 0, ground := Ground.phase }, { on := 1, ground := Ground.phase }, { on := 2, ground := Ground.phase }, { on := 3, ground := Ground.phase }, { on := 4, ground := Ground.phase }, { on := 5, ground := Ground.phase }, { on := 6, ground := Ground.phase }, { on := 7, ground := Ground.phase }, { on := 8, ground := Ground.phase }, { on := 9, ground := Ground.phase }, { on := 10, ground := Ground.phase }, { on := 11, ground := Ground.phase }], guard := none }) (v := ?_) rfl (by kernel_rfl) (by kernel_rfl) (by kernel_rfl) (fun _ _ _ h => h) (Or.inl ⟨by rfl, ?_⟩) hHeld ?_
                      rotate_left
                      · (intro w hSw; go_simp; try with_reducible rfl)
                      (try simp only [Act.put, List.setIfInBounds_toArray, List.set_cons_zero, List.set_cons_succ])
                      refine wpAnyH_done (by kernel_rfl) ?_ _
                      first | refine hK2 _ _ (Met.intro (hJ _ _ ?_)) | refine Met.intro (hJ _ _ ?_)
                      (repeat apply Exists.intro)
                      refine ⟨?_, rfl⟩
                      exact ⟨_, _, rfl, H11, Lib.hid hHeld⟩
          case rest =>
          obtain ⟨a', c', rfl, HOW, HBW⟩ := hcut
          go_wp2_with fail
          go_ret
          first | exact ⟨_, rfl, (fun h => by cases h), (fun _ => by rw [HPI.out]; exact HOW.out), HBW.out⟩ | exact ⟨_, rfl, by rw [HPI.out]; exact HOW.out, HBW.out⟩ | exact ⟨rfl, by rw [HPI.out]; exact HOW.out, HBW.out⟩

        · by_cases hck : c = k
          · subst hck
            have HTK : Hid (∀ W, Below w.heap.size w W → Rd W (.slice (some ⟨g, 0, none⟩) c c) (intsV (l.take c))) := Lib.hid (fun W hW => (HV.out.on hW).cut (Nat.le_refl _))
            have HDR : Hid (∀ W, Below w.heap.size w W → Rd W (.slice (some ⟨g, 0, none⟩) 0 0) (intsV (l.drop c))) := Lib.hid (fun W hW => by
              have e0 : l.drop c = [] := List.drop_of_length_le (by rw [← HN.out]; exact Nat.le_refl _)
              rw [e0]
              exact ⟨_, 0, rfl, Nat.le_refl _, Nat.zero_le _, (fun e => by cases e), fun h => absurd h (Nat.lt_irrefl _)⟩)
            obtain ⟨R4, hR4⟩ : ∃ z, z = [] ++ l.take c := ⟨_, rfl⟩
            obtain ⟨R7, hR7⟩ : ∃ z, z = R4 ++ [x] := ⟨_, rfl⟩
            obtain ⟨R11, hR11⟩ : ∃ z, z = R7 ++ l.drop c := ⟨_, rfl⟩
            have HE4 : Hid ([] ++ l.take c = R4) := Lib.hid hR4.symm
            have HE7 : Hid (R4 ++ [x] = R7) := Lib.hid hR7.symm
            have HE11 : Hid (R7 ++ l.drop c = R11) := Lib.hid hR11.symm
            have HL4 : Hid (R4.length ≤ 1000000) := Lib.hid (by have := HN.out; rw [hR4]; simp <;> omega)
            have HL7 : Hid (R7.length ≤ 1000000) := Lib.hid (by have := HN.out; rw [hR7, hR4]; simp <;> omega)
            have HL11 : Hid (R11.length ≤ 1000000) := Lib.hid (by have := HN.out; rw [hR11, hR7, hR4]; simp <;> omega)
            have HPI : Hid (putI l x = R11) := Lib.hid (by rw [HPL.out, HTW.out.1, HTW.out.2, hR11, hR7, hR4]; simp)
            clear hR4 hR7 hR11
            clear HTW HPL HLo
            go_upto_region 6 with fail
            go_cut [4] (fun p4 wx => ∃ a' c', p4 = .slice a' R11.length c' ∧ Hid (wx.ownsRow w.heap.size 3 1 (.slice a' R11.length c') R11.length (intsV R11)) ∧ Hid (Below w.heap.size w wx))
            case first =>
              rename_i J2 K2 hJ hK2
              obtain ⟨v0, hv0⟩ : ∃ q, q = World.drew w := ⟨_, rfl⟩
              refine wp_region_held_drew (S := fun w' => Below w.heap.size w w') (by kernel_rfl) (below_drewN (Below.refl _ _) 1) (fun hHeld => ?_)
              rw [← hv0] at hHeld ⊢
              clear hv0
              refine wpAnyH_take (i := 1) (oi := { dst := some 25, op := Op.move (Operand.tmp 0), type := 22, pos := "ref.go:52", after := #[], guard := none }) (v := ?_) rfl (by kernel_rfl) (by kernel_rfl) (by kernel_rfl) (fun _ _ _ h => h) (Or.inl ⟨by rfl, ?_⟩) hHeld ?_
              rotate_left
              · (intro w hSw; go_simp; try with_reducible rfl)
              (try simp only [Act.put, List.setIfInBounds_toArray, List.set_cons_zero, List.set_cons_succ])
              refine wpAnyH_take (i := 2) (oi := { dst := some 26, op := Op.move (Operand.tmp 5), type := 3, pos := "ref.go:52", after := #[], guard := none }) (v := ?_) rfl (by kernel_rfl) (by kernel_rfl) (by kernel_rfl) (fun _ _ _ h => h) (Or.inl ⟨by rfl, ?_⟩) hHeld ?_
              rotate_left
              · (intro w hSw; go_simp; try with_reducible rfl)
              (try simp only [Act.put, List.setIfInBounds_toArray, List.set_cons_zero, List.set_cons_succ])
              refine wpAnyH_take (i := 3) (oi := { dst := some 27, op := Op.slice 22 (Operand.tmp 25) none (some (Operand.tmp 26)) none, type := 22, pos := "ref.go:52", after := #[{ on := 1, ground := Ground.data }, { on := 2, ground := Ground.data }], guard := none }) (v := ?_) rfl (by kernel_rfl) (by kernel_rfl) (by kernel_rfl) (fun _ _ _ h => h) (Or.inl ⟨by rfl, ?_⟩) hHeld ?_
              rotate_left
              · (intro w hSw; go_simp; try with_reducible rfl)
              (try simp only [Act.put, List.setIfInBounds_toArray, List.set_cons_zero, List.set_cons_succ])
              refine wpAnyH_take (i := 5) (oi := { dst := some 29, op := Op.move (Operand.tmp 1), type := 3, pos := "ref.go:52", after := #[], guard := none }) (v := ?_) rfl (by kernel_rfl) (by kernel_rfl) (by kernel_rfl) (fun _ _ _ h => h) (Or.inl ⟨by rfl, ?_⟩) hHeld ?_
              rotate_left
              · (intro w hSw; go_simp; try with_reducible rfl)
              (try simp only [Act.put, List.setIfInBounds_toArray, List.set_cons_zero, List.set_cons_succ])
              refine wpAnyH_take (i := 8) (oi := { dst := some 32, op := Op.move (Operand.tmp 0), type := 22, pos := "ref.go:52", after := #[], guard := none }) (v := ?_) rfl (by kernel_rfl) (by kernel_rfl) (by kernel_rfl) (fun _ _ _ h => h) (Or.inl ⟨by rfl, ?_⟩) hHeld ?_
              rotate_left
              · (intro w hSw; go_simp; try with_reducible rfl)
              (try simp only [Act.put, List.setIfInBounds_toArray, List.set_cons_zero, List.set_cons_succ])
              refine wpAnyH_take (i := 9) (oi := { dst := some 33, op := Op.move (Operand.tmp 5), type := 3, pos := "ref.go:52", after := #[], guard := none }) (v := ?_) rfl (by kernel_rfl) (by kernel_rfl) (by kernel_rfl) (fun _ _ _ h => h) (Or.inl ⟨by rfl, ?_⟩) hHeld ?_
              rotate_left
              · (intro w hSw; go_simp; try with_reducible rfl)
              (try simp only [Act.put, List.setIfInBounds_toArray, List.set_cons_zero, List.set_cons_succ])
              refine wpAnyH_take (i := 10) (oi := { dst := some 34, op := Op.slice 22 (Operand.tmp 32) (some (Operand.tmp 33)) none none, type := 22, pos := "ref.go:52", after := #[{ on := 8, ground := Ground.data }, { on := 9, ground := Ground.data }], guard := none }) (v := ?_) rfl (by kernel_rfl) (by kernel_rfl) (by kernel_rfl) (fun _ _ _ h => h) (Or.inl ⟨by rfl, ?_⟩) hHeld ?_
              rotate_left
              · (intro w hSw; go_simp; try with_reducible rfl)
              (try simp only [Act.put, List.setIfInBounds_toArray, List.set_cons_zero, List.set_cons_succ])
              refine wpAnyH_ready (rs := [0, 6]) (by kernel_rfl) (by simp) (AllReadyH.cons (o := { dst := some 24, op := Op.buildSlice 22 0 #[], type := 22, pos := "ref.go:52", after := #[], guard := none }) rfl (fun K hK => ?_) (AllReadyH.cons (o := { dst := some 30, op := Op.buildSlice 22 1 #[(0, Operand.tmp 29)], type := 22, pos := "ref.go:52", after := #[{ on := 5, ground := Ground.data }], guard := none }) rfl (fun K hK => ?_) AllReadyH.nil))
              · go_simp
                obtain ⟨w_0_, hwn⟩ : ∃ z, z = v0.alloc (.cells #[] 3) := ⟨_, rfl⟩
                rw [← hwn]
                have hbn : Below v0.heap.size v0 w_0_ := by rw [hwn]; exact below_new _ _
                obtain ⟨g0, hg0⟩ : ∃ z, z = v0.heap.size := ⟨_, rfl⟩
                have H0 : Hid (w_0_.ownsRow w.heap.size 3 1 (.slice (some ⟨g0, 0, none⟩) 0 0) ([] : List Int).length (intsV [])) := Lib.hid (by rw [hwn, hg0]; exact own_lit v0 [] (hHeld.size))
                have H0p : Hid (g0 < w_0_.heap.size) := Lib.hid (by rw [hwn, hg0]; simp)
                rw [← hg0]
                refine hK.out _ _ (bch hHeld hbn) (fun hHeld => ?_)
                clear hwn hbn hg0 hK K
                (try simp only [Act.put, List.setIfInBounds_toArray, List.set_cons_zero, List.set_cons_succ])
                refine wpAnyH_ready (rs := [4, 6]) (by kernel_rfl) (by simp) (AllReadyH.cons (o := { dst := some 28, op := Op.call { callee := Callee.builtin Builtin.append, args := #[Operand.tmp 24, Operand.tmp 27], argTypes := #[22, 22] }, type := 22, pos := "ref.go:52", after := #[{ on := 0, ground := Ground.data }, { on := 3, ground := Ground.data }], guard := none }) rfl (fun K hK => ?_) (AllReadyH.cons (o := { dst := some 30, op := Op.buildSlice 22 1 #[(0, Operand.tmp 29)], type := 22, pos := "ref.go:52", after := #[{ on := 5, ground := Ground.data }], guard := none }) rfl (fun K hK => ?_) AllReadyH.nil))
                · refine step_append_int (by rfl) (.tmp 24) (.tmp 27) rfl w.heap.size (.slice (some ⟨g0, 0, none⟩) 0 0) _ ([]) (l.take c) rfl rfl H0.out (HTK.out w_0_ hHeld) hHeld.size (HE4.out) HL4.out ?_
                  intro v4 w_0_4_ hown hgr
                  have H4 := Lib.hid hown
                  have hbn : Below w.heap.size w w_0_4_ := hHeld.grown hgr hHeld.size (fun r e => (own_in H0.out e).1)
                  obtain ⟨a4, c4, rfl⟩ := own_slice hown
                  refine hK _ _ hbn (fun hHeld => ?_)
                  clear hown hgr hbn hK K
                  (try simp only [Act.put, List.setIfInBounds_toArray, List.set_cons_zero, List.set_cons_succ])
                  refine wpAnyH_ready (rs := [6]) (by kernel_rfl) (by simp) (AllReadyH.cons (o := { dst := some 30, op := Op.buildSlice 22 1 #[(0, Operand.tmp 29)], type := 22, pos := "ref.go:52", after := #[{ on := 5, ground := Ground.data }], guard := none }) rfl (fun K hK => ?_) AllReadyH.nil)
                  · go_simp
                    obtain ⟨w_0_4_6_, hwn⟩ : ∃ z, z = w_0_4_.alloc (.cells #[.int .i64 x] 3) := ⟨_, rfl⟩
                    rw [← hwn]
                    have hbn : Below w_0_4_.heap.size w_0_4_ w_0_4_6_ := by rw [hwn]; exact below_new _ _
                    replace H4 := Lib.hid (own_on H4.out hbn)
                    obtain ⟨g6, hg6⟩ : ∃ z, z = w_0_4_.heap.size := ⟨_, rfl⟩
                    have H6 : Hid (w_0_4_6_.ownsRow w.heap.size 3 1 (.slice (some ⟨g6, 0, none⟩) 1 1) ([x] : List Int).length (intsV [x])) := Lib.hid (by rw [hwn, hg6]; exact own_lit w_0_4_ [x] (hHeld.size))
                    have H6p : Hid (g6 < w_0_4_6_.heap.size) := Lib.hid (by rw [hwn, hg6]; simp)
                    rw [← hg6]
                    refine hK.out _ _ (bch hHeld hbn) (fun hHeld => ?_)
                    clear hwn hbn hg6 hK K
                    (try simp only [Act.put, List.setIfInBounds_toArray, List.set_cons_zero, List.set_cons_succ])
                    refine wpAnyH_ready (rs := [7]) (by kernel_rfl) (by simp) (AllReadyH.cons (o := { dst := some 31, op := Op.call { callee := Callee.builtin Builtin.append, args := #[Operand.tmp 28, Operand.tmp 30], argTypes := #[22, 22] }, type := 22, pos := "ref.go:52", after := #[{ on := 4, ground := Ground.data }, { on := 6, ground := Ground.data }, { on := 4, ground := Ground.chain }], guard := none }) rfl (fun K hK => ?_) AllReadyH.nil)
                    · refine step_append_int (by rfl) (.tmp 28) (.tmp 30) rfl w.heap.size (.slice a4 R4.length c4) (.slice (some ⟨g6, 0, none⟩) 1 1) (R4) ([x]) rfl rfl H4.out (Rd.of_own H6.out) hHeld.size (HE7.out) HL7.out ?_
                      intro v7 w_0_4_6_7_ hown hgr
                      have H7 := Lib.hid hown
                      have hbn : Below w.heap.size w w_0_4_6_7_ := hHeld.grown hgr hHeld.size (fun r e => (own_in H4.out e).1)
                      obtain ⟨a7, c7, rfl⟩ := own_slice hown
                      refine hK _ _ hbn (fun hHeld => ?_)
                      clear hown hgr hbn hK K
                      (try simp only [Act.put, List.setIfInBounds_toArray, List.set_cons_zero, List.set_cons_succ])
                      refine wpAnyH_ready (rs := [11]) (by kernel_rfl) (by simp) (AllReadyH.cons (o := { dst := some 35, op := Op.call { callee := Callee.builtin Builtin.append, args := #[Operand.tmp 31, Operand.tmp 34], argTypes := #[22, 22] }, type := 22, pos := "ref.go:52", after := #[{ on := 7, ground := Ground.data }, { on := 10, ground := Ground.data }, { on := 7, ground := Ground.chain }], guard := none }) rfl (fun K hK => ?_) AllReadyH.nil)
                      · refine step_append_int (by rfl) (.tmp 31) (.tmp 34) rfl w.heap.size (.slice a7 R7.length c7) _ (R7) (l.drop c) rfl rfl H7.out (HDR.out w_0_4_6_7_ hHeld) hHeld.size (HE11.out) HL11.out ?_
                        intro v11 w_0_4_6_7_11_ hown hgr
                        have H11 := Lib.hid hown
                        have hbn : Below w.heap.size w w_0_4_6_7_11_ := hHeld.grown hgr hHeld.size (fun r e => (own_in H7.out e).1)
                        obtain ⟨a11, c11, rfl⟩ := own_slice hown
                        refine hK _ _ hbn (fun hHeld => ?_)
                        clear hown hgr hbn hK K
                        (try simp only [Act.put, List.setIfInBounds_toArray, List.set_cons_zero, List.set_cons_succ])
                        refine wpAnyH_take (i := 12) (oi := { dst := some 4, op := Op.assign (Operand.tmp 35), type := 22, pos := "ref.go:52", after := #[{ on := 11, ground := Ground.data }, { on := 11, ground := Ground.chain }, { on := 0, ground := Ground.phase }, { on := 1, ground := Ground.phase }, { on := 2, ground := Ground.phase }, { on := 3, ground := Ground.phase }, { on := 4, ground := Ground.phase }, { on := 5, ground := Ground.phase }, { on := 6, ground := Ground.phase }, { on := 7, ground := Ground.phase }, { on := 8, ground := Ground.phase }, { on := 9, ground := Ground.phase }, { on := 10, ground := Ground.phase }, { on := 11, ground := Ground.phase }], guard := none }) (v := ?_) rfl (by kernel_rfl) (by kernel_rfl) (by kernel_rfl) (fun _ _ _ h => h) (Or.inl ⟨by rfl, ?_⟩) hHeld ?_
                        rotate_left
                        · (intro w hSw; go_simp; try with_reducible rfl)
                        (try simp only [Act.put, List.setIfInBounds_toArray, List.set_cons_zero, List.set_cons_succ])
                        refine wpAnyH_done (by kernel_rfl) ?_ _
                        first | refine hK2 _ _ (Met.intro (hJ _ _ ?_)) | refine Met.intro (hJ _ _ ?_)
                        (repeat apply Exists.intro)
                        refine ⟨?_, rfl⟩
                        exact ⟨_, _, rfl, H11, Lib.hid hHeld⟩
                · go_simp
                  obtain ⟨w_0_6_, hwn⟩ : ∃ z, z = w_0_.alloc (.cells #[.int .i64 x] 3) := ⟨_, rfl⟩
                  rw [← hwn]
                  have hbn : Below w_0_.heap.size w_0_ w_0_6_ := by rw [hwn]; exact below_new _ _
                  replace H0 := Lib.hid (own_on H0.out hbn)
                  obtain ⟨g6, hg6⟩ : ∃ z, z = w_0_.heap.size := ⟨_, rfl⟩
                  have H6 : Hid (w_0_6_.ownsRow w.heap.size 3 1 (.slice (some ⟨g6, 0, none⟩) 1 1) ([x] : List Int).length (intsV [x])) := Lib.hid (by rw [hwn, hg6]; exact own_lit w_0_ [x] (hHeld.size))
                  have HNE : Hid (g6 ≠ g0) := Lib.hid (fun e => by have := (H0p.out); omega)
                  have H6p : Hid (g6 < w_0_6_.heap.size) := Lib.hid (by rw [hwn, hg6]; simp)
                  rw [← hg6]
                  refine hK.out _ _ (bch hHeld hbn) (fun hHeld => ?_)
                  clear hwn hbn hg6 hK K
                  (try simp only [Act.put, List.setIfInBounds_toArray, List.set_cons_zero, List.set_cons_succ])
                  refine wpAnyH_ready (rs := [4]) (by kernel_rfl) (by simp) (AllReadyH.cons (o := { dst := some 28, op := Op.call { callee := Callee.builtin Builtin.append, args := #[Operand.tmp 24, Operand.tmp 27], argTypes := #[22, 22] }, type := 22, pos := "ref.go:52", after := #[{ on := 0, ground := Ground.data }, { on := 3, ground := Ground.data }], guard := none }) rfl (fun K hK => ?_) AllReadyH.nil)
                  · refine step_append_int (by rfl) (.tmp 24) (.tmp 27) rfl w.heap.size (.slice (some ⟨g0, 0, none⟩) 0 0) _ ([]) (l.take c) rfl rfl H0.out (HTK.out w_0_6_ hHeld) hHeld.size (HE4.out) HL4.out ?_
                    intro v4 w_0_6_4_ hown hgr
                    have H4 := Lib.hid hown
                    have hbn : Below w.heap.size w w_0_6_4_ := hHeld.grown hgr hHeld.size (fun r e => (own_in H0.out e).1)
                    replace H6 := Lib.hid (own_grown H6.out hgr (fun r e e2 => by cases e; cases e2; exact HNE.out rfl))
                    obtain ⟨a4, c4, rfl⟩ := own_slice hown
                    refine hK _ _ hbn (fun hHeld => ?_)
                    clear hown hgr hbn hK K
                    (try simp only [Act.put, List.setIfInBounds_toArray, List.set_cons_zero, List.set_cons_succ])
                    refine wpAnyH_ready (rs := [7]) (by kernel_rfl) (by simp) (AllReadyH.cons (o := { dst := some 31, op := Op.call { callee := Callee.builtin Builtin.append, args := #[Operand.tmp 28, Operand.tmp 30], argTypes := #[22, 22] }, type := 22, pos := "ref.go:52", after := #[{ on := 4, ground := Ground.data }, { on := 6, ground := Ground.data }, { on := 4, ground := Ground.chain }], guard := none }) rfl (fun K hK => ?_) AllReadyH.nil)
                    · refine step_append_int (by rfl) (.tmp 28) (.tmp 30) rfl w.heap.size (.slice a4 R4.length c4) (.slice (some ⟨g6, 0, none⟩) 1 1) (R4) ([x]) rfl rfl H4.out (Rd.of_own H6.out) hHeld.size (HE7.out) HL7.out ?_
                      intro v7 w_0_6_4_7_ hown hgr
                      have H7 := Lib.hid hown
                      have hbn : Below w.heap.size w w_0_6_4_7_ := hHeld.grown hgr hHeld.size (fun r e => (own_in H4.out e).1)
                      obtain ⟨a7, c7, rfl⟩ := own_slice hown
                      refine hK _ _ hbn (fun hHeld => ?_)
                      clear hown hgr hbn hK K
                      (try simp only [Act.put, List.setIfInBounds_toArray, List.set_cons_zero, List.set_cons_succ])
                      refine wpAnyH_ready (rs := [11]) (by kernel_rfl) (by simp) (AllReadyH.cons (o := { dst := some 35, op := Op.call { callee := Callee.builtin Builtin.append, args := #[Operand.tmp 31, Operand.tmp 34], argTypes := #[22, 22] }, type := 22, pos := "ref.go:52", after := #[{ on := 7, ground := Ground.data }, { on := 10, ground := Ground.data }, { on := 7, ground := Ground.chain }], guard := none }) rfl (fun K hK => ?_) AllReadyH.nil)
                      · refine step_append_int (by rfl) (.tmp 31) (.tmp 34) rfl w.heap.size (.slice a7 R7.length c7) _ (R7) (l.drop c) rfl rfl H7.out (HDR.out w_0_6_4_7_ hHeld) hHeld.size (HE11.out) HL11.out ?_
                        intro v11 w_0_6_4_7_11_ hown hgr
                        have H11 := Lib.hid hown
                        have hbn : Below w.heap.size w w_0_6_4_7_11_ := hHeld.grown hgr hHeld.size (fun r e => (own_in H7.out e).1)
                        obtain ⟨a11, c11, rfl⟩ := own_slice hown
                        refine hK _ _ hbn (fun hHeld => ?_)
                        clear hown hgr hbn hK K
                        (try simp only [Act.put, List.setIfInBounds_toArray, List.set_cons_zero, List.set_cons_succ])
                        refine wpAnyH_take (i := 12) (oi := { dst := some 4, op := Op.assign (Operand.tmp 35), type := 22, pos := "ref.go:52", after := #[{ on := 11, ground := Ground.data }, { on := 11, ground := Ground.chain }, { on := 0, ground := Ground.phase }, { on := 1, ground := Ground.phase }, { on := 2, ground := Ground.phase }, { on := 3, ground := Ground.phase }, { on := 4, ground := Ground.phase }, { on := 5, ground := Ground.phase }, { on := 6, ground := Ground.phase }, { on := 7, ground := Ground.phase }, { on := 8, ground := Ground.phase }, { on := 9, ground := Ground.phase }, { on := 10, ground := Ground.phase }, { on := 11, ground := Ground.phase }], guard := none }) (v := ?_) rfl (by kernel_rfl) (by kernel_rfl) (by kernel_rfl) (fun _ _ _ h => h) (Or.inl ⟨by rfl, ?_⟩) hHeld ?_
                        rotate_left
                        · (intro w hSw; go_simp; try with_reducible rfl)
                        (try simp only [Act.put, List.setIfInBounds_toArray, List.set_cons_zero, List.set_cons_succ])
                        refine wpAnyH_done (by kernel_rfl) ?_ _
                        first | refine hK2 _ _ (Met.intro (hJ _ _ ?_)) | refine Met.intro (hJ _ _ ?_)
                        (repeat apply Exists.intro)
                        refine ⟨?_, rfl⟩
                        exact ⟨_, _, rfl, H11, Lib.hid hHeld⟩
              · go_simp
                obtain ⟨w_6_, hwn⟩ : ∃ z, z = v0.alloc (.cells #[.int .i64 x] 3) := ⟨_, rfl⟩
                rw [← hwn]
                have hbn : Below v0.heap.size v0 w_6_ := by rw [hwn]; exact below_new _ _
                obtain ⟨g6, hg6⟩ : ∃ z, z = v0.heap.size := ⟨_, rfl⟩
                have H6 : Hid (w_6_.ownsRow w.heap.size 3 1 (.slice (some ⟨g6, 0, none⟩) 1 1) ([x] : List Int).length (intsV [x])) := Lib.hid (by rw [hwn, hg6]; exact own_lit v0 [x] (hHeld.size))
                have H6p : Hid (g6 < w_6_.heap.size) := Lib.hid (by rw [hwn, hg6]; simp)
                rw [← hg6]
                refine hK.out _ _ (bch hHeld hbn) (fun hHeld => ?_)
                clear hwn hbn hg6 hK K
                (try simp only [Act.put, List.setIfInBounds_toArray, List.set_cons_zero, List.set_cons_succ])
                refine wpAnyH_ready (rs := [0]) (by kernel_rfl) (by simp) (AllReadyH.cons (o := { dst := some 24, op := Op.buildSlice 22 0 #[], type := 22, pos := "ref.go:52", after := #[], guard := none }) rfl (fun K hK => ?_) AllReadyH.nil)
                · go_simp
                  obtain ⟨w_6_0_, hwn⟩ : ∃ z, z = w_6_.alloc (.cells #[] 3) := ⟨_, rfl⟩
                  rw [← hwn]
                  have hbn : Below w_6_.heap.size w_6_ w_6_0_ := by rw [hwn]; exact below_new _ _
                  replace H6 := Lib.hid (own_on H6.out hbn)
                  obtain ⟨g0, hg0⟩ : ∃ z, z = w_6_.heap.size := ⟨_, rfl⟩
                  have H0 : Hid (w_6_0_.ownsRow w.heap.size 3 1 (.slice (some ⟨g0, 0, none⟩) 0 0) ([] : List Int).length (intsV [])) := Lib.hid (by rw [hwn, hg0]; exact own_lit w_6_ [] (hHeld.size))
                  have HNE : Hid (g6 ≠ g0) := Lib.hid (fun e => by have := (H6p.out); omega)
                  have H0p : Hid (g0 < w_6_0_.heap.size) := Lib.hid (by rw [hwn, hg0]; simp)
                  rw [← hg0]
                  refine hK.out _ _ (bch hHeld hbn) (fun hHeld => ?_)
                  clear hwn hbn hg0 hK K
                  (try simp only [Act.put, List.setIfInBounds_toArray, List.set_cons_zero, List.set_cons_succ])
                  refine wpAnyH_ready (rs := [4]) (by kernel_rfl) (by simp) (AllReadyH.cons (o := { dst := some 28, op := Op.call { callee := Callee.builtin Builtin.append, args := #[Operand.tmp 24, Operand.tmp 27], argTypes := #[22, 22] }, type := 22, pos := "ref.go:52", after := #[{ on := 0, ground := Ground.data }, { on := 3, ground := Ground.data }], guard := none }) rfl (fun K hK => ?_) AllReadyH.nil)
                  · refine step_append_int (by rfl) (.tmp 24) (.tmp 27) rfl w.heap.size (.slice (some ⟨g0, 0, none⟩) 0 0) _ ([]) (l.take c) rfl rfl H0.out (HTK.out w_6_0_ hHeld) hHeld.size (HE4.out) HL4.out ?_
                    intro v4 w_6_0_4_ hown hgr
                    have H4 := Lib.hid hown
                    have hbn : Below w.heap.size w w_6_0_4_ := hHeld.grown hgr hHeld.size (fun r e => (own_in H0.out e).1)
                    replace H6 := Lib.hid (own_grown H6.out hgr (fun r e e2 => by cases e; cases e2; exact HNE.out rfl))
                    obtain ⟨a4, c4, rfl⟩ := own_slice hown
                    refine hK _ _ hbn (fun hHeld => ?_)
                    clear hown hgr hbn hK K
                    (try simp only [Act.put, List.setIfInBounds_toArray, List.set_cons_zero, List.set_cons_succ])
                    refine wpAnyH_ready (rs := [7]) (by kernel_rfl) (by simp) (AllReadyH.cons (o := { dst := some 31, op := Op.call { callee := Callee.builtin Builtin.append, args := #[Operand.tmp 28, Operand.tmp 30], argTypes := #[22, 22] }, type := 22, pos := "ref.go:52", after := #[{ on := 4, ground := Ground.data }, { on := 6, ground := Ground.data }, { on := 4, ground := Ground.chain }], guard := none }) rfl (fun K hK => ?_) AllReadyH.nil)
                    · refine step_append_int (by rfl) (.tmp 28) (.tmp 30) rfl w.heap.size (.slice a4 R4.length c4) (.slice (some ⟨g6, 0, none⟩) 1 1) (R4) ([x]) rfl rfl H4.out (Rd.of_own H6.out) hHeld.size (HE7.out) HL7.out ?_
                      intro v7 w_6_0_4_7_ hown hgr
                      have H7 := Lib.hid hown
                      have hbn : Below w.heap.size w w_6_0_4_7_ := hHeld.grown hgr hHeld.size (fun r e => (own_in H4.out e).1)
                      obtain ⟨a7, c7, rfl⟩ := own_slice hown
                      refine hK _ _ hbn (fun hHeld => ?_)
                      clear hown hgr hbn hK K
                      (try simp only [Act.put, List.setIfInBounds_toArray, List.set_cons_zero, List.set_cons_succ])
                      refine wpAnyH_ready (rs := [11]) (by kernel_rfl) (by simp) (AllReadyH.cons (o := { dst := some 35, op := Op.call { callee := Callee.builtin Builtin.append, args := #[Operand.tmp 31, Operand.tmp 34], argTypes := #[22, 22] }, type := 22, pos := "ref.go:52", after := #[{ on := 7, ground := Ground.data }, { on := 10, ground := Ground.data }, { on := 7, ground := Ground.chain }], guard := none }) rfl (fun K hK => ?_) AllReadyH.nil)
                      · refine step_append_int (by rfl) (.tmp 31) (.tmp 34) rfl w.heap.size (.slice a7 R7.length c7) _ (R7) (l.drop c) rfl rfl H7.out (HDR.out w_6_0_4_7_ hHeld) hHeld.size (HE11.out) HL11.out ?_
                        intro v11 w_6_0_4_7_11_ hown hgr
                        have H11 := Lib.hid hown
                        have hbn : Below w.heap.size w w_6_0_4_7_11_ := hHeld.grown hgr hHeld.size (fun r e => (own_in H7.out e).1)
                        obtain ⟨a11, c11, rfl⟩ := own_slice hown
                        refine hK _ _ hbn (fun hHeld => ?_)
                        clear hown hgr hbn hK K
                        (try simp only [Act.put, List.setIfInBounds_toArray, List.set_cons_zero, List.set_cons_succ])
                        refine wpAnyH_take (i := 12) (oi := { dst := some 4, op := Op.assign (Operand.tmp 35), type := 22, pos := "ref.go:52", after := #[{ on := 11, ground := Ground.data }, { on := 11, ground := Ground.chain }, { on := 0, ground := Ground.phase }, { on := 1, ground := Ground.phase }, { on := 2, ground := Ground.phase }, { on := 3, ground := Ground.phase }, { on := 4, ground := Ground.phase }, { on := 5, ground := Ground.phase }, { on := 6, ground := Ground.phase }, { on := 7, ground := Ground.phase }, { on := 8, ground := Ground.phase }, { on := 9, ground := Ground.phase }, { on := 10, ground := Ground.phase }, { on := 11, ground := Ground.phase }], guard := none }) (v := ?_) rfl (by kernel_rfl) (by kernel_rfl) (by kernel_rfl) (fun _ _ _ h => h) (Or.inl ⟨by rfl, ?_⟩) hHeld ?_
                        rotate_left
                        · (intro w hSw; go_simp; try with_reducible rfl)
                        (try simp only [Act.put, List.setIfInBounds_toArray, List.set_cons_zero, List.set_cons_succ])
                        refine wpAnyH_done (by kernel_rfl) ?_ _
                        first | refine hK2 _ _ (Met.intro (hJ _ _ ?_)) | refine Met.intro (hJ _ _ ?_)
                        (repeat apply Exists.intro)
                        refine ⟨?_, rfl⟩
                        exact ⟨_, _, rfl, H11, Lib.hid hHeld⟩
            case rest =>
            obtain ⟨a', c', rfl, HOW, HBW⟩ := hcut
            go_wp2_with fail
            go_ret
            first | exact ⟨_, rfl, (fun h => by cases h), (fun _ => by rw [HPI.out]; exact HOW.out), HBW.out⟩ | exact ⟨_, rfl, by rw [HPI.out]; exact HOW.out, HBW.out⟩ | exact ⟨rfl, by rw [HPI.out]; exact HOW.out, HBW.out⟩

          · have s2 : (k : Int) ≤ (c : Int) := by omega
            have s5 : ¬ c = k := hck
            have HTK : Hid (∀ W, Below w.heap.size w W → Rd W (.slice (some ⟨g, 0, none⟩) k c) (intsV (l.take k))) := Lib.hid (fun W hW => (HV.out.on hW).cut (Nat.le_refl _))
            have HDR : Hid (∀ W, Below w.heap.size w W → Rd W (.slice (some ⟨g, k, none⟩) 0 (c - k)) (intsV (l.drop k))) := Lib.hid (fun W hW => (HV.out.on hW).off (Nat.le_refl _) (by omega) rfl)
            obtain ⟨R4, hR4⟩ : ∃ z, z = [] ++ l.take k := ⟨_, rfl⟩
            obtain ⟨R7, hR7⟩ : ∃ z, z = R4 ++ [x] := ⟨_, rfl⟩
            obtain ⟨R11, hR11⟩ : ∃ z, z = R7 ++ l.drop k := ⟨_, rfl⟩
            have HE4 : Hid ([] ++ l.take k = R4) := Lib.hid hR4.symm
            have HE7 : Hid (R4 ++ [x] = R7) := Lib.hid hR7.symm
            have HE11 : Hid (R7 ++ l.drop k = R11) := Lib.hid hR11.symm
            have HL4 : Hid (R4.length ≤ 1000000) := Lib.hid (by have := HN.out; rw [hR4]; simp <;> omega)
            have HL7 : Hid (R7.length ≤ 1000000) := Lib.hid (by have := HN.out; rw [hR7, hR4]; simp <;> omega)
            have HL11 : Hid (R11.length ≤ 1000000) := Lib.hid (by have := HN.out; rw [hR11, hR7, hR4]; simp <;> omega)
            have HPI : Hid (putI l x = R11) := Lib.hid (by rw [HPL.out, HTW.out.1, HTW.out.2, hR11, hR7, hR4]; simp)
            clear hR4 hR7 hR11
            clear HTW HPL HLo
            go_upto_region 6 with fail
            go_cut [4] (fun p4 wx => ∃ a' c', p4 = .slice a' R11.length c' ∧ Hid (wx.ownsRow w.heap.size 3 1 (.slice a' R11.length c') R11.length (intsV R11)) ∧ Hid (Below w.heap.size w wx))
            case first =>
              rename_i J2 K2 hJ hK2
              obtain ⟨v0, hv0⟩ : ∃ q, q = World.drew w := ⟨_, rfl⟩
              refine wp_region_held_drew (S := fun w' => Below w.heap.size w w') (by kernel_rfl) (below_drewN (Below.refl _ _) 1) (fun hHeld => ?_)
              rw [← hv0] at hHeld ⊢
              clear hv0
              refine wpAnyH_take (i := 1) (oi := { dst := some 25, op := Op.move (Operand.tmp 0), type := 22, pos := "ref.go:52", after := #[], guard := none }) (v := ?_) rfl (by kernel_rfl) (by kernel_rfl) (by kernel_rfl) (fun _ _ _ h => h) (Or.inl ⟨by rfl, ?_⟩) hHeld ?_
              rotate_left
              · (intro w hSw; go_simp; try with_reducible rfl)
              (try simp only [Act.put, List.setIfInBounds_toArray, List.set_cons_zero, List.set_cons_succ])
              refine wpAnyH_take (i := 2) (oi := { dst := some 26, op := Op.move (Operand.tmp 5), type := 3, pos := "ref.go:52", after := #[], guard := none }) (v := ?_) rfl (by kernel_rfl) (by kernel_rfl) (by kernel_rfl) (fun _ _ _ h => h) (Or.inl ⟨by rfl, ?_⟩) hHeld ?_
              rotate_left
              · (intro w hSw; go_simp; try with_reducible rfl)
              (try simp only [Act.put, List.setIfInBounds_toArray, List.set_cons_zero, List.set_cons_succ])
              refine wpAnyH_take (i := 3) (oi := { dst := some 27, op := Op.slice 22 (Operand.tmp 25) none (some (Operand.tmp 26)) none, type := 22, pos := "ref.go:52", after := #[{ on := 1, ground := Ground.data }, { on := 2, ground := Ground.data }], guard := none }) (v := ?_) rfl (by kernel_rfl) (by kernel_rfl) (by kernel_rfl) (fun _ _ _ h => h) (Or.inl ⟨by rfl, ?_⟩) hHeld ?_
              rotate_left
              · (intro w hSw; go_simp; try with_reducible rfl)
              (try simp only [Act.put, List.setIfInBounds_toArray, List.set_cons_zero, List.set_cons_succ])
              refine wpAnyH_take (i := 5) (oi := { dst := some 29, op := Op.move (Operand.tmp 1), type := 3, pos := "ref.go:52", after := #[], guard := none }) (v := ?_) rfl (by kernel_rfl) (by kernel_rfl) (by kernel_rfl) (fun _ _ _ h => h) (Or.inl ⟨by rfl, ?_⟩) hHeld ?_
              rotate_left
              · (intro w hSw; go_simp; try with_reducible rfl)
              (try simp only [Act.put, List.setIfInBounds_toArray, List.set_cons_zero, List.set_cons_succ])
              refine wpAnyH_take (i := 8) (oi := { dst := some 32, op := Op.move (Operand.tmp 0), type := 22, pos := "ref.go:52", after := #[], guard := none }) (v := ?_) rfl (by kernel_rfl) (by kernel_rfl) (by kernel_rfl) (fun _ _ _ h => h) (Or.inl ⟨by rfl, ?_⟩) hHeld ?_
              rotate_left
              · (intro w hSw; go_simp; try with_reducible rfl)
              (try simp only [Act.put, List.setIfInBounds_toArray, List.set_cons_zero, List.set_cons_succ])
              refine wpAnyH_take (i := 9) (oi := { dst := some 33, op := Op.move (Operand.tmp 5), type := 3, pos := "ref.go:52", after := #[], guard := none }) (v := ?_) rfl (by kernel_rfl) (by kernel_rfl) (by kernel_rfl) (fun _ _ _ h => h) (Or.inl ⟨by rfl, ?_⟩) hHeld ?_
              rotate_left
              · (intro w hSw; go_simp; try with_reducible rfl)
              (try simp only [Act.put, List.setIfInBounds_toArray, List.set_cons_zero, List.set_cons_succ])
              refine wpAnyH_take (i := 10) (oi := { dst := some 34, op := Op.slice 22 (Operand.tmp 32) (some (Operand.tmp 33)) none none, type := 22, pos := "ref.go:52", after := #[{ on := 8, ground := Ground.data }, { on := 9, ground := Ground.data }], guard := none }) (v := ?_) rfl (by kernel_rfl) (by kernel_rfl) (by kernel_rfl) (fun _ _ _ h => h) (Or.inl ⟨by rfl, ?_⟩) hHeld ?_
              rotate_left
              · (intro w hSw; go_simp; try with_reducible rfl)
              (try simp only [Act.put, List.setIfInBounds_toArray, List.set_cons_zero, List.set_cons_succ])
              refine wpAnyH_ready (rs := [0, 6]) (by kernel_rfl) (by simp) (AllReadyH.cons (o := { dst := some 24, op := Op.buildSlice 22 0 #[], type := 22, pos := "ref.go:52", after := #[], guard := none }) rfl (fun K hK => ?_) (AllReadyH.cons (o := { dst := some 30, op := Op.buildSlice 22 1 #[(0, Operand.tmp 29)], type := 22, pos := "ref.go:52", after := #[{ on := 5, ground := Ground.data }], guard := none }) rfl (fun K hK => ?_) AllReadyH.nil))
              · go_simp
                obtain ⟨w_0_, hwn⟩ : ∃ z, z = v0.alloc (.cells #[] 3) := ⟨_, rfl⟩
                rw [← hwn]
                have hbn : Below v0.heap.size v0 w_0_ := by rw [hwn]; exact below_new _ _
                obtain ⟨g0, hg0⟩ : ∃ z, z = v0.heap.size := ⟨_, rfl⟩
                have H0 : Hid (w_0_.ownsRow w.heap.size 3 1 (.slice (some ⟨g0, 0, none⟩) 0 0) ([] : List Int).length (intsV [])) := Lib.hid (by rw [hwn, hg0]; exact own_lit v0 [] (hHeld.size))
                have H0p : Hid (g0 < w_0_.heap.size) := Lib.hid (by rw [hwn, hg0]; simp)
                rw [← hg0]
                refine hK.out _ _ (bch hHeld hbn) (fun hHeld => ?_)
                clear hwn hbn hg0 hK K
                (try simp only [Act.put, List.setIfInBounds_toArray, List.set_cons_zero, List.set_cons_succ])
                refine wpAnyH_ready (rs := [4, 6]) (by kernel_rfl) (by simp) (AllReadyH.cons (o := { dst := some 28, op := Op.call { callee := Callee.builtin Builtin.append, args := #[Operand.tmp 24, Operand.tmp 27], argTypes := #[22, 22] }, type := 22, pos := "ref.go:52", after := #[{ on := 0, ground := Ground.data }, { on := 3, ground := Ground.data }], guard := none }) rfl (fun K hK => ?_) (AllReadyH.cons (o := { dst := some 30, op := Op.buildSlice 22 1 #[(0, Operand.tmp 29)], type := 22, pos := "ref.go:52", after := #[{ on := 5, ground := Ground.data }], guard := none }) rfl (fun K hK => ?_) AllReadyH.nil))
                · refine step_append_int (by rfl) (.tmp 24) (.tmp 27) rfl w.heap.size (.slice (some ⟨g0, 0, none⟩) 0 0) _ ([]) (l.take k) rfl rfl H0.out (HTK.out w_0_ hHeld) hHeld.size (HE4.out) HL4.out ?_
                  intro v4 w_0_4_ hown hgr
                  have H4 := Lib.hid hown
                  have hbn : Below w.heap.size w w_0_4_ := hHeld.grown hgr hHeld.size (fun r e => (own_in H0.out e).1)
                  obtain ⟨a4, c4, rfl⟩ := own_slice hown
                  refine hK _ _ hbn (fun hHeld => ?_)
                  clear hown hgr hbn hK K
                  (try simp only [Act.put, List.setIfInBounds_toArray, List.set_cons_zero, List.set_cons_succ])
                  refine wpAnyH_ready (rs := [6]) (by kernel_rfl) (by simp) (AllReadyH.cons (o := { dst := some 30, op := Op.buildSlice 22 1 #[(0, Operand.tmp 29)], type := 22, pos := "ref.go:52", after := #[{ on := 5, ground := Ground.data }], guard := none }) rfl (fun K hK => ?_) AllReadyH.nil)
                  · go_simp
                    obtain ⟨w_0_4_6_, hwn⟩ : ∃ z, z = w_0_4_.alloc (.cells #[.int .i64 x] 3) := ⟨_, rfl⟩
                    rw [← hwn]
                    have hbn : Below w_0_4_.heap.size w_0_4_ w_0_4_6_ := by rw [hwn]; exact below_new _ _
                    replace H4 := Lib.hid (own_on H4.out hbn)
                    obtain ⟨g6, hg6⟩ : ∃ z, z = w_0_4_.heap.size := ⟨_, rfl⟩
                    have H6 : Hid (w_0_4_6_.ownsRow w.heap.size 3 1 (.slice (some ⟨g6, 0, none⟩) 1 1) ([x] : List Int).length (intsV [x])) := Lib.hid (by rw [hwn, hg6]; exact own_lit w_0_4_ [x] (hHeld.size))
                    have H6p : Hid (g6 < w_0_4_6_.heap.size) := Lib.hid (by rw [hwn, hg6]; simp)
                    rw [← hg6]
                    refine hK.out _ _ (bch hHeld hbn) (fun hHeld => ?_)
                    clear hwn hbn hg6 hK K
                    (try simp only [Act.put, List.setIfInBounds_toArray, List.set_cons_zero, List.set_cons_succ])
                    refine wpAnyH_ready (rs := [7]) (by kernel_rfl) (by simp) (AllReadyH.cons (o := { dst := some 31, op := Op.call { callee := Callee.builtin Builtin.append, args := #[Operand.tmp 28, Operand.tmp 30], argTypes := #[22, 22] }, type := 22, pos := "ref.go:52", after := #[{ on := 4, ground := Ground.data }, { on := 6, ground := Ground.data }, { on := 4, ground := Ground.chain }], guard := none }) rfl (fun K hK => ?_) AllReadyH.nil)
                    · refine step_append_int (by rfl) (.tmp 28) (.tmp 30) rfl w.heap.size (.slice a4 R4.length c4) (.slice (some ⟨g6, 0, none⟩) 1 1) (R4) ([x]) rfl rfl H4.out (Rd.of_own H6.out) hHeld.size (HE7.out) HL7.out ?_
                      intro v7 w_0_4_6_7_ hown hgr
                      have H7 := Lib.hid hown
                      have hbn : Below w.heap.size w w_0_4_6_7_ := hHeld.grown hgr hHeld.size (fun r e => (own_in H4.out e).1)
                      obtain ⟨a7, c7, rfl⟩ := own_slice hown
                      refine hK _ _ hbn (fun hHeld => ?_)
                      clear hown hgr hbn hK K
                      (try simp only [Act.put, List.setIfInBounds_toArray, List.set_cons_zero, List.set_cons_succ])
                      refine wpAnyH_ready (rs := [11]) (by kernel_rfl) (by simp) (AllReadyH.cons (o := { dst := some 35, op := Op.call { callee := Callee.builtin Builtin.append, args := #[Operand.tmp 31, Operand.tmp 34], argTypes := #[22, 22] }, type := 22, pos := "ref.go:52", after := #[{ on := 7, ground := Ground.data }, { on := 10, ground := Ground.data }, { on := 7, ground := Ground.chain }], guard := none }) rfl (fun K hK => ?_) AllReadyH.nil)
                      · refine step_append_int (by rfl) (.tmp 31) (.tmp 34) rfl w.heap.size (.slice a7 R7.length c7) _ (R7) (l.drop k) rfl rfl H7.out (HDR.out w_0_4_6_7_ hHeld) hHeld.size (HE11.out) HL11.out ?_
                        intro v11 w_0_4_6_7_11_ hown hgr
                        have H11 := Lib.hid hown
                        have hbn : Below w.heap.size w w_0_4_6_7_11_ := hHeld.grown hgr hHeld.size (fun r e => (own_in H7.out e).1)
                        obtain ⟨a11, c11, rfl⟩ := own_slice hown
                        refine hK _ _ hbn (fun hHeld => ?_)
                        clear hown hgr hbn hK K
                        (try simp only [Act.put, List.setIfInBounds_toArray, List.set_cons_zero, List.set_cons_succ])
                        refine wpAnyH_take (i := 12) (oi := { dst := some 4, op := Op.assign (Operand.tmp 35), type := 22, pos := "ref.go:52", after := #[{ on := 11, ground := Ground.data }, { on := 11, ground := Ground.chain }, { on := 0, ground := Ground.phase }, { on := 1, ground := Ground.phase }, { on := 2, ground := Ground.phase }, { on := 3, ground := Ground.phase }, { on := 4, ground := Ground.phase }, { on := 5, ground := Ground.phase }, { on := 6, ground := Ground.phase }, { on := 7, ground := Ground.phase }, { on := 8, ground := Ground.phase }, { on := 9, ground := Ground.phase }, { on := 10, ground := Ground.phase }, { on := 11, ground := Ground.phase }], guard := none }) (v := ?_) rfl (by kernel_rfl) (by kernel_rfl) (by kernel_rfl) (fun _ _ _ h => h) (Or.inl ⟨by rfl, ?_⟩) hHeld ?_
                        rotate_left
                        · (intro w hSw; go_simp; try with_reducible rfl)
                        (try simp only [Act.put, List.setIfInBounds_toArray, List.set_cons_zero, List.set_cons_succ])
                        refine wpAnyH_done (by kernel_rfl) ?_ _
                        first | refine hK2 _ _ (Met.intro (hJ _ _ ?_)) | refine Met.intro (hJ _ _ ?_)
                        (repeat apply Exists.intro)
                        refine ⟨?_, rfl⟩
                        exact ⟨_, _, rfl, H11, Lib.hid hHeld⟩
                · go_simp
                  obtain ⟨w_0_6_, hwn⟩ : ∃ z, z = w_0_.alloc (.cells #[.int .i64 x] 3) := ⟨_, rfl⟩
                  rw [← hwn]
                  have hbn : Below w_0_.heap.size w_0_ w_0_6_ := by rw [hwn]; exact below_new _ _
                  replace H0 := Lib.hid (own_on H0.out hbn)
                  obtain ⟨g6, hg6⟩ : ∃ z, z = w_0_.heap.size := ⟨_, rfl⟩
                  have H6 : Hid (w_0_6_.ownsRow w.heap.size 3 1 (.slice (some ⟨g6, 0, none⟩) 1 1) ([x] : List Int).length (intsV [x])) := Lib.hid (by rw [hwn, hg6]; exact own_lit w_0_ [x] (hHeld.size))
                  have HNE : Hid (g6 ≠ g0) := Lib.hid (fun e => by have := (H0p.out); omega)
                  have H6p : Hid (g6 < w_0_6_.heap.size) := Lib.hid (by rw [hwn, hg6]; simp)
                  rw [← hg6]
                  refine hK.out _ _ (bch hHeld hbn) (fun hHeld => ?_)
                  clear hwn hbn hg6 hK K
                  (try simp only [Act.put, List.setIfInBounds_toArray, List.set_cons_zero, List.set_cons_succ])
                  refine wpAnyH_ready (rs := [4]) (by kernel_rfl) (by simp) (AllReadyH.cons (o := { dst := some 28, op := Op.call { callee := Callee.builtin Builtin.append, args := #[Operand.tmp 24, Operand.tmp 27], argTypes := #[22, 22] }, type := 22, pos := "ref.go:52", after := #[{ on := 0, ground := Ground.data }, { on := 3, ground := Ground.data }], guard := none }) rfl (fun K hK => ?_) AllReadyH.nil)
                  · refine step_append_int (by rfl) (.tmp 24) (.tmp 27) rfl w.heap.size (.slice (some ⟨g0, 0, none⟩) 0 0) _ ([]) (l.take k) rfl rfl H0.out (HTK.out w_0_6_ hHeld) hHeld.size (HE4.out) HL4.out ?_
                    intro v4 w_0_6_4_ hown hgr
                    have H4 := Lib.hid hown
                    have hbn : Below w.heap.size w w_0_6_4_ := hHeld.grown hgr hHeld.size (fun r e => (own_in H0.out e).1)
                    replace H6 := Lib.hid (own_grown H6.out hgr (fun r e e2 => by cases e; cases e2; exact HNE.out rfl))
                    obtain ⟨a4, c4, rfl⟩ := own_slice hown
                    refine hK _ _ hbn (fun hHeld => ?_)
                    clear hown hgr hbn hK K
                    (try simp only [Act.put, List.setIfInBounds_toArray, List.set_cons_zero, List.set_cons_succ])
                    refine wpAnyH_ready (rs := [7]) (by kernel_rfl) (by simp) (AllReadyH.cons (o := { dst := some 31, op := Op.call { callee := Callee.builtin Builtin.append, args := #[Operand.tmp 28, Operand.tmp 30], argTypes := #[22, 22] }, type := 22, pos := "ref.go:52", after := #[{ on := 4, ground := Ground.data }, { on := 6, ground := Ground.data }, { on := 4, ground := Ground.chain }], guard := none }) rfl (fun K hK => ?_) AllReadyH.nil)
                    · refine step_append_int (by rfl) (.tmp 28) (.tmp 30) rfl w.heap.size (.slice a4 R4.length c4) (.slice (some ⟨g6, 0, none⟩) 1 1) (R4) ([x]) rfl rfl H4.out (Rd.of_own H6.out) hHeld.size (HE7.out) HL7.out ?_
                      intro v7 w_0_6_4_7_ hown hgr
                      have H7 := Lib.hid hown
                      have hbn : Below w.heap.size w w_0_6_4_7_ := hHeld.grown hgr hHeld.size (fun r e => (own_in H4.out e).1)
                      obtain ⟨a7, c7, rfl⟩ := own_slice hown
                      refine hK _ _ hbn (fun hHeld => ?_)
                      clear hown hgr hbn hK K
                      (try simp only [Act.put, List.setIfInBounds_toArray, List.set_cons_zero, List.set_cons_succ])
                      refine wpAnyH_ready (rs := [11]) (by kernel_rfl) (by simp) (AllReadyH.cons (o := { dst := some 35, op := Op.call { callee := Callee.builtin Builtin.append, args := #[Operand.tmp 31, Operand.tmp 34], argTypes := #[22, 22] }, type := 22, pos := "ref.go:52", after := #[{ on := 7, ground := Ground.data }, { on := 10, ground := Ground.data }, { on := 7, ground := Ground.chain }], guard := none }) rfl (fun K hK => ?_) AllReadyH.nil)
                      · refine step_append_int (by rfl) (.tmp 31) (.tmp 34) rfl w.heap.size (.slice a7 R7.length c7) _ (R7) (l.drop k) rfl rfl H7.out (HDR.out w_0_6_4_7_ hHeld) hHeld.size (HE11.out) HL11.out ?_
                        intro v11 w_0_6_4_7_11_ hown hgr
                        have H11 := Lib.hid hown
                        have hbn : Below w.heap.size w w_0_6_4_7_11_ := hHeld.grown hgr hHeld.size (fun r e => (own_in H7.out e).1)
                        obtain ⟨a11, c11, rfl⟩ := own_slice hown
                        refine hK _ _ hbn (fun hHeld => ?_)
                        clear hown hgr hbn hK K
                        (try simp only [Act.put, List.setIfInBounds_toArray, List.set_cons_zero, List.set_cons_succ])
                        refine wpAnyH_take (i := 12) (oi := { dst := some 4, op := Op.assign (Operand.tmp 35), type := 22, pos := "ref.go:52", after := #[{ on := 11, ground := Ground.data }, { on := 11, ground := Ground.chain }, { on := 0, ground := Ground.phase }, { on := 1, ground := Ground.phase }, { on := 2, ground := Ground.phase }, { on := 3, ground := Ground.phase }, { on := 4, ground := Ground.phase }, { on := 5, ground := Ground.phase }, { on := 6, ground := Ground.phase }, { on := 7, ground := Ground.phase }, { on := 8, ground := Ground.phase }, { on := 9, ground := Ground.phase }, { on := 10, ground := Ground.phase }, { on := 11, ground := Ground.phase }], guard := none }) (v := ?_) rfl (by kernel_rfl) (by kernel_rfl) (by kernel_rfl) (fun _ _ _ h => h) (Or.inl ⟨by rfl, ?_⟩) hHeld ?_
                        rotate_left
                        · (intro w hSw; go_simp; try with_reducible rfl)
                        (try simp only [Act.put, List.setIfInBounds_toArray, List.set_cons_zero, List.set_cons_succ])
                        refine wpAnyH_done (by kernel_rfl) ?_ _
                        first | refine hK2 _ _ (Met.intro (hJ _ _ ?_)) | refine Met.intro (hJ _ _ ?_)
                        (repeat apply Exists.intro)
                        refine ⟨?_, rfl⟩
                        exact ⟨_, _, rfl, H11, Lib.hid hHeld⟩
              · go_simp
                obtain ⟨w_6_, hwn⟩ : ∃ z, z = v0.alloc (.cells #[.int .i64 x] 3) := ⟨_, rfl⟩
                rw [← hwn]
                have hbn : Below v0.heap.size v0 w_6_ := by rw [hwn]; exact below_new _ _
                obtain ⟨g6, hg6⟩ : ∃ z, z = v0.heap.size := ⟨_, rfl⟩
                have H6 : Hid (w_6_.ownsRow w.heap.size 3 1 (.slice (some ⟨g6, 0, none⟩) 1 1) ([x] : List Int).length (intsV [x])) := Lib.hid (by rw [hwn, hg6]; exact own_lit v0 [x] (hHeld.size))
                have H6p : Hid (g6 < w_6_.heap.size) := Lib.hid (by rw [hwn, hg6]; simp)
                rw [← hg6]
                refine hK.out _ _ (bch hHeld hbn) (fun hHeld => ?_)
                clear hwn hbn hg6 hK K
                (try simp only [Act.put, List.setIfInBounds_toArray, List.set_cons_zero, List.set_cons_succ])
                refine wpAnyH_ready (rs := [0]) (by kernel_rfl) (by simp) (AllReadyH.cons (o := { dst := some 24, op := Op.buildSlice 22 0 #[], type := 22, pos := "ref.go:52", after := #[], guard := none }) rfl (fun K hK => ?_) AllReadyH.nil)
                · go_simp
                  obtain ⟨w_6_0_, hwn⟩ : ∃ z, z = w_6_.alloc (.cells #[] 3) := ⟨_, rfl⟩
                  rw [← hwn]
                  have hbn : Below w_6_.heap.size w_6_ w_6_0_ := by rw [hwn]; exact below_new _ _
                  replace H6 := Lib.hid (own_on H6.out hbn)
                  obtain ⟨g0, hg0⟩ : ∃ z, z = w_6_.heap.size := ⟨_, rfl⟩
                  have H0 : Hid (w_6_0_.ownsRow w.heap.size 3 1 (.slice (some ⟨g0, 0, none⟩) 0 0) ([] : List Int).length (intsV [])) := Lib.hid (by rw [hwn, hg0]; exact own_lit w_6_ [] (hHeld.size))
                  have HNE : Hid (g6 ≠ g0) := Lib.hid (fun e => by have := (H6p.out); omega)
                  have H0p : Hid (g0 < w_6_0_.heap.size) := Lib.hid (by rw [hwn, hg0]; simp)
                  rw [← hg0]
                  refine hK.out _ _ (bch hHeld hbn) (fun hHeld => ?_)
                  clear hwn hbn hg0 hK K
                  (try simp only [Act.put, List.setIfInBounds_toArray, List.set_cons_zero, List.set_cons_succ])
                  refine wpAnyH_ready (rs := [4]) (by kernel_rfl) (by simp) (AllReadyH.cons (o := { dst := some 28, op := Op.call { callee := Callee.builtin Builtin.append, args := #[Operand.tmp 24, Operand.tmp 27], argTypes := #[22, 22] }, type := 22, pos := "ref.go:52", after := #[{ on := 0, ground := Ground.data }, { on := 3, ground := Ground.data }], guard := none }) rfl (fun K hK => ?_) AllReadyH.nil)
                  · refine step_append_int (by rfl) (.tmp 24) (.tmp 27) rfl w.heap.size (.slice (some ⟨g0, 0, none⟩) 0 0) _ ([]) (l.take k) rfl rfl H0.out (HTK.out w_6_0_ hHeld) hHeld.size (HE4.out) HL4.out ?_
                    intro v4 w_6_0_4_ hown hgr
                    have H4 := Lib.hid hown
                    have hbn : Below w.heap.size w w_6_0_4_ := hHeld.grown hgr hHeld.size (fun r e => (own_in H0.out e).1)
                    replace H6 := Lib.hid (own_grown H6.out hgr (fun r e e2 => by cases e; cases e2; exact HNE.out rfl))
                    obtain ⟨a4, c4, rfl⟩ := own_slice hown
                    refine hK _ _ hbn (fun hHeld => ?_)
                    clear hown hgr hbn hK K
                    (try simp only [Act.put, List.setIfInBounds_toArray, List.set_cons_zero, List.set_cons_succ])
                    refine wpAnyH_ready (rs := [7]) (by kernel_rfl) (by simp) (AllReadyH.cons (o := { dst := some 31, op := Op.call { callee := Callee.builtin Builtin.append, args := #[Operand.tmp 28, Operand.tmp 30], argTypes := #[22, 22] }, type := 22, pos := "ref.go:52", after := #[{ on := 4, ground := Ground.data }, { on := 6, ground := Ground.data }, { on := 4, ground := Ground.chain }], guard := none }) rfl (fun K hK => ?_) AllReadyH.nil)
                    · refine step_append_int (by rfl) (.tmp 28) (.tmp 30) rfl w.heap.size (.slice a4 R4.length c4) (.slice (some ⟨g6, 0, none⟩) 1 1) (R4) ([x]) rfl rfl H4.out (Rd.of_own H6.out) hHeld.size (HE7.out) HL7.out ?_
                      intro v7 w_6_0_4_7_ hown hgr
                      have H7 := Lib.hid hown
                      have hbn : Below w.heap.size w w_6_0_4_7_ := hHeld.grown hgr hHeld.size (fun r e => (own_in H4.out e).1)
                      obtain ⟨a7, c7, rfl⟩ := own_slice hown
                      refine hK _ _ hbn (fun hHeld => ?_)
                      clear hown hgr hbn hK K
                      (try simp only [Act.put, List.setIfInBounds_toArray, List.set_cons_zero, List.set_cons_succ])
                      refine wpAnyH_ready (rs := [11]) (by kernel_rfl) (by simp) (AllReadyH.cons (o := { dst := some 35, op := Op.call { callee := Callee.builtin Builtin.append, args := #[Operand.tmp 31, Operand.tmp 34], argTypes := #[22, 22] }, type := 22, pos := "ref.go:52", after := #[{ on := 7, ground := Ground.data }, { on := 10, ground := Ground.data }, { on := 7, ground := Ground.chain }], guard := none }) rfl (fun K hK => ?_) AllReadyH.nil)
                      · refine step_append_int (by rfl) (.tmp 31) (.tmp 34) rfl w.heap.size (.slice a7 R7.length c7) _ (R7) (l.drop k) rfl rfl H7.out (HDR.out w_6_0_4_7_ hHeld) hHeld.size (HE11.out) HL11.out ?_
                        intro v11 w_6_0_4_7_11_ hown hgr
                        have H11 := Lib.hid hown
                        have hbn : Below w.heap.size w w_6_0_4_7_11_ := hHeld.grown hgr hHeld.size (fun r e => (own_in H7.out e).1)
                        obtain ⟨a11, c11, rfl⟩ := own_slice hown
                        refine hK _ _ hbn (fun hHeld => ?_)
                        clear hown hgr hbn hK K
                        (try simp only [Act.put, List.setIfInBounds_toArray, List.set_cons_zero, List.set_cons_succ])
                        refine wpAnyH_take (i := 12) (oi := { dst := some 4, op := Op.assign (Operand.tmp 35), type := 22, pos := "ref.go:52", after := #[{ on := 11, ground := Ground.data }, { on := 11, ground := Ground.chain }, { on := 0, ground := Ground.phase }, { on := 1, ground := Ground.phase }, { on := 2, ground := Ground.phase }, { on := 3, ground := Ground.phase }, { on := 4, ground := Ground.phase }, { on := 5, ground := Ground.phase }, { on := 6, ground := Ground.phase }, { on := 7, ground := Ground.phase }, { on := 8, ground := Ground.phase }, { on := 9, ground := Ground.phase }, { on := 10, ground := Ground.phase }, { on := 11, ground := Ground.phase }], guard := none }) (v := ?_) rfl (by kernel_rfl) (by kernel_rfl) (by kernel_rfl) (fun _ _ _ h => h) (Or.inl ⟨by rfl, ?_⟩) hHeld ?_
                        rotate_left
                        · (intro w hSw; go_simp; try with_reducible rfl)
                        (try simp only [Act.put, List.setIfInBounds_toArray, List.set_cons_zero, List.set_cons_succ])
                        refine wpAnyH_done (by kernel_rfl) ?_ _
                        first | refine hK2 _ _ (Met.intro (hJ _ _ ?_)) | refine Met.intro (hJ _ _ ?_)
                        (repeat apply Exists.intro)
                        refine ⟨?_, rfl⟩
                        exact ⟨_, _, rfl, H11, Lib.hid hHeld⟩
            case rest =>
            obtain ⟨a', c', rfl, HOW, HBW⟩ := hcut
            go_wp2_with fail
            go_ret
            first | exact ⟨_, rfl, (fun h => by cases h), (fun _ => by rw [HPI.out]; exact HOW.out), HBW.out⟩ | exact ⟨_, rfl, by rw [HPI.out]; exact HOW.out, HBW.out⟩ | exact ⟨rfl, by rw [HPI.out]; exact HOW.out, HBW.out⟩


end Go.Proofs.YtgmplpfbhcdofaaGreat

namespace Go.Proofs.YtgmplpfbhcdofaaGreat
open Go.RowKit Go.Shelf Go.Lib
attribute [local go_sem] Oper.semAt_some

theorem put_own (l : List Int) (x : Int) (v : Value) (w : World) (B : Nat) (hv : w.ownsRow B 3 1 v l.length (intsV l)) (hl : l.length ≤ 100000) (hB : B ≤ w.heap.size) : Calls Tryz.prog 26 #[v, .int .i64 x] w fun e w' =>
    ∃ v', e = .returned v' ∧ w'.ownsRow B 3 1 v' (putI l x).length (intsV (putI l x)) ∧ Below w.heap.size w w' := by
  refine (put_any l x v w B hv hl).mono ?_
  rintro e w' ⟨v', rfl, h1, h2, hb⟩
  refine ⟨v', rfl, ?_, hb⟩
  cases hh : hasI l x with
  | true =>
    have e1 : putI l x = l := by unfold putI; rw [if_pos hh]
    rw [h1 hh, e1]
    exact own_on hv hb
  | false => exact own_low (h2 hh) hB
/-- One after another put into a set. -/
def putsI (l : List Int) : List Int := l.foldl putI []
theorem putsI_snoc (l : List Int) (x : Int) : putsI (l ++ [x]) = putI (putsI l) x := by simp [putsI]
theorem puts_set (l : List Int) : UpS leI (putsI l) ∧ ∀ y, y ∈ putsI l ↔ y ∈ l := by
  induction l using Pt.snoc_ind with
  | nil => exact ⟨List.Pairwise.nil, fun y => Iff.rfl⟩
  | snoc l x ih =>
    rw [putsI_snoc]
    refine ⟨putI_up ih.1 x, fun y => ?_⟩
    rw [putI_mem, ih.2 y]
    simp
theorem puts_uni (l : List Int) : putsI l = uniI l := up_one (puts_set l).1 (uniI_up l) (fun y => by rw [(puts_set l).2 y, uniI_mem])
theorem putsI_len (l : List Int) : (putsI l).length ≤ l.length := by rw [puts_uni]; exact uniI_len l
def someL (a b : List Int) (inn : Bool) : List Int := a.filter fun x => hasI b x == inn
theorem some_meet (a b : List Int) : putsI (someL a b true) = meetI a b := by
  refine up_one (puts_set _).1 (meetI_up a b) (fun y => ?_)
  rw [(puts_set _).2 y, meetI_mem]
  unfold someL
  rw [List.mem_filter, beq_iff_eq, hasI_iff]
theorem some_less (a b : List Int) : putsI (someL a b false) = lessI a b := by
  refine up_one (puts_set _).1 (lessI_up a b) (fun y => ?_)
  rw [(puts_set _).2 y, lessI_mem]
  unfold someL
  rw [List.mem_filter, beq_iff_eq, ← Bool.not_eq_true, hasI_iff]
theorem some_take (a b : List Int) (inn : Bool) (k : Nat) (x : Int) (h : a[k]? = some x) : someL (a.take (k + 1)) b inn = if (hasI b x == inn) = true then someL (a.take k) b inn ++ [x] else someL (a.take k) b inn := by
  rw [List.take_add_one, h]
  unfold someL
  rw [Option.toList_some, List.filter_append]
  cases hc : (hasI b x == inn) <;> simp [hc]
set_option maxRecDepth 100000 in
set_option maxHeartbeats 2000000 in
theorem some_any (a b : List Int) (inn : Bool) (v1 v2 : Value) (w : World) (h1 : Rd w v1 (intsV a)) (h2 : Rd w v2 (intsV b)) (ha : a.length ≤ 10000) (hb : b.length ≤ 1000000) : Calls Tryz.prog 27 #[v1, v2, .bool inn] w fun e w' => OwnI w w.heap.size e w' (putsI (someL a b inn)) := by
  have H1 := Lib.hid h1
  have H2 := Lib.hid h2
  obtain ⟨a1, c1, rfl, _⟩ := h1.open'
  rw [intsV_len] at H1 ⊢
  obtain ⟨n, hn⟩ : ∃ n, n = a.length := ⟨_, rfl⟩
  rw [← hn] at H1 ha ⊢
  have HN := Lib.hid hn
  have HLB := Lib.hid hb
  clear h1 h2 hn hb
  go_enter Tryz.func27, Tryz.ntmps27
  go_wp2_with fail
  go_loopw [7, 12] (fun out i W => ∃ k : Nat, k ≤ n ∧ i = .int .i64 (k : Int) ∧ Hid (W.ownsRow w.heap.size 3 1 out (putsI (someL (a.take k) b inn)).length (intsV (putsI (someL (a.take k) b inn)))) ∧ Hid (Below w.heap.size w W)) (fun _ i _ => n - (Lib.intOf i).toNat)
  case atStart => exact ⟨0, Nat.zero_le _, rfl, Lib.hid (World.ownsRow_nil _ _ _ _), Lib.hid (Below.refl _ _)⟩
  case round =>
    obtain ⟨k, hk, rfl, HO, HB⟩ := hrel
    obtain ⟨wq, hwq⟩ : ∃ q, q = wr := ⟨_, rfl⟩
    rw [← hwq] at HO HB ⊢
    clear hwq
    by_cases hlt : k < n
    · have hkl : k < a.length := by rw [← HN.out]; exact hlt
      obtain ⟨g, o, rfl, q0⟩ := int_at3 (H1.out.on HB.out) k hkl
      have k1 : (k : Int) < (n : Int) := by omega
      have k2 : (0 : Int) ≤ (k : Int) := by omega
      have k4 : IntKind.i64.wrap ((k : Int) + 1) = (k : Int) + 1 := IntWalk.i64_in _ (by omega)
      obtain ⟨x, hx⟩ : ∃ x, x = a[k] := ⟨_, rfl⟩
      rw [← hx] at q0
      have HST := Lib.hid (some_take a b inn k x (by rw [hx]; exact List.getElem?_eq_getElem hkl))
      have HHS := Lib.hid (has_any b x v2 wq (H2.out.on HB.out) HLB.out)
      obtain ⟨hb, hhb⟩ : ∃ z, z = hasI b x := ⟨_, rfl⟩
      rw [← hhb] at HST HHS
      clear hx hhb
      cases he : (hb == inn) with
      | true =>
        have HE : Hid (putsI (someL (a.take (k + 1)) b inn) = putI (putsI (someL (a.take k) b inn)) x) := Lib.hid (by rw [HST.out, if_pos he, putsI_snoc])
        have HLS : Hid ((putsI (someL (a.take k) b inn)).length ≤ 100000) := Lib.hid (by
          have h1 := putsI_len (someL (a.take k) b inn)
          have h2 : (someL (a.take k) b inn).length ≤ (a.take k).length := List.length_filter_le _ _
          rw [List.length_take] at h2
          omega)
        obtain ⟨L, hL⟩ : ∃ z, z = putsI (someL (a.take k) b inn) := ⟨_, rfl⟩
        rw [← hL] at HE HLS HO
        have HPO := Lib.hid (put_own L x _ wq _ HO.out HLS.out HB.out.size)
        clear hL HST
        obtain ⟨ao, co, rfl⟩ := own_slice HO.out
        go_wp2_with (first
          | (go_at_call 50; refine HHS.out.mono ?_; rintro e w' ⟨rfl, rfl⟩)
          | (go_at_call 26; refine HPO.out.mono ?_; rintro e w5 ⟨v5, rfl, ho, hb5⟩; have HO5 := Lib.hid ho; have HB5 := Lib.hid (bch HB.out hb5); clear ho hb5))
        go_roundw
        case rel => exact ⟨k + 1, by omega, by go_num, Lib.hid (by rw [HE.out]; exact HO5.out), HB5⟩
        case measure => simp [Lib.intOf]; omega
      | false =>
        have HE : Hid (someL (a.take (k + 1)) b inn = someL (a.take k) b inn) := Lib.hid (by rw [HST.out, if_neg (by rw [he]; decide)])
        clear HST
        obtain ⟨ao, co, rfl⟩ := own_slice HO.out
        go_wp2_with (go_at_call 50; refine HHS.out.mono ?_; rintro e w' ⟨rfl, rfl⟩)
        go_roundw
        case rel => exact ⟨k + 1, by omega, by go_num, Lib.hid (by rw [HE.out]; exact HO.out), HB⟩
        case measure => simp [Lib.intOf]; omega
    · have k1 : ¬ ((k : Int) < (n : Int)) := by omega
      have HE : Hid (a.take k = a) := Lib.hid (List.take_of_length_le (by rw [← HN.out]; omega))
      rw [HE.out] at HO
      obtain ⟨ao, co, rfl⟩ := own_slice HO.out
      go_wp2_with fail
      go_ret
      exact ⟨_, rfl, HO.out, HB.out⟩
end Go.Proofs.YtgmplpfbhcdofaaGreat

namespace Go.Proofs
open Go.Shelf
def Tryz.laysNm215_ren : Go.Shelf.Ren := ⟨fun | 15 => 25 | n => n, fun | 3 => 3 | 4 => 4 | 22 => 22 | n => n, fun | n => n⟩
theorem Tryz.laysNm215 : Go.Proofs.Lays2.n15 Tryz.prog Tryz.laysNm215_ren := {
  mixed := by kernel_rfl
  f15 := Tryz.func25.trans (congrArg some (by kernel_rfl))
  t3 := Tryz.underlying3
  a3 := Tryz.isAgg3
  z3 := Tryz.sizeOf3
  v3 := Tryz.zeroValue3
  t4 := Tryz.underlying4
  a4 := Tryz.isAgg4
  z4 := Tryz.sizeOf4
  v4 := Tryz.zeroValue4
  t22 := Tryz.underlying22
  a22 := Tryz.isAgg22
  z22 := Tryz.sizeOf22
  v22 := Tryz.zeroValue22
  i3 := by kernel_rfl }
end Go.Proofs
namespace Go.Proofs.YtgmplpfbhcdofaaGreat
open Go.RowKit Go.Shelf Go.Lib
attribute [local go_sem] Oper.semAt_some

theorem clone_int (l : List Int) (v : Value) (w : World) (hv : Rd w v (intsV l)) (hl : l.length ≤ 1000000) : Calls Tryz.prog 25 #[v] w fun e w' => OwnI w w.heap.size e w' l := by
  obtain ⟨a, c, rfl, hc1, hc2, hn, hc⟩ := hv
  rw [intsV_len] at hc hc1 ⊢
  cases a with
  | none =>
    obtain ⟨h0, rfl⟩ := hn rfl
    have e0 : l = [] := by
      cases l with
      | nil => rfl
      | cons x t => simp [intsV] at h0
    subst e0
    refine (Any.slices_Clone_int_nil Tryz.laysNm215 _ 0 w).mono ?_
    rintro e w' ⟨rfl, rfl⟩
    exact ⟨_, rfl, World.ownsRow_nil _ _ _ _, Below.refl _ _⟩
  | some ad =>
    rcases Nat.eq_zero_or_pos l.length with h0 | h0
    · have e0 : l = [] := List.eq_nil_of_length_eq_zero h0
      subst e0
      refine (Any.slices_Clone_int_zero Tryz.laysNm215 ad c w).mono ?_
      rintro e w' ⟨v', rfl, h1, _, hb⟩
      exact ⟨v', rfl, h1, hb⟩
    · obtain ⟨g, o, e, _, hcc⟩ := hc h0
      cases e
      refine (Any.slices_Clone_int Tryz.laysNm215 g o l.length c l w (Nat.le_refl _) (by omega) (fun j hj => ?_)).mono ?_
      · exact hcc j _ (by unfold intsV; rw [List.getElem?_map, List.getElem?_eq_getElem hj, getD_of hj]; rfl)
      · rintro e w' ⟨v', rfl, h1, _, hb⟩
        rw [List.take_length] at h1
        exact ⟨v', rfl, h1, hb⟩
theorem rdr_none (w : World) : RdR w (.slice none 0 0) (([] : List (List Int)).map intsV) := ⟨[], Rd.nil w, rfl, fun i x r hx _ => by simp at hx⟩
set_option maxRecDepth 100000 in
set_option maxHeartbeats 4000000 in
theorem numbers_any (A B : List Int) (v1 v2 : Value) (w : World) (h1 : Rd w v1 (intsV A)) (h2 : Rd w v2 (intsV B)) (ha : A.length ≤ 1000) (hb : B.length ≤ 1000) : Calls Tryz.prog 7 #[v1, v2] w fun e w' => e = .returned (.bool true) ∧ Below w.heap.size w w' := by
  have RA := Lib.hid h1
  have RB := Lib.hid h2
  have LA : Hid (A.length ≤ 1000000) := Lib.hid (by omega)
  have LB : Hid (B.length ≤ 1000000) := Lib.hid (by omega)
  have LA2 : Hid (A.length ≤ 10000) := Lib.hid (by omega)
  have LAB : Hid ([A, B].flatten.length ≤ 1000000) := Lib.hid (by simp; omega)
  have HB : Hid (Below w.heap.size w w) := Lib.hid (Below.refl _ _)
  obtain ⟨a1, c1, rfl, _⟩ := h1.open'
  obtain ⟨a2, c2, rfl, _⟩ := h2.open'
  rw [intsV_len] at RA RB
  rw [intsV_len, intsV_len]
  obtain ⟨n1, hn1⟩ : ∃ n, n = A.length := ⟨_, rfl⟩
  obtain ⟨n2, hn2⟩ : ∃ n, n = B.length := ⟨_, rfl⟩
  rw [← hn1] at RA ⊢
  rw [← hn2] at RB ⊢
  obtain ⟨AB, hAB⟩ : ∃ z, z = A ++ B := ⟨_, rfl⟩
  have HAB := Lib.hid hAB
  have hlab : AB.length ≤ 2000 := by rw [hAB, List.length_append]; omega
  have HNAB : Hid (A.length + B.length ≤ 1000000) := Lib.hid (by omega)
  obtain ⟨ALL, hALL⟩ : ∃ z, z = uniI [A, B].flatten := ⟨_, rfl⟩
  have HALL := Lib.hid hALL
  have HPA : Hid (putsI AB = ALL) := Lib.hid (by rw [puts_uni, hALL, hAB]; simp)
  obtain ⟨M, hM⟩ : ∃ z, z = meetI A B := ⟨_, rfl⟩
  have HM := Lib.hid hM
  have HM2 : Hid (putsI (someL A B true) = M) := Lib.hid (by rw [hM]; exact some_meet A B)
  obtain ⟨N, hN⟩ : ∃ z, z = lessI A B := ⟨_, rfl⟩
  have HN := Lib.hid hN
  have HN2 : Hid (putsI (someL A B false) = N) := Lib.hid (by rw [hN]; exact some_less A B)
  clear h1 h2 ha hb hn1 hn2 hAB hALL hM hN
  go_enter Tryz.func7, Tryz.ntmps7
  go_upto_region 3 with (first
    | (go_at_call 25; have mk := RX; clear mk; refine (clone_int B _ _ RB.out LB.out).mono ?_; rintro e w2 ⟨vw2, rfl, ho, hb⟩; have hx := hb; replace RA := Lib.hid (RA.out.on hx); replace RB := Lib.hid (RB.out.on hx); replace RX := Lib.hid (RX.out.on hx); replace HB := Lib.hid (bch HB.out hx); have RY := Lib.hid (Rd.of_own ho); obtain ⟨aw2, cw2, rfl⟩ := own_slice ho; clear ho hb hx)
    | (go_at_call 25; refine (clone_int A _ _ RA.out LA.out).mono ?_; rintro e w1 ⟨vw1, rfl, ho, hb⟩; have hx := hb; replace RA := Lib.hid (RA.out.on hx); replace RB := Lib.hid (RB.out.on hx); replace HB := Lib.hid (bch HB.out hx); have RX := Lib.hid (Rd.of_own ho); obtain ⟨aw1, cw1, rfl⟩ := own_slice ho; clear ho hb hx))
  have HCL := Lib.hid (clone_int A _ w2 RA.out LA.out)
  go_wp2_with (first
    | (go_at_call 25; refine HCL.out.mono ?_; rintro e w3 ⟨v3, rfl, ho, hb⟩; have HO3 := Lib.hid ho; have HB23 := Lib.hid hb; obtain ⟨a3, c3, rfl⟩ := own_slice ho; clear ho hb)
    | (at_builtin; go_loud (refine wpList_append_at rfl (.tmp 15) (.tmp 16) 22 3 (.int .i64 0) 8 rfl Tryz.underlying22 info3 rfl w2.heap.size _ _ (intsV A) (intsV B) rfl (by rw [intsV_len]; exact HO3.out) rfl (RB.out.on HB23.out) (intsV_one B) HB23.out.size (by rw [intsV_len, intsV_len]; have := HNAB.out; omega) (by decide) ?_; intro v4 w4 hown hgr hat; have HO4 : Hid (w4.ownsRow w2.heap.size 3 1 v4 AB.length (intsV AB)) := Lib.hid (by have e9 : intsV A ++ intsV B = intsV AB := (by rw [HAB.out]; simp [intsV]); rw [e9, intsV_len] at hown; exact hown); have HB24 : Hid (Below w2.heap.size w2 w4) := Lib.hid (HB23.out.grown hgr HB23.out.size (fun r e => (own_in HO3.out e).1)); clear hown hgr hat; refine Hid.out ?_)))
  refine Lib.hid ?_
  replace RA := Lib.hid (RA.out.on HB24.out)
  replace RB := Lib.hid (RB.out.on HB24.out)
  replace RX := Lib.hid (RX.out.on HB24.out)
  replace RY := Lib.hid (RY.out.on HB24.out)
  replace HB := Lib.hid (bch HB.out HB24.out)
  have RAB := Lib.hid (Rd.of_own HO4.out)
  obtain ⟨a4, c4, rfl⟩ := own_slice HO4.out
  obtain ⟨n, hn⟩ : ∃ n, n = AB.length := ⟨_, rfl⟩
  rw [← hn] at RAB hlab ⊢
  have HNN := Lib.hid hn
  clear hn HO4 HO3 HB23 HB24 HCL HNAB
  go_wp2_with fail
  go_loopw [7, 19] (fun out i W => ∃ k : Nat, k ≤ n ∧ i = .int .i64 (k : Int) ∧ Hid (W.ownsRow w4.heap.size 3 1 out (putsI (AB.take k)).length (intsV (putsI (AB.take k)))) ∧ Hid (Below w4.heap.size w4 W)) (fun _ i _ => n - (Lib.intOf i).toNat)
  case atStart => exact ⟨0, Nat.zero_le _, rfl, Lib.hid (World.ownsRow_nil _ _ _ _), Lib.hid (Below.refl _ _)⟩
  case round =>
    obtain ⟨k, hk, rfl, HO, HBK⟩ := hrel
    obtain ⟨wq, hwq⟩ : ∃ q, q = wr := ⟨_, rfl⟩
    rw [← hwq] at HO HBK ⊢
    clear hwq
    by_cases hlt : k < n
    · have hkl : k < AB.length := by rw [← HNN.out]; exact hlt
      obtain ⟨g, o, rfl, q0⟩ := int_at3 (RAB.out.on HBK.out) k hkl
      have k1 : (k : Int) < (n : Int) := by omega
      have k2 : (0 : Int) ≤ (k : Int) := by omega
      have k4 : IntKind.i64.wrap ((k : Int) + 1) = (k : Int) + 1 := IntWalk.i64_in _ (by omega)
      obtain ⟨x, hx⟩ : ∃ x, x = AB[k] := ⟨_, rfl⟩
      rw [← hx] at q0
      have HE : Hid (putsI (AB.take (k + 1)) = putI (putsI (AB.take k)) x) := Lib.hid (by
        rw [← putsI_snoc]
        congr 1
        rw [List.take_add_one, List.getElem?_eq_getElem hkl, hx]
        rfl)
      have HLS : Hid ((putsI (AB.take k)).length ≤ 100000) := Lib.hid (by
        have h1 := putsI_len (AB.take k)
        rw [List.length_take] at h1
        omega)
      clear hx
      obtain ⟨L, hL⟩ : ∃ z, z = putsI (AB.take k) := ⟨_, rfl⟩
      rw [← hL] at HE HLS HO
      have HPO := Lib.hid (put_own L x _ wq _ HO.out HLS.out HBK.out.size)
      clear hL
      obtain ⟨ao, co, rfl⟩ := own_slice HO.out
      go_wp2_with (go_at_call 26; refine HPO.out.mono ?_; rintro e w5 ⟨v5, rfl, ho, hb5⟩; have HO5 := Lib.hid ho; have HB5 := Lib.hid (bch HBK.out hb5); clear ho hb5)
      go_roundw
      case rel => exact ⟨k + 1, by omega, by go_num, Lib.hid (by rw [HE.out]; exact HO5.out), HB5⟩
      case measure => simp [Lib.intOf]; omega
    · have k1 : ¬ ((k : Int) < (n : Int)) := by omega
      have HE : Hid (putsI (AB.take k) = ALL) := Lib.hid (by rw [List.take_of_length_le (by rw [← HNN.out]; omega)]; exact HPA.out)
      rw [HE.out] at HO
      obtain ⟨ao, co, rfl⟩ := own_slice HO.out
      have RALL := Lib.hid (Rd.of_own HO.out)
      replace RA := Lib.hid (RA.out.on HBK.out)
      replace RB := Lib.hid (RB.out.on HBK.out)
      replace RX := Lib.hid (RX.out.on HBK.out)
      replace RY := Lib.hid (RY.out.on HBK.out)
      replace HB := Lib.hid (bch HB.out HBK.out)
      clear HO HBK RAB HPA HAB HE HNN
      go_upto_region 10 with (first
        | (go_at_call 23; have mk := RT; clear mk; refine (eqi_all N N _ _ _ RL.out RT.out).mono ?_; rintro e wk ⟨rfl, hb⟩; rw [show decide (N = N) = true from decide_eq_true rfl]; replace RA := Lib.hid (RA.out.on hb); replace RB := Lib.hid (RB.out.on hb); replace RX := Lib.hid (RX.out.on hb); replace RY := Lib.hid (RY.out.on hb); replace RALL := Lib.hid (RALL.out.on hb); replace HB := Lib.hid (bch HB.out hb); clear hb)
        | (go_at_call 27; have mk := RL; clear mk; refine (some_any A B false _ _ _ RA.out RB.out LA2.out LB.out).mono ?_; rintro e wh ⟨vwh, rfl, ho, hb⟩; rw [HN2.out] at ho; have hx := hb; replace RA := Lib.hid (RA.out.on hx); replace RB := Lib.hid (RB.out.on hx); replace RX := Lib.hid (RX.out.on hx); replace RY := Lib.hid (RY.out.on hx); replace RALL := Lib.hid (RALL.out.on hx); replace RL := Lib.hid (RL.out.on hx); replace HB := Lib.hid (bch HB.out hx); have RT := Lib.hid (Rd.of_own ho); obtain ⟨awh, cwh, rfl⟩ := own_slice ho; clear ho hb hx)
        | (go_at_call 22; refine (less_any A B _ _ _ RX.out RY.out LA.out LB.out).mono ?_; rintro e wg ⟨vwg, rfl, ho, hb⟩; rw [← HN.out] at ho; have hx := hb; replace RA := Lib.hid (RA.out.on hx); replace RB := Lib.hid (RB.out.on hx); replace RX := Lib.hid (RX.out.on hx); replace RY := Lib.hid (RY.out.on hx); replace RALL := Lib.hid (RALL.out.on hx); replace HB := Lib.hid (bch HB.out hx); have RL := Lib.hid (Rd.of_own ho); obtain ⟨awg, cwg, rfl⟩ := own_slice ho; clear ho hb hx)
        | (go_at_call 23; have mk := RS; clear mk; refine (eqi_all M M _ _ _ RM.out RS.out).mono ?_; rintro e wf ⟨rfl, hb⟩; rw [show decide (M = M) = true from decide_eq_true rfl]; replace RA := Lib.hid (RA.out.on hb); replace RB := Lib.hid (RB.out.on hb); replace RX := Lib.hid (RX.out.on hb); replace RY := Lib.hid (RY.out.on hb); replace RALL := Lib.hid (RALL.out.on hb); replace HB := Lib.hid (bch HB.out hb); clear hb)
        | (go_at_call 27; have mk := RM; clear mk; refine (some_any A B true _ _ _ RA.out RB.out LA2.out LB.out).mono ?_; rintro e we ⟨vwe, rfl, ho, hb⟩; rw [HM2.out] at ho; have hx := hb; replace RA := Lib.hid (RA.out.on hx); replace RB := Lib.hid (RB.out.on hx); replace RX := Lib.hid (RX.out.on hx); replace RY := Lib.hid (RY.out.on hx); replace RALL := Lib.hid (RALL.out.on hx); replace RM := Lib.hid (RM.out.on hx); replace HB := Lib.hid (bch HB.out hx); have RS := Lib.hid (Rd.of_own ho); obtain ⟨awe, cwe, rfl⟩ := own_slice ho; clear ho hb hx)
        | (go_at_call 21; refine (meet_any A B _ _ _ RX.out RY.out LA.out LB.out).mono ?_; rintro e wd ⟨vwd, rfl, ho, hb⟩; rw [← HM.out] at ho; have hx := hb; replace RA := Lib.hid (RA.out.on hx); replace RB := Lib.hid (RB.out.on hx); replace RX := Lib.hid (RX.out.on hx); replace RY := Lib.hid (RY.out.on hx); replace RALL := Lib.hid (RALL.out.on hx); replace HB := Lib.hid (bch HB.out hx); have RM := Lib.hid (Rd.of_own ho); obtain ⟨awd, cwd, rfl⟩ := own_slice ho; clear ho hb hx)
        | (go_at_call 23; have mk := RU; clear mk; refine (eqi_all ALL ALL _ _ _ RU.out RALL.out).mono ?_; rintro e wc ⟨rfl, hb⟩; rw [show decide (ALL = ALL) = true from decide_eq_true rfl]; replace RA := Lib.hid (RA.out.on hb); replace RB := Lib.hid (RB.out.on hb); replace RX := Lib.hid (RX.out.on hb); replace RY := Lib.hid (RY.out.on hb); replace RALL := Lib.hid (RALL.out.on hb); replace HB := Lib.hid (bch HB.out hb); clear hb)
        | (go_at_call 20; refine (union_any [A, B] _ _ (rdr_pair RX.out RY.out) LAB.out).mono ?_; rintro e wb ⟨vwb, rfl, ho, hb⟩; rw [← HALL.out] at ho; have hx := (bch (below_new _ _) hb); replace RA := Lib.hid (RA.out.on hx); replace RB := Lib.hid (RB.out.on hx); replace RX := Lib.hid (RX.out.on hx); replace RY := Lib.hid (RY.out.on hx); replace RALL := Lib.hid (RALL.out.on hx); replace HB := Lib.hid (bch HB.out hx); have RU := Lib.hid (Rd.of_own ho); obtain ⟨awb, cwb, rfl⟩ := own_slice ho; clear ho hb hx))
      go_wp2_with (first
        | (go_at_call 23; have mk := MKD; clear mk; refine (eqi_all B B _ _ _ RY.out RB.out).mono ?_; rintro e wm ⟨rfl, hb⟩; rw [show decide (B = B) = true from decide_eq_true rfl]; replace RA := Lib.hid (RA.out.on hb); replace RB := Lib.hid (RB.out.on hb); replace RX := Lib.hid (RX.out.on hb); replace RY := Lib.hid (RY.out.on hb); replace RALL := Lib.hid (RALL.out.on hb); replace HB := Lib.hid (bch HB.out hb); clear hb)
        | (go_at_call 23; refine (eqi_all A A _ _ _ RX.out RA.out).mono ?_; rintro e wl ⟨rfl, hb⟩; rw [show decide (A = A) = true from decide_eq_true rfl]; replace RA := Lib.hid (RA.out.on hb); replace RB := Lib.hid (RB.out.on hb); replace RX := Lib.hid (RX.out.on hb); replace RY := Lib.hid (RY.out.on hb); replace RALL := Lib.hid (RALL.out.on hb); replace HB := Lib.hid (bch HB.out hb); have MKD := Lib.hid trivial; clear hb)
        | (go_at_call 20; refine (union_any [] _ _ (rdr_none _) (by simp)).mono ?_; rintro e wn ⟨vwn, rfl, ho, hb⟩; rw [show uniI ([] : List (List Int)).flatten = [] from by simp [uniI, sortI, Lib.compact, Lib.compactUpTo], List.length_nil] at ho; have hx := hb; replace RA := Lib.hid (RA.out.on hx); replace RB := Lib.hid (RB.out.on hx); replace RX := Lib.hid (RX.out.on hx); replace RY := Lib.hid (RY.out.on hx); replace RALL := Lib.hid (RALL.out.on hx); replace HB := Lib.hid (bch HB.out hx); have RE := Lib.hid (Rd.of_own ho); obtain ⟨awn, cwn, rfl⟩ := own_slice ho; clear ho hb hx))
      go_ret
      exact ⟨rfl, HB.out⟩
end Go.Proofs.YtgmplpfbhcdofaaGreat
