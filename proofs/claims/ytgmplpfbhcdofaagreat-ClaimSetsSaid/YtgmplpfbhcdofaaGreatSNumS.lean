/- Proved here: Has and Put of puncheonref16, of texts. Put of puncheonref16, of texts. Some of puncheonref16, of texts; what it and Put make is the set. Clone of texts; texts of puncheonlaw16: the sets of two of texts are what the document says. -/
import Derived.Test.YtgmplpfbhcdofaaGreatSNum
import Derived.Test.YtgmplpfbhcdofaaGreatGSetS
import Derived.Shelf.Slices.Clone
namespace Go.Proofs.YtgmplpfbhcdofaaGreat
open Go.RowKit Go.Shelf Go.Lib
attribute [local go_sem] Oper.semAt_some

def ltT (x y : Bs) : Bool := decide (y < x)
/-- A set in order, with one more. -/
def putT (l : List Bs) (x : Bs) : List Bs := if hasT l x = true then l else l.takeWhile (ltT x) ++ x :: l.dropWhile (ltT x)
theorem putT_mem (l : List Bs) (x y : Bs) : y ∈ putT l x ↔ y ∈ l ∨ y = x := by
  unfold putT
  split
  · rename_i h
    rw [hasT_iff] at h
    constructor
    · exact .inl
    · rintro (h1 | rfl)
      · exact h1
      · exact h
  · have e : l.takeWhile (ltT x) ++ l.dropWhile (ltT x) = l := List.takeWhile_append_dropWhile
    have e2 : y ∈ l ↔ y ∈ l.takeWhile (ltT x) ∨ y ∈ l.dropWhile (ltT x) := by rw [← List.mem_append, e]
    rw [List.mem_append, List.mem_cons, e2]
    constructor
    · rintro (h | rfl | h)
      · exact .inl (.inl h)
      · exact .inr rfl
      · exact .inl (.inr h)
    · rintro ((h | h) | rfl)
      · exact .inl h
      · exact .inr (.inr h)
      · exact .inr (.inl rfl)
theorem lt_of {a b : Bs} (h : a ≤ b) (hn : a ≠ b) : a < b := List.not_le.1 (fun h2 => hn (List.le_antisymm h h2))
theorem upT_iff (l : List Bs) : UpS leS l ↔ l.Pairwise (· < ·) := by
  unfold UpS
  constructor
  · exact fun h => h.imp (fun {a b} k => lt_of (by simpa [leS] using k.1) k.2)
  · exact fun h => h.imp (fun {a b} k => ⟨by simp only [leS, decide_eq_true_eq]; exact List.le_of_lt k, fun e => List.lt_irrefl _ (e ▸ k)⟩)
theorem putT_up {l : List Bs} (h : UpS leS l) (x : Bs) : UpS leS (putT l x) := by
  unfold putT
  split
  · exact h
  · rename_i hx
    rw [hasT_iff] at hx
    rw [upT_iff] at h ⊢
    have e : l.takeWhile (ltT x) ++ l.dropWhile (ltT x) = l := List.takeWhile_append_dropWhile
    rw [← e] at h
    obtain ⟨h1, h2, h3⟩ := List.pairwise_append.1 h
    have hT : ∀ y ∈ l.takeWhile (ltT x), y < x := fun y hy => by
      have := tw_mem hy
      simpa [ltT] using this
    have hD : ∀ y ∈ l.dropWhile (ltT x), x < y := by
      intro y hy
      cases ed : l.dropWhile (ltT x) with
      | nil => rw [ed] at hy; cases hy
      | cons z r =>
        have hz : ltT x z = false := by
          have := List.head?_dropWhile_not (ltT x) l
          rw [ed] at this
          simpa using this
        have hz2 : x < z := by
          have h5 : ¬ z < x := by simpa [ltT] using hz
          exact lt_of (List.not_lt.1 h5) (fun k => hx (by rw [← e, ed, ← k]; simp))
        rw [ed] at hy h2
        rcases List.mem_cons.1 hy with rfl | hy
        · exact hz2
        · exact List.lt_trans hz2 ((List.pairwise_cons.1 h2).1 y hy)
    refine List.pairwise_append.2 ⟨h1, List.pairwise_cons.2 ⟨hD, h2⟩, ?_⟩
    intro a ha b hb
    rcases List.mem_cons.1 hb with rfl | hb
    · exact hT a ha
    · exact h3 a ha b hb
theorem putT_len (l : List Bs) (x : Bs) : (putT l x).length ≤ l.length + 1 := by
  unfold putT
  split
  · omega
  · have := congrArg List.length (List.takeWhile_append_dropWhile (p := ltT x) (l := l))
    rw [List.length_append] at this
    rw [List.length_append, List.length_cons]
    omega

set_option maxRecDepth 100000 in
set_option maxHeartbeats 2000000 in
theorem hasT_any (l : List Bs) (x : Bs) (v : Value) (w : World) (hv : Rd w v (strsV l)) (hl : l.length ≤ 1000000) : Calls Tryz.prog 51 #[v, .string ⟨x.toArray⟩] w fun e w' => e = .returned (.bool (hasT l x)) ∧ w = w' := by
  have HV := Lib.hid hv
  obtain ⟨a, c, rfl, _⟩ := hv.open'
  rw [strsV_len] at HV ⊢
  obtain ⟨n, hn⟩ : ∃ n, n = l.length := ⟨_, rfl⟩
  rw [← hn] at HV hl ⊢
  have HN := Lib.hid hn
  clear hv hn
  go_enter Tryz.func51, Tryz.ntmps51
  go_wp2_with fail
  go_loopw [9] (fun i W => ∃ k : Nat, k ≤ n ∧ i = .int .i64 (k : Int) ∧ W = w ∧ Hid (∀ (j : Nat) (hj : j < l.length), j < k → l[j] ≠ x)) (fun i _ => n - (Lib.intOf i).toNat)
  case atStart => exact ⟨0, Nat.zero_le _, rfl, rfl, Lib.hid (fun j _ h => absurd h (Nat.not_lt_zero _))⟩
  case round =>
    obtain ⟨k, hk, rfl, rfl, HLo⟩ := hrel
    by_cases hlt : k < n
    · have hkl : k < l.length := by rw [← HN.out]; exact hlt
      obtain ⟨g, o, rfl, q0⟩ := str_at3 HV.out k hkl
      have k1 : (k : Int) < (n : Int) := by omega
      have k2 : (0 : Int) ≤ (k : Int) := by omega
      have k4 : IntKind.i64.wrap ((k : Int) + 1) = (k : Int) + 1 := IntWalk.i64_in _ (by omega)
      obtain ⟨y, hy⟩ : ∃ y, y = l[k] := ⟨_, rfl⟩
      rw [← hy] at q0
      have q0 : wr.cell? ⟨g, o + k, none⟩ = some (.string ⟨y.toArray⟩) := q0
      by_cases he : y = x
      · have te : (y == x) = true := by simp [he]
        have HH : Hid (hasT l x = true) := Lib.hid (by rw [hasT_iff, ← he, hy]; exact List.getElem_mem _)
        clear hy he
        go_wp2_with fail
        go_ret
        exact ⟨by rw [HH.out]; rfl, rfl⟩
      · have te : (y == x) = false := by simpa using he
        have HE : Hid (∀ (j : Nat) (hj : j < l.length), j < k + 1 → l[j] ≠ x) := Lib.hid (fun j hj h => by
          rcases Nat.lt_or_ge j k with h2 | h2
          · exact HLo.out j hj h2
          · obtain rfl : j = k := by omega
            rw [← hy]
            exact he)
        clear hy he
        go_wp2_with fail
        go_roundw
        case rel => exact ⟨k + 1, by omega, by go_num, trivial, HE⟩
        case measure => simp [Lib.intOf]; omega
    · have k1 : ¬ ((k : Int) < (n : Int)) := by omega
      have HH : Hid (hasT l x = false) := Lib.hid (by
        rw [← Bool.not_eq_true, hasT_iff]
        intro hm
        obtain ⟨j, hj, e⟩ := List.getElem_of_mem hm
        exact HLo.out j hj (by rw [← HN.out] at hj; omega) e)
      go_wp2_with fail
      go_ret
      exact ⟨by rw [HH.out]; rfl, rfl⟩
end Go.Proofs.YtgmplpfbhcdofaaGreat

namespace Go.Proofs.YtgmplpfbhcdofaaGreat
open Go.RowKit Go.Shelf Go.Lib
open Go.Sort hiding Below
attribute [local go_sem] Oper.semAt_some

theorem twT_of {p : Bs → Bool} {l : List Bs} {k : Nat} (h : ∀ (j : Nat) (hj : j < l.length), j < k → p l[j] = true) (hk : k ≤ l.length) (hs : k = l.length ∨ ∃ h : k < l.length, p l[k] = false) : l.takeWhile p = l.take k ∧ l.dropWhile p = l.drop k := by
  induction l generalizing k with
  | nil => simp
  | cons a l ih =>
    cases k with
    | zero =>
      rcases hs with hs | ⟨_, hs⟩
      · simp at hs
      · have : p a = false := by simpa using hs
        simp [this]
    | succ k =>
      have ha : p a = true := h 0 (by simp) (by omega)
      have := ih (k := k) (fun j hj hjk => h (j + 1) (by simpa using hj) (by omega)) (by simpa using hk) (by
        rcases hs with hs | ⟨h1, hs⟩
        · exact .inl (by simpa using hs)
        · exact .inr ⟨by simpa using h1, hs⟩)
      simp [ha, this.1, this.2]
theorem ownT_lit {B : Nat} (w : World) (l : List Bs) (hB : B ≤ w.heap.size) (hl : l.length ≤ 1000000 := by simp) : (w.alloc (.cells (strsV l).toArray 9)).ownsRow B 9 1 (.slice (some ⟨w.heap.size, 0, none⟩) l.length l.length) l.length (strsV l) := by
  have := World.ownsRow_lit (base := B) (e := 9) (size := 1) w (strsV l).toArray l.length hB (by unfold maxLen; omega) (by simp [strsV_len])
  simpa using this
theorem Rd.offT {w : World} {g n c k m d : Nat} {l : List Bs} (h : Rd w (.slice (some ⟨g, 0, none⟩) n c) (strsV l)) (hk : k ≤ n) (hm : m = n - k) (hd : d = c - k) : Rd w (.slice (some ⟨g, k, none⟩) m d) (strsV (l.drop k)) := by
  obtain ⟨a', c', e, h1, h2, hn, h3⟩ := h
  cases e
  rw [strsV_len] at h1 h3 hk hm
  have el : (l.drop k).length = m := by rw [List.length_drop]; omega
  refine ⟨_, d, by rw [strsV_len, el], by rw [strsV_len, el]; omega, by omega, (fun e => by cases e), fun h0 => ?_⟩
  rw [strsV_len, el] at h0
  obtain ⟨g', o, e, hg, hc⟩ := h3 (by omega)
  cases e
  refine ⟨g, k, rfl, hg, fun j u hu => ?_⟩
  have e3 : strsV (l.drop k) = (strsV l).drop k := by simp [strsV, List.map_drop]
  rw [e3, List.getElem?_drop] at hu
  have := hc (k + j) u hu
  rwa [Nat.zero_add] at this
theorem step_append_str {op : Oper} {a : Act} {w : World} {K : Act → World → Prop} {Q : Exit → Act → World → Prop} {ops : Array Oper} {E : Prop} (hw : Region.wanted op (yielded ops a.tmps) = true) (s x : Operand)
    (ho : op.op = .call { callee := .builtin .append, args := #[s, x], argTypes := #[23, 23] }) (B : Nat) (v vx : Value) (l m : List Bs) (hs : a.eval s = v) (hx : a.eval x = vx) (hown : w.ownsRow B 9 1 v l.length (strsV l)) (hsrc : Rd w vx (strsV m)) (hB : B ≤ w.heap.size)
    {r : List Bs} (he : l ++ m = r) (hl : r.length ≤ 1000000) (h : ∀ v' w', w'.ownsRow B 9 1 v' r.length (strsV r) → w.grownBy w' v.ownBlock → K (a.put op.dst v') w') :
    if Region.wanted op (yielded ops a.tmps) = true then op.wp Tryz.prog a w K Q else E := by
  subst he
  rw [List.length_append] at hl
  rw [if_pos hw]
  obtain ⟨i0, hi, hz0, hz1, hz2⟩ := info_parts infoC9
  obtain ⟨ad, cap, rfl, hc1, hc2, hn, hc3⟩ := hsrc
  rw [strsV_len] at hc1 hc3 hx
  have hap : strsV (l ++ m) = strsV l ++ strsV m := by simp [strsV]
  cases ad with
  | none =>
    obtain ⟨hm0, rfl⟩ := hn rfl
    have hm : m = [] := by
      cases m with
      | nil => rfl
      | cons y t => simp [strsV] at hm0
    subst hm
    have hr := run_append_owned_none (P := Tryz.prog) w B 23 op.type 9 i0 1 Tryz.underlying23 hi v l.length (strsV l) hown
    unfold Oper.wp execOp
    simp only [ho, resolve, invoke, builtin, Sem.run_bind, Sem.run_pure, Result.andThen_ok, List.map_toArray, List.map_cons, List.map_nil, hs, hx, List.length_nil, hr]
    exact h v w (by rw [List.append_nil]; exact hown) ⟨rfl, rfl, rfl, Nat.le_refl _, fun _ _ _ => rfl⟩
  | some ad =>
    have hnews : ∀ (j : Nat) (y : Value), (strsV m)[j]? = some y → w.cell? (ad.add j) = some y := fun j y hy => by
      have hlt := (List.getElem?_eq_some_iff.1 hy).1
      rw [strsV_len] at hlt
      obtain ⟨g, o, e, _, hc⟩ := hc3 (by omega)
      cases e
      rw [addr_add]
      exact hc j y hy
    obtain ⟨v', w', hr, r2, r3, _, _⟩ := run_append_own_at (P := Tryz.prog) w B 23 op.type 9 i0 (.string ⟨#[]⟩) 1 16 Tryz.underlying23 hi hz0 hz1 hz2 rfl (by decide) v l.length (strsV l) hown ad m.length cap (strsV m) (by rw [strsV_len, Nat.mul_one]) hnews (strsV_one m) (by unfold maxLen; omega) (by omega) hB
    unfold Oper.wp execOp
    simp only [ho, resolve, invoke, builtin, Sem.run_bind, Sem.run_pure, Result.andThen_ok, List.map_toArray, List.map_cons, List.map_nil, hs, hx, hr]
    exact h v' w' (by rw [List.length_append, hap]; exact r2) r3

set_option maxRecDepth 100000 in
set_option maxHeartbeats 4000000 in
theorem putT_any (l : List Bs) (x : Bs) (v : Value) (w : World) (B : Nat) (hv : w.ownsRow B 9 1 v l.length (strsV l)) (hl : l.length ≤ 100000) : Calls Tryz.prog 29 #[v, .string ⟨x.toArray⟩] w fun e w' =>
    ∃ v', e = .returned v' ∧ (hasT l x = true → v' = v) ∧ (hasT l x = false → w'.ownsRow w.heap.size 9 1 v' (putT l x).length (strsV (putT l x))) ∧ Below w.heap.size w w' := by
  have HH := Lib.hid (hasT_any l x v w (Rd.of_own hv) (by omega))
  have HV := Lib.hid (Rd.of_own hv)
  obtain ⟨a, c, rfl⟩ := own_slice hv
  have hsh : (a = none ∧ l.length = 0 ∧ c = 0) ∨ ∃ g, a = some ⟨g, 0, none⟩ := by
    rcases own_addr hv with ⟨h1, h2, h3⟩ | ⟨b, h1, _⟩
    · exact .inl ⟨h1, h2, h3⟩
    · exact .inr ⟨b, h1⟩
  have hcl : l.length ≤ c := by
    obtain ⟨_, _, e, h1, _⟩ := HV.out
    rw [strsV_len] at e h1
    cases e
    exact h1
  obtain ⟨n, hn⟩ : ∃ n, n = l.length := ⟨_, rfl⟩
  rw [← hn] at HH HV hsh hcl hl ⊢
  have HN := Lib.hid hn
  clear hv hn
  cases hh : hasT l x with
  | true =>
    have HI := Lib.hid hh
    rw [hh] at HH
    clear hh
    go_enter Tryz.func29, Tryz.ntmps29
    go_wp2_with (go_at_call 51; refine HH.out.mono ?_; rintro e w' ⟨rfl, rfl⟩)
    go_ret
    exact ⟨_, rfl, fun _ => rfl, (fun h => by cases h), Below.refl _ _⟩
  | false =>
    have HNH := Lib.hid hh
    rw [hh] at HH
    clear hh
    have HPL : Hid (putT l x = l.takeWhile (ltT x) ++ x :: l.dropWhile (ltT x)) := Lib.hid (by unfold putT; rw [if_neg (by rw [HNH.out]; decide)])
    go_enter Tryz.func29, Tryz.ntmps29
    go_wp2_with (go_at_call 51; refine HH.out.mono ?_; rintro e w' ⟨rfl, rfl⟩)
    go_loopw [5] (fun i W => ∃ k : Nat, k ≤ n ∧ i = .int .i64 (k : Int) ∧ w = W ∧ Hid (∀ (j : Nat) (hj : j < l.length), j < k → ltT x l[j] = true)) (fun i _ => n - (Lib.intOf i).toNat)
    case atStart => exact ⟨0, Nat.zero_le _, rfl, rfl, Lib.hid (fun j _ h => absurd h (Nat.not_lt_zero _))⟩
    case round =>
      obtain ⟨k, hk, rfl, hw0, HLo⟩ := hrel
      subst hw0
      have k2 : (0 : Int) ≤ (k : Int) := by omega
      by_cases hlt : k < n
      · have hkl : k < l.length := by rw [← HN.out]; exact hlt
        obtain ⟨g, o, rfl, q0⟩ := str_at3 HV.out k hkl
        have ho : o = 0 := by
          rcases hsh with ⟨h1, _⟩ | ⟨g', h1⟩
          · cases h1
          · cases h1; rfl
        subst ho
        rw [Nat.zero_add] at q0
        have k1 : (k : Int) < (n : Int) := by omega
        have k4 : IntKind.i64.wrap ((k : Int) + 1) = (k : Int) + 1 := IntWalk.i64_in _ (by omega)
        obtain ⟨y, hy⟩ : ∃ y, y = l[k] := ⟨_, rfl⟩
        rw [← hy] at q0
        have q0 : w.cell? ⟨g, k, none⟩ = some (.string ⟨y.toArray⟩) := q0
        by_cases he : y < x
        · have te : decide (y < x) = true := decide_eq_true he
          have tb : Op.bytesLess y x = true := by rw [bytesLess_eq]; exact te
          have HE : Hid (∀ (j : Nat) (hj : j < l.length), j < k + 1 → ltT x l[j] = true) := Lib.hid (fun j hj h => by
            rcases Nat.lt_or_ge j k with h2 | h2
            · exact HLo.out j hj h2
            · obtain rfl : j = k := by omega
              rw [← hy]
              exact te)
          clear hy he
          go_wp2_with fail
          go_roundw
          case rel => exact ⟨k + 1, by omega, by go_num, by first | rfl | trivial, HE⟩
          case measure => simp [Lib.intOf]; omega
        · have te : decide (y < x) = false := decide_eq_false he
          have tb : Op.bytesLess y x = false := by rw [bytesLess_eq]; exact te
          have HTW := Lib.hid (twT_of HLo.out (by omega) (.inr ⟨hkl, by rw [← hy]; exact te⟩))
          have s2 : (k : Int) ≤ (n : Int) := by omega
          have s3 : (n : Int) ≤ (c : Int) := by omega
          have s4 : (k : Int) ≤ (c : Int) := by omega
          have s5 : ¬ c = k := by omega
          have s6 : ¬ c = 0 := by omega
          have HTK : Hid (∀ W, Below w.heap.size w W → Rd W (.slice (some ⟨g, 0, none⟩) k c) (strsV (l.take k))) := Lib.hid (fun W hW => (HV.out.on hW).cutS (by omega))
          have HDR : Hid (∀ W, Below w.heap.size w W → Rd W (.slice (some ⟨g, k, none⟩) (n - k) (c - k)) (strsV (l.drop k))) := Lib.hid (fun W hW => (HV.out.on hW).offT (by omega) (by omega) (by omega))
          have HLK : Hid (k ≤ 100000 ∧ l.length ≤ 100000) := Lib.hid ⟨by omega, by rw [← HN.out]; exact hl⟩
          obtain ⟨R4, hR4⟩ : ∃ z, z = [] ++ l.take k := ⟨_, rfl⟩
          obtain ⟨R7, hR7⟩ : ∃ z, z = R4 ++ [x] := ⟨_, rfl⟩
          obtain ⟨R11, hR11⟩ : ∃ z, z = R7 ++ l.drop k := ⟨_, rfl⟩
          have HE4 : Hid ([] ++ l.take k = R4) := Lib.hid hR4.symm
          have HE7 : Hid (R4 ++ [x] = R7) := Lib.hid hR7.symm
          have HE11 : Hid (R7 ++ l.drop k = R11) := Lib.hid hR11.symm
          have HL4 : Hid (R4.length ≤ 1000000) := Lib.hid (by have := HN.out; rw [hR4]; simp <;> omega)
          have HL7 : Hid (R7.length ≤ 1000000) := Lib.hid (by have := HN.out; rw [hR7, hR4]; simp <;> omega)
          have HL11 : Hid (R11.length ≤ 1000000) := Lib.hid (by have := HN.out; rw [hR11, hR7, hR4]; simp <;> omega)
          have HPI : Hid (putT l x = R11) := Lib.hid (by rw [HPL.out, HTW.out.1, HTW.out.2, hR11, hR7, hR4]; simp)
          clear hR4 hR7 hR11
          clear hy he HTW HPL HLo
          go_upto_region 6 with fail
          go_cut [4] (fun p4 wx => ∃ a' c', p4 = .slice a' R11.length c' ∧ Hid (wx.ownsRow w.heap.size 9 1 (.slice a' R11.length c') R11.length (strsV R11)) ∧ Hid (Below w.heap.size w wx))
          case first =>
            rename_i J2 K2 hJ hK2
            obtain ⟨v0, hv0⟩ : ∃ q, q = World.drew w := ⟨_, rfl⟩
            refine wp_region_held_drew (S := fun w' => Below w.heap.size w w') (by kernel_rfl) (below_drewN (Below.refl _ _) 1) (fun hHeld => ?_)
            rw [← hv0] at hHeld ⊢
            clear hv0
            refine wpAnyH_take (i := 1) (oi := { dst := some 25, op := Op.move (Operand.tmp 0), type := 23, pos := "ref.go:30", after := #[], guard := none }) (v := ?_) rfl (by kernel_rfl) (by kernel_rfl) (by kernel_rfl) (fun _ _ _ h => h) (Or.inl ⟨by rfl, ?_⟩) hHeld ?_
            rotate_left
            · (intro w hSw; go_simp; try with_reducible rfl)
            (try simp only [Act.put, List.setIfInBounds_toArray, List.set_cons_zero, List.set_cons_succ])
            refine wpAnyH_take (i := 2) (oi := { dst := some 26, op := Op.move (Operand.tmp 5), type := 3, pos := "ref.go:30", after := #[], guard := none }) (v := ?_) rfl (by kernel_rfl) (by kernel_rfl) (by kernel_rfl) (fun _ _ _ h => h) (Or.inl ⟨by rfl, ?_⟩) hHeld ?_
            rotate_left
            · (intro w hSw; go_simp; try with_reducible rfl)
            (try simp only [Act.put, List.setIfInBounds_toArray, List.set_cons_zero, List.set_cons_succ])
            refine wpAnyH_take (i := 3) (oi := { dst := some 27, op := Op.slice 23 (Operand.tmp 25) none (some (Operand.tmp 26)) none, type := 23, pos := "ref.go:30", after := #[{ on := 1, ground := Ground.data }, { on := 2, ground := Ground.data }], guard := none }) (v := ?_) rfl (by kernel_rfl) (by kernel_rfl) (by kernel_rfl) (fun _ _ _ h => h) (Or.inl ⟨by rfl, ?_⟩) hHeld ?_
            rotate_left
            · (intro w hSw; go_simp; try with_reducible rfl)
            (try simp only [Act.put, List.setIfInBounds_toArray, List.set_cons_zero, List.set_cons_succ])
            refine wpAnyH_take (i := 5) (oi := { dst := some 29, op := Op.move (Operand.tmp 1), type := 9, pos := "ref.go:30", after := #[], guard := none }) (v := ?_) rfl (by kernel_rfl) (by kernel_rfl) (by kernel_rfl) (fun _ _ _ h => h) (Or.inl ⟨by rfl, ?_⟩) hHeld ?_
            rotate_left
            · (intro w hSw; go_simp; try with_reducible rfl)
            (try simp only [Act.put, List.setIfInBounds_toArray, List.set_cons_zero, List.set_cons_succ])
            refine wpAnyH_take (i := 8) (oi := { dst := some 32, op := Op.move (Operand.tmp 0), type := 23, pos := "ref.go:30", after := #[], guard := none }) (v := ?_) rfl (by kernel_rfl) (by kernel_rfl) (by kernel_rfl) (fun _ _ _ h => h) (Or.inl ⟨by rfl, ?_⟩) hHeld ?_
            rotate_left
            · (intro w hSw; go_simp; try with_reducible rfl)
            (try simp only [Act.put, List.setIfInBounds_toArray, List.set_cons_zero, List.set_cons_succ])
            refine wpAnyH_take (i := 9) (oi := { dst := some 33, op := Op.move (Operand.tmp 5), type := 3, pos := "ref.go:30", after := #[], guard := none }) (v := ?_) rfl (by kernel_rfl) (by kernel_rfl) (by kernel_rfl) (fun _ _ _ h => h) (Or.inl ⟨by rfl, ?_⟩) hHeld ?_
            rotate_left
            · (intro w hSw; go_simp; try with_reducible rfl)
            (try simp only [Act.put, List.setIfInBounds_toArray, List.set_cons_zero, List.set_cons_succ])
            refine wpAnyH_take (i := 10) (oi := { dst := some 34, op := Op.slice 23 (Operand.tmp 32) (some (Operand.tmp 33)) none none, type := 23, pos := "ref.go:30", after := #[{ on := 8, ground := Ground.data }, { on := 9, ground := Ground.data }], guard := none }) (v := ?_) rfl (by kernel_rfl) (by kernel_rfl) (by kernel_rfl) (fun _ _ _ h => h) (Or.inl ⟨by rfl, ?_⟩) hHeld ?_
            rotate_left
            · (intro w hSw; go_simp; try with_reducible rfl)
            (try simp only [Act.put, List.setIfInBounds_toArray, List.set_cons_zero, List.set_cons_succ])
            refine wpAnyH_ready (rs := [0, 6]) (by kernel_rfl) (by simp) (AllReadyH.cons (o := { dst := some 24, op := Op.buildSlice 23 0 #[], type := 23, pos := "ref.go:30", after := #[], guard := none }) rfl (fun K hK => ?_) (AllReadyH.cons (o := { dst := some 30, op := Op.buildSlice 23 1 #[(0, Operand.tmp 29)], type := 23, pos := "ref.go:30", after := #[{ on := 5, ground := Ground.data }], guard := none }) rfl (fun K hK => ?_) AllReadyH.nil))
            · go_simp
              obtain ⟨w_0_, hwn⟩ : ∃ z, z = v0.alloc (.cells #[] 9) := ⟨_, rfl⟩
              rw [← hwn]
              have hbn : Below v0.heap.size v0 w_0_ := by rw [hwn]; exact below_new _ _
              obtain ⟨g0, hg0⟩ : ∃ z, z = v0.heap.size := ⟨_, rfl⟩
              have H0 : Hid (w_0_.ownsRow w.heap.size 9 1 (.slice (some ⟨g0, 0, none⟩) 0 0) ([] : List Bs).length (strsV [])) := Lib.hid (by rw [hwn, hg0]; exact ownT_lit v0 [] (hHeld.size))
              have H0p : Hid (g0 < w_0_.heap.size) := Lib.hid (by rw [hwn, hg0]; simp)
              rw [← hg0]
              refine hK.out _ _ (bch hHeld hbn) (fun hHeld => ?_)
              clear hwn hbn hg0 hK K
              (try simp only [Act.put, List.setIfInBounds_toArray, List.set_cons_zero, List.set_cons_succ])
              refine wpAnyH_ready (rs := [4, 6]) (by kernel_rfl) (by simp) (AllReadyH.cons (o := { dst := some 28, op := Op.call { callee := Callee.builtin Builtin.append, args := #[Operand.tmp 24, Operand.tmp 27], argTypes := #[23, 23] }, type := 23, pos := "ref.go:30", after := #[{ on := 0, ground := Ground.data }, { on := 3, ground := Ground.data }], guard := none }) rfl (fun K hK => ?_) (AllReadyH.cons (o := { dst := some 30, op := Op.buildSlice 23 1 #[(0, Operand.tmp 29)], type := 23, pos := "ref.go:30", after := #[{ on := 5, ground := Ground.data }], guard := none }) rfl (fun K hK => ?_) AllReadyH.nil))
              · refine step_append_str (by rfl) (.tmp 24) (.tmp 27) rfl w.heap.size (.slice (some ⟨g0, 0, none⟩) 0 0) _ ([]) (l.take k) rfl rfl H0.out (HTK.out w_0_ hHeld) hHeld.size (HE4.out) HL4.out ?_
                intro v4 w_0_4_ hown hgr
                have H4 := Lib.hid hown
                have hbn : Below w.heap.size w w_0_4_ := hHeld.grown hgr hHeld.size (fun r e => (own_in H0.out e).1)
                obtain ⟨a4, c4, rfl⟩ := own_slice hown
                refine hK _ _ hbn (fun hHeld => ?_)
                clear hown hgr hbn hK K
                (try simp only [Act.put, List.setIfInBounds_toArray, List.set_cons_zero, List.set_cons_succ])
                refine wpAnyH_ready (rs := [6]) (by kernel_rfl) (by simp) (AllReadyH.cons (o := { dst := some 30, op := Op.buildSlice 23 1 #[(0, Operand.tmp 29)], type := 23, pos := "ref.go:30", after := #[{ on := 5, ground := Ground.data }], guard := none }) rfl (fun K hK => ?_) AllReadyH.nil)
                · go_simp
                  obtain ⟨w_0_4_6_, hwn⟩ : ∃ z, z = w_0_4_.alloc (.cells #[.string ⟨x.toArray⟩] 9) := ⟨_, rfl⟩
                  rw [← hwn]
                  have hbn : Below w_0_4_.heap.size w_0_4_ w_0_4_6_ := by rw [hwn]; exact below_new _ _
                  replace H4 := Lib.hid (own_on H4.out hbn)
                  obtain ⟨g6, hg6⟩ : ∃ z, z = w_0_4_.heap.size := ⟨_, rfl⟩
                  have H6 : Hid (w_0_4_6_.ownsRow w.heap.size 9 1 (.slice (some ⟨g6, 0, none⟩) 1 1) ([x] : List Bs).length (strsV [x])) := Lib.hid (by rw [hwn, hg6]; exact ownT_lit w_0_4_ [x] (hHeld.size))
                  have H6p : Hid (g6 < w_0_4_6_.heap.size) := Lib.hid (by rw [hwn, hg6]; simp)
                  rw [← hg6]
                  refine hK.out _ _ (bch hHeld hbn) (fun hHeld => ?_)
                  clear hwn hbn hg6 hK K
                  (try simp only [Act.put, List.setIfInBounds_toArray, List.set_cons_zero, List.set_cons_succ])
                  refine wpAnyH_ready (rs := [7]) (by kernel_rfl) (by simp) (AllReadyH.cons (o := { dst := some 31, op := Op.call { callee := Callee.builtin Builtin.append, args := #[Operand.tmp 28, Operand.tmp 30], argTypes := #[23, 23] }, type := 23, pos := "ref.go:30", after := #[{ on := 4, ground := Ground.data }, { on := 6, ground := Ground.data }, { on := 4, ground := Ground.chain }], guard := none }) rfl (fun K hK => ?_) AllReadyH.nil)
                  · refine step_append_str (by rfl) (.tmp 28) (.tmp 30) rfl w.heap.size (.slice a4 R4.length c4) (.slice (some ⟨g6, 0, none⟩) 1 1) (R4) ([x]) rfl rfl H4.out (Rd.of_own H6.out) hHeld.size (HE7.out) HL7.out ?_
                    intro v7 w_0_4_6_7_ hown hgr
                    have H7 := Lib.hid hown
                    have hbn : Below w.heap.size w w_0_4_6_7_ := hHeld.grown hgr hHeld.size (fun r e => (own_in H4.out e).1)
                    obtain ⟨a7, c7, rfl⟩ := own_slice hown
                    refine hK _ _ hbn (fun hHeld => ?_)
                    clear hown hgr hbn hK K
                    (try simp only [Act.put, List.setIfInBounds_toArray, List.set_cons_zero, List.set_cons_succ])
                    refine wpAnyH_ready (rs := [11]) (by kernel_rfl) (by simp) (AllReadyH.cons (o := { dst := some 35, op := Op.call { callee := Callee.builtin Builtin.append, args := #[Operand.tmp 31, Operand.tmp 34], argTypes := #[23, 23] }, type := 23, pos := "ref.go:30", after := #[{ on := 7, ground := Ground.data }, { on := 10, ground := Ground.data }, { on := 7, ground := Ground.chain }], guard := none }) rfl (fun K hK => ?_) AllReadyH.nil)
                    · refine step_append_str (by rfl) (.tmp 31) (.tmp 34) rfl w.heap.size (.slice a7 R7.length c7) _ (R7) (l.drop k) rfl rfl H7.out (HDR.out w_0_4_6_7_ hHeld) hHeld.size (HE11.out) HL11.out ?_
                      intro v11 w_0_4_6_7_11_ hown hgr
                      have H11 := Lib.hid hown
                      have hbn : Below w.heap.size w w_0_4_6_7_11_ := hHeld.grown hgr hHeld.size (fun r e => (own_in H7.out e).1)
                      obtain ⟨a11, c11, rfl⟩ := own_slice hown
                      refine hK _ _ hbn (fun hHeld => ?_)
                      clear hown hgr hbn hK K
                      (try simp only [Act.put, List.setIfInBounds_toArray, List.set_cons_zero, List.set_cons_succ])
                      refine wpAnyH_take (i := 12) (oi := { dst := some 4, op := Op.assign (Operand.tmp 35), type := 23, pos := "ref.go:30", after := #[{ on := 11, ground := Ground.data }, { on := 11, ground := Ground.chain }, { on := 0, ground := Ground.phase }, { on := 1, ground := Ground.phase }, { on := 2, ground := Ground.phase }, { on := 3, ground := Ground.phase }, { on := 4, ground := Ground.phase }, { on := 5, ground := Ground.phase }, { on := 6, ground := Ground.phase }, { on := 7, ground := Ground.phase }, { on := 8, ground := Ground.phase }, { on := 9, ground := Ground.phase }, { on := 10, ground := Ground.phase }, { on := 11, ground := Ground.phase }], guard := none }) (v := ?_) rfl (by kernel_rfl) (by kernel_rfl) (by kernel_rfl) (fun _ _ _ h => h) (Or.inl ⟨by rfl, ?_⟩) hHeld ?_
                      rotate_left
                      · (intro w hSw; go_simp; try with_reducible rfl)
                      (try simp only [Act.put, List.setIfInBounds_toArray, List.set_cons_zero, List.set_cons_succ])
                      refine wpAnyH_done (by kernel_rfl) ?_ _
                      first | refine hK2 _ _ (Met.intro (hJ _ _ ?_)) | refine Met.intro (hJ _ _ ?_)
                      (repeat apply Exists.intro)
                      refine ⟨?_, rfl⟩
                      exact ⟨_, _, rfl, H11, Lib.hid hHeld⟩
              · go_simp
                obtain ⟨w_0_6_, hwn⟩ : ∃ z, z = w_0_.alloc (.cells #[.string ⟨x.toArray⟩] 9) := ⟨_, rfl⟩
                rw [← hwn]
                have hbn : Below w_0_.heap.size w_0_ w_0_6_ := by rw [hwn]; exact below_new _ _
                replace H0 := Lib.hid (own_on H0.out hbn)
                obtain ⟨g6, hg6⟩ : ∃ z, z = w_0_.heap.size := ⟨_, rfl⟩
                have H6 : Hid (w_0_6_.ownsRow w.heap.size 9 1 (.slice (some ⟨g6, 0, none⟩) 1 1) ([x] : List Bs).length (strsV [x])) := Lib.hid (by rw [hwn, hg6]; exact ownT_lit w_0_ [x] (hHeld.size))
                have HNE : Hid (g6 ≠ g0) := Lib.hid (fun e => by have := (H0p.out); omega)
                have H6p : Hid (g6 < w_0_6_.heap.size) := Lib.hid (by rw [hwn, hg6]; simp)
                rw [← hg6]
                refine hK.out _ _ (bch hHeld hbn) (fun hHeld => ?_)
                clear hwn hbn hg6 hK K
                (try simp only [Act.put, List.setIfInBounds_toArray, List.set_cons_zero, List.set_cons_succ])
                refine wpAnyH_ready (rs := [4]) (by kernel_rfl) (by simp) (AllReadyH.cons (o := { dst := some 28, op := Op.call { callee := Callee.builtin Builtin.append, args := #[Operand.tmp 24, Operand.tmp 27], argTypes := #[23, 23] }, type := 23, pos := "ref.go:30", after := #[{ on := 0, ground := Ground.data }, { on := 3, ground := Ground.data }], guard := none }) rfl (fun K hK => ?_) AllReadyH.nil)
                · refine step_append_str (by rfl) (.tmp 24) (.tmp 27) rfl w.heap.size (.slice (some ⟨g0, 0, none⟩) 0 0) _ ([]) (l.take k) rfl rfl H0.out (HTK.out w_0_6_ hHeld) hHeld.size (HE4.out) HL4.out ?_
                  intro v4 w_0_6_4_ hown hgr
                  have H4 := Lib.hid hown
                  have hbn : Below w.heap.size w w_0_6_4_ := hHeld.grown hgr hHeld.size (fun r e => (own_in H0.out e).1)
                  replace H6 := Lib.hid (own_grown H6.out hgr (fun r e e2 => by cases e; cases e2; exact HNE.out rfl))
                  obtain ⟨a4, c4, rfl⟩ := own_slice hown
                  refine hK _ _ hbn (fun hHeld => ?_)
                  clear hown hgr hbn hK K
                  (try simp only [Act.put, List.setIfInBounds_toArray, List.set_cons_zero, List.set_cons_succ])
                  refine wpAnyH_ready (rs := [7]) (by kernel_rfl) (by simp) (AllReadyH.cons (o := { dst := some 31, op := Op.call { callee := Callee.builtin Builtin.append, args := #[Operand.tmp 28, Operand.tmp 30], argTypes := #[23, 23] }, type := 23, pos := "ref.go:30", after := #[{ on := 4, ground := Ground.data }, { on := 6, ground := Ground.data }, { on := 4, ground := Ground.chain }], guard := none }) rfl (fun K hK => ?_) AllReadyH.nil)
                  · refine step_append_str (by rfl) (.tmp 28) (.tmp 30) rfl w.heap.size (.slice a4 R4.length c4) (.slice (some ⟨g6, 0, none⟩) 1 1) (R4) ([x]) rfl rfl H4.out (Rd.of_own H6.out) hHeld.size (HE7.out) HL7.out ?_
                    intro v7 w_0_6_4_7_ hown hgr
                    have H7 := Lib.hid hown
                    have hbn : Below w.heap.size w w_0_6_4_7_ := hHeld.grown hgr hHeld.size (fun r e => (own_in H4.out e).1)
                    obtain ⟨a7, c7, rfl⟩ := own_slice hown
                    refine hK _ _ hbn (fun hHeld => ?_)
                    clear hown hgr hbn hK K
                    (try simp only [Act.put, List.setIfInBounds_toArray, List.set_cons_zero, List.set_cons_succ])
                    refine wpAnyH_ready (rs := [11]) (by kernel_rfl) (by simp) (AllReadyH.cons (o := { dst := some 35, op := Op.call { callee := Callee.builtin Builtin.append, args := #[Operand.tmp 31, Operand.tmp 34], argTypes := #[23, 23] }, type := 23, pos := "ref.go:30", after := #[{ on := 7, ground := Ground.data }, { on := 10, ground := Ground.data }, { on := 7, ground := Ground.chain }], guard := none }) rfl (fun K hK => ?_) AllReadyH.nil)
                    · refine step_append_str (by rfl) (.tmp 31) (.tmp 34) rfl w.heap.size (.slice a7 R7.length c7) _ (R7) (l.drop k) rfl rfl H7.out (HDR.out w_0_6_4_7_ hHeld) hHeld.size (HE11.out) HL11.out ?_
                      intro v11 w_0_6_4_7_11_ hown hgr
                      have H11 := Lib.hid hown
                      have hbn : Below w.heap.size w w_0_6_4_7_11_ := hHeld.grown hgr hHeld.size (fun r e => (own_in H7.out e).1)
                      obtain ⟨a11, c11, rfl⟩ := own_slice hown
                      refine hK _ _ hbn (fun hHeld => ?_)
                      clear hown hgr hbn hK K
                      (try simp only [Act.put, List.setIfInBounds_toArray, List.set_cons_zero, List.set_cons_succ])
                      refine wpAnyH_take (i := 12) (oi := { dst := some 4, op := Op.assign (Operand.tmp 35), type := 23, pos := "ref.go:30", after := #[{ on := 11, ground := Ground.data }, { on := 11, ground := Ground.chain }, { on := 0, ground := Ground.phase }, { on := 1, ground := Ground.phase }, { on := 2, ground := Ground.phase }, { on := 3, ground := Ground.phase }, { on := 4, ground := Ground.phase }, { on := 5, ground := Ground.phase }, { on := 6, ground := Ground.phase }, { on := 7, ground := Ground.phase }, { on := 8, ground := Ground.phase }, { on := 9, ground := Ground.phase }, { on := 10, ground := Ground.phase }, { on := 11, ground := Ground.phase }], guard := none }) (v := ?_) rfl (by kernel_rfl) (by kernel_rfl) (by kernel_rfl) (fun _ _ _ h => h) (Or.inl ⟨by rfl, ?_⟩) hHeld ?_
                      rotate_left
                      · (intro w hSw; go_simp; try with_reducible rfl)
                      (try simp only [Act.put, List.setIfInBounds_toArray, List.set_cons_zero, List.set_cons_succ])
                      refine wpAnyH_done (by kernel_rfl) ?_ _
                      first | refine hK2 _ _ (Met.intro (hJ _ _ ?_)) | refine Met.intro (hJ _ _ ?_)
                      (repeat apply Exists.intro)
                      refine ⟨?_, rfl⟩
                      exact ⟨_, _, rfl, H11, Lib.hid hHeld⟩
            · go_simp
              obtain ⟨w_6_, hwn⟩ : ∃ z, z = v0.alloc (.cells #[.string ⟨x.toArray⟩] 9) := ⟨_, rfl⟩
              rw [← hwn]
              have hbn : Below v0.heap.size v0 w_6_ := by rw [hwn]; exact below_new _ _
              obtain ⟨g6, hg6⟩ : ∃ z, z = v0.heap.size := ⟨_, rfl⟩
              have H6 : Hid (w_6_.ownsRow w.heap.size 9 1 (.slice (some ⟨g6, 0, none⟩) 1 1) ([x] : List Bs).length (strsV [x])) := Lib.hid (by rw [hwn, hg6]; exact ownT_lit v0 [x] (hHeld.size))
              have H6p : Hid (g6 < w_6_.heap.size) := Lib.hid (by rw [hwn, hg6]; simp)
              rw [← hg6]
              refine hK.out _ _ (bch hHeld hbn) (fun hHeld => ?_)
              clear hwn hbn hg6 hK K
              (try simp only [Act.put, List.setIfInBounds_toArray, List.set_cons_zero, List.set_cons_succ])
              refine wpAnyH_ready (rs := [0]) (by kernel_rfl) (by simp) (AllReadyH.cons (o := { dst := some 24, op := Op.buildSlice 23 0 #[], type := 23, pos := "ref.go:30", after := #[], guard := none }) rfl (fun K hK => ?_) AllReadyH.nil)
              · go_simp
                obtain ⟨w_6_0_, hwn⟩ : ∃ z, z = w_6_.alloc (.cells #[] 9) := ⟨_, rfl⟩
                rw [← hwn]
                have hbn : Below w_6_.heap.size w_6_ w_6_0_ := by rw [hwn]; exact below_new _ _
                replace H6 := Lib.hid (own_on H6.out hbn)
                obtain ⟨g0, hg0⟩ : ∃ z, z = w_6_.heap.size := ⟨_, rfl⟩
                have H0 : Hid (w_6_0_.ownsRow w.heap.size 9 1 (.slice (some ⟨g0, 0, none⟩) 0 0) ([] : List Bs).length (strsV [])) := Lib.hid (by rw [hwn, hg0]; exact ownT_lit w_6_ [] (hHeld.size))
                have HNE : Hid (g6 ≠ g0) := Lib.hid (fun e => by have := (H6p.out); omega)
                have H0p : Hid (g0 < w_6_0_.heap.size) := Lib.hid (by rw [hwn, hg0]; simp)
                rw [← hg0]
                refine hK.out _ _ (bch hHeld hbn) (fun hHeld => ?_)
                clear hwn hbn hg0 hK K
                (try simp only [Act.put, List.setIfInBounds_toArray, List.set_cons_zero, List.set_cons_succ])
                refine wpAnyH_ready (rs := [4]) (by kernel_rfl) (by simp) (AllReadyH.cons (o := { dst := some 28, op := Op.call { callee := Callee.builtin Builtin.append, args := #[Operand.tmp 24, Operand.tmp 27], argTypes := #[23, 23] }, type := 23, pos := "ref.go:30", after := #[{ on := 0, ground := Ground.data }, { on := 3, ground := Ground.data }], guard := none }) rfl (fun K hK => ?_) AllReadyH.nil)
                · refine step_append_str (by rfl) (.tmp 24) (.tmp 27) rfl w.heap.size (.slice (some ⟨g0, 0, none⟩) 0 0) _ ([]) (l.take k) rfl rfl H0.out (HTK.out w_6_0_ hHeld) hHeld.size (HE4.out) HL4.out ?_
                  intro v4 w_6_0_4_ hown hgr
                  have H4 := Lib.hid hown
                  have hbn : Below w.heap.size w w_6_0_4_ := hHeld.grown hgr hHeld.size (fun r e => (own_in H0.out e).1)
                  replace H6 := Lib.hid (own_grown H6.out hgr (fun r e e2 => by cases e; cases e2; exact HNE.out rfl))
                  obtain ⟨a4, c4, rfl⟩ := own_slice hown
                  refine hK _ _ hbn (fun hHeld => ?_)
                  clear hown hgr hbn hK K
                  (try simp only [Act.put, List.setIfInBounds_toArray, List.set_cons_zero, List.set_cons_succ])
                  refine wpAnyH_ready (rs := [7]) (by kernel_rfl) (by simp) (AllReadyH.cons (o := { dst := some 31, op := Op.call { callee := Callee.builtin Builtin.append, args := #[Operand.tmp 28, Operand.tmp 30], argTypes := #[23, 23] }, type := 23, pos := "ref.go:30", after := #[{ on := 4, ground := Ground.data }, { on := 6, ground := Ground.data }, { on := 4, ground := Ground.chain }], guard := none }) rfl (fun K hK => ?_) AllReadyH.nil)
                  · refine step_append_str (by rfl) (.tmp 28) (.tmp 30) rfl w.heap.size (.slice a4 R4.length c4) (.slice (some ⟨g6, 0, none⟩) 1 1) (R4) ([x]) rfl rfl H4.out (Rd.of_own H6.out) hHeld.size (HE7.out) HL7.out ?_
                    intro v7 w_6_0_4_7_ hown hgr
                    have H7 := Lib.hid hown
                    have hbn : Below w.heap.size w w_6_0_4_7_ := hHeld.grown hgr hHeld.size (fun r e => (own_in H4.out e).1)
                    obtain ⟨a7, c7, rfl⟩ := own_slice hown
                    refine hK _ _ hbn (fun hHeld => ?_)
                    clear hown hgr hbn hK K
                    (try simp only [Act.put, List.setIfInBounds_toArray, List.set_cons_zero, List.set_cons_succ])
                    refine wpAnyH_ready (rs := [11]) (by kernel_rfl) (by simp) (AllReadyH.cons (o := { dst := some 35, op := Op.call { callee := Callee.builtin Builtin.append, args := #[Operand.tmp 31, Operand.tmp 34], argTypes := #[23, 23] }, type := 23, pos := "ref.go:30", after := #[{ on := 7, ground := Ground.data }, { on := 10, ground := Ground.data }, { on := 7, ground := Ground.chain }], guard := none }) rfl (fun K hK => ?_) AllReadyH.nil)
                    · refine step_append_str (by rfl) (.tmp 31) (.tmp 34) rfl w.heap.size (.slice a7 R7.length c7) _ (R7) (l.drop k) rfl rfl H7.out (HDR.out w_6_0_4_7_ hHeld) hHeld.size (HE11.out) HL11.out ?_
                      intro v11 w_6_0_4_7_11_ hown hgr
                      have H11 := Lib.hid hown
                      have hbn : Below w.heap.size w w_6_0_4_7_11_ := hHeld.grown hgr hHeld.size (fun r e => (own_in H7.out e).1)
                      obtain ⟨a11, c11, rfl⟩ := own_slice hown
                      refine hK _ _ hbn (fun hHeld => ?_)
                      clear hown hgr hbn hK K
                      (try simp only [Act.put, List.setIfInBounds_toArray, List.set_cons_zero, List.set_cons_succ])
                      refine wpAnyH_take (i := 12) (oi := { dst := some 4, op := Op.assign (Operand.tmp 35), type := 23, pos := "ref.go:30", after := #[{ on := 11, ground := Ground.data }, { on := 11, ground := Ground.chain }, { on := 0, ground := Ground.phase }, { on := 1, ground := Ground.phase }, { on := 2, ground := Ground.phase }, { on := 3, ground := Ground.phase }, { on := 4, ground := Ground.phase }, { on := 5, ground := Ground.phase }, { on := 6, ground := Ground.phase }, { on := 7, ground := Ground.phase }, { on := 8, ground := Ground.phase }, { on := 9, ground := Ground.phase }, { on := 10, ground := Ground.phase }, { on := 11, ground := Ground.phase }], guard := none }) (v := ?_) rfl (by kernel_rfl) (by kernel_rfl) (by kernel_rfl) (fun _ _ _ h => h) (Or.inl ⟨by rfl, ?_⟩) hHeld ?_
                      rotate_left
                      · (intro w hSw; go_simp; try with_reducible rfl)
                      (try simp only [Act.put, List.setIfInBounds_toArray, List.set_cons_zero, List.set_cons_succ])
                      refine wpAnyH_done (by kernel_rfl) ?_ _
                      first | refine hK2 _ _ (Met.intro (hJ _ _ ?_)) | refine Met.intro (hJ _ _ ?_)
                      (repeat apply Exists.intro)
                      refine ⟨?_, rfl⟩
                      exact ⟨_, _, rfl, H11, Lib.hid hHeld⟩
          case rest =>
          obtain ⟨a', c', rfl, HOW, HBW⟩ := hcut
          go_wp2_with fail
          go_ret
          first | exact ⟨_, rfl, (fun h => by cases h), (fun _ => by rw [HPI.out]; exact HOW.out), HBW.out⟩ | exact ⟨_, rfl, by rw [HPI.out]; exact HOW.out, HBW.out⟩ | exact ⟨rfl, by rw [HPI.out]; exact HOW.out, HBW.out⟩

      · have k1 : ¬ ((k : Int) < (n : Int)) := by omega
        have hkn : k = n := by omega
        have HTW := Lib.hid (twT_of HLo.out (by rw [← HN.out]; omega) (.inl (by rw [← HN.out]; exact hkn)))
        subst hkn
        rcases hsh with ⟨rfl, hn0, hc0⟩ | ⟨g, rfl⟩
        · subst hn0
          subst hc0
          have hl0 : l = [] := List.eq_nil_of_length_eq_zero HN.out.symm
          have HTK : Hid (∀ W, Below w.heap.size w W → Rd W (.slice none 0 0) (strsV (l.take 0))) := Lib.hid (fun W hW => Rd.nil W)
          have HDR : Hid (∀ W, Below w.heap.size w W → Rd W (.slice none 0 0) (strsV (l.drop 0))) := Lib.hid (fun W hW => by rw [hl0]; exact Rd.nil W)
          obtain ⟨R4, hR4⟩ : ∃ z, z = [] ++ l.take 0 := ⟨_, rfl⟩
          obtain ⟨R7, hR7⟩ : ∃ z, z = R4 ++ [x] := ⟨_, rfl⟩
          obtain ⟨R11, hR11⟩ : ∃ z, z = R7 ++ l.drop 0 := ⟨_, rfl⟩
          have HE4 : Hid ([] ++ l.take 0 = R4) := Lib.hid hR4.symm
          have HE7 : Hid (R4 ++ [x] = R7) := Lib.hid hR7.symm
          have HE11 : Hid (R7 ++ l.drop 0 = R11) := Lib.hid hR11.symm
          have HL4 : Hid (R4.length ≤ 1000000) := Lib.hid (by have := HN.out; rw [hR4]; simp <;> omega)
          have HL7 : Hid (R7.length ≤ 1000000) := Lib.hid (by have := HN.out; rw [hR7, hR4]; simp <;> omega)
          have HL11 : Hid (R11.length ≤ 1000000) := Lib.hid (by have := HN.out; rw [hR11, hR7, hR4]; simp <;> omega)
          have HPI : Hid (putT l x = R11) := Lib.hid (by rw [HPL.out, HTW.out.1, HTW.out.2, hR11, hR7, hR4]; simp)
          clear hR4 hR7 hR11
          clear hl0 HTW HPL HLo k1 k2 hlt
          go_upto_region 6 with fail
          go_cut [4] (fun p4 wx => ∃ a' c', p4 = .slice a' R11.length c' ∧ Hid (wx.ownsRow w.heap.size 9 1 (.slice a' R11.length c') R11.length (strsV R11)) ∧ Hid (Below w.heap.size w wx))
          case first =>
            rename_i J2 K2 hJ hK2
            obtain ⟨v0, hv0⟩ : ∃ q, q = World.drew w := ⟨_, rfl⟩
            refine wp_region_held_drew (S := fun w' => Below w.heap.size w w') (by kernel_rfl) (below_drewN (Below.refl _ _) 1) (fun hHeld => ?_)
            rw [← hv0] at hHeld ⊢
            clear hv0
            refine wpAnyH_take (i := 1) (oi := { dst := some 25, op := Op.move (Operand.tmp 0), type := 23, pos := "ref.go:30", after := #[], guard := none }) (v := ?_) rfl (by kernel_rfl) (by kernel_rfl) (by kernel_rfl) (fun _ _ _ h => h) (Or.inl ⟨by rfl, ?_⟩) hHeld ?_
            rotate_left
            · (intro w hSw; go_simp; try with_reducible rfl)
            (try simp only [Act.put, List.setIfInBounds_toArray, List.set_cons_zero, List.set_cons_succ])
            refine wpAnyH_take (i := 2) (oi := { dst := some 26, op := Op.move (Operand.tmp 5), type := 3, pos := "ref.go:30", after := #[], guard := none }) (v := ?_) rfl (by kernel_rfl) (by kernel_rfl) (by kernel_rfl) (fun _ _ _ h => h) (Or.inl ⟨by rfl, ?_⟩) hHeld ?_
            rotate_left
            · (intro w hSw; go_simp; try with_reducible rfl)
            (try simp only [Act.put, List.setIfInBounds_toArray, List.set_cons_zero, List.set_cons_succ])
            refine wpAnyH_take (i := 3) (oi := { dst := some 27, op := Op.slice 23 (Operand.tmp 25) none (some (Operand.tmp 26)) none, type := 23, pos := "ref.go:30", after := #[{ on := 1, ground := Ground.data }, { on := 2, ground := Ground.data }], guard := none }) (v := ?_) rfl (by kernel_rfl) (by kernel_rfl) (by kernel_rfl) (fun _ _ _ h => h) (Or.inl ⟨by rfl, ?_⟩) hHeld ?_
            rotate_left
            · (intro w hSw; go_simp; try with_reducible rfl)
            (try simp only [Act.put, List.setIfInBounds_toArray, List.set_cons_zero, List.set_cons_succ])
            refine wpAnyH_take (i := 5) (oi := { dst := some 29, op := Op.move (Operand.tmp 1), type := 9, pos := "ref.go:30", after := #[], guard := none }) (v := ?_) rfl (by kernel_rfl) (by kernel_rfl) (by kernel_rfl) (fun _ _ _ h => h) (Or.inl ⟨by rfl, ?_⟩) hHeld ?_
            rotate_left
            · (intro w hSw; go_simp; try with_reducible rfl)
            (try simp only [Act.put, List.setIfInBounds_toArray, List.set_cons_zero, List.set_cons_succ])
            refine wpAnyH_take (i := 8) (oi := { dst := some 32, op := Op.move (Operand.tmp 0), type := 23, pos := "ref.go:30", after := #[], guard := none }) (v := ?_) rfl (by kernel_rfl) (by kernel_rfl) (by kernel_rfl) (fun _ _ _ h => h) (Or.inl ⟨by rfl, ?_⟩) hHeld ?_
            rotate_left
            · (intro w hSw; go_simp; try with_reducible rfl)
            (try simp only [Act.put, List.setIfInBounds_toArray, List.set_cons_zero, List.set_cons_succ])
            refine wpAnyH_take (i := 9) (oi := { dst := some 33, op := Op.move (Operand.tmp 5), type := 3, pos := "ref.go:30", after := #[], guard := none }) (v := ?_) rfl (by kernel_rfl) (by kernel_rfl) (by kernel_rfl) (fun _ _ _ h => h) (Or.inl ⟨by rfl, ?_⟩) hHeld ?_
            rotate_left
            · (intro w hSw; go_simp; try with_reducible rfl)
            (try simp only [Act.put, List.setIfInBounds_toArray, List.set_cons_zero, List.set_cons_succ])
            refine wpAnyH_take (i := 10) (oi := { dst := some 34, op := Op.slice 23 (Operand.tmp 32) (some (Operand.tmp 33)) none none, type := 23, pos := "ref.go:30", after := #[{ on := 8, ground := Ground.data }, { on := 9, ground := Ground.data }], guard := none }) (v := ?_) rfl (by kernel_rfl) (by kernel_rfl) (by kernel_rfl) (fun _ _ _ h => h) (Or.inl ⟨by rfl, ?_⟩) hHeld ?_
            rotate_left
            · (intro w hSw; go_simp; try with_reducible rfl)
            (try simp only [Act.put, List.setIfInBounds_toArray, List.set_cons_zero, List.set_cons_succ])
            refine wpAnyH_ready (rs := [0, 6]) (by kernel_rfl) (by simp) (AllReadyH.cons (o := { dst := some 24, op := Op.buildSlice 23 0 #[], type := 23, pos := "ref.go:30", after := #[], guard := none }) rfl (fun K hK => ?_) (AllReadyH.cons (o := { dst := some 30, op := Op.buildSlice 23 1 #[(0, Operand.tmp 29)], type := 23, pos := "ref.go:30", after := #[{ on := 5, ground := Ground.data }], guard := none }) rfl (fun K hK => ?_) AllReadyH.nil))
            · go_simp
              obtain ⟨w_0_, hwn⟩ : ∃ z, z = v0.alloc (.cells #[] 9) := ⟨_, rfl⟩
              rw [← hwn]
              have hbn : Below v0.heap.size v0 w_0_ := by rw [hwn]; exact below_new _ _
              obtain ⟨g0, hg0⟩ : ∃ z, z = v0.heap.size := ⟨_, rfl⟩
              have H0 : Hid (w_0_.ownsRow w.heap.size 9 1 (.slice (some ⟨g0, 0, none⟩) 0 0) ([] : List Bs).length (strsV [])) := Lib.hid (by rw [hwn, hg0]; exact ownT_lit v0 [] (hHeld.size))
              have H0p : Hid (g0 < w_0_.heap.size) := Lib.hid (by rw [hwn, hg0]; simp)
              rw [← hg0]
              refine hK.out _ _ (bch hHeld hbn) (fun hHeld => ?_)
              clear hwn hbn hg0 hK K
              (try simp only [Act.put, List.setIfInBounds_toArray, List.set_cons_zero, List.set_cons_succ])
              refine wpAnyH_ready (rs := [4, 6]) (by kernel_rfl) (by simp) (AllReadyH.cons (o := { dst := some 28, op := Op.call { callee := Callee.builtin Builtin.append, args := #[Operand.tmp 24, Operand.tmp 27], argTypes := #[23, 23] }, type := 23, pos := "ref.go:30", after := #[{ on := 0, ground := Ground.data }, { on := 3, ground := Ground.data }], guard := none }) rfl (fun K hK => ?_) (AllReadyH.cons (o := { dst := some 30, op := Op.buildSlice 23 1 #[(0, Operand.tmp 29)], type := 23, pos := "ref.go:30", after := #[{ on := 5, ground := Ground.data }], guard := none }) rfl (fun K hK => ?_) AllReadyH.nil))
              · refine step_append_str (by rfl) (.tmp 24) (.tmp 27) rfl w.heap.size (.slice (some ⟨g0, 0, none⟩) 0 0) _ ([]) (l.take 0) rfl rfl H0.out (HTK.out w_0_ hHeld) hHeld.size (HE4.out) HL4.out ?_
                intro v4 w_0_4_ hown hgr
                have H4 := Lib.hid hown
                have hbn : Below w.heap.size w w_0_4_ := hHeld.grown hgr hHeld.size (fun r e => (own_in H0.out e).1)
                obtain ⟨a4, c4, rfl⟩ := own_slice hown
                refine hK _ _ hbn (fun hHeld => ?_)
                clear hown hgr hbn hK K
                (try simp only [Act.put, List.setIfInBounds_toArray, List.set_cons_zero, List.set_cons_succ])
                refine wpAnyH_ready (rs := [6]) (by kernel_rfl) (by simp) (AllReadyH.cons (o := { dst := some 30, op := Op.buildSlice 23 1 #[(0, Operand.tmp 29)], type := 23, pos := "ref.go:30", after := #[{ on := 5, ground := Ground.data }], guard := none }) rfl (fun K hK => ?_) AllReadyH.nil)
                · go_simp
                  obtain ⟨w_0_4_6_, hwn⟩ : ∃ z, z = w_0_4_.alloc (.cells #[.string ⟨x.toArray⟩] 9) := ⟨_, rfl⟩
                  rw [← hwn]
                  have hbn : Below w_0_4_.heap.size w_0_4_ w_0_4_6_ := by rw [hwn]; exact below_new _ _
                  replace H4 := Lib.hid (own_on H4.out hbn)
                  obtain ⟨g6, hg6⟩ : ∃ z, z = w_0_4_.heap.size := ⟨_, rfl⟩
                  have H6 : Hid (w_0_4_6_.ownsRow w.heap.size 9 1 (.slice (some ⟨g6, 0, none⟩) 1 1) ([x] : List Bs).length (strsV [x])) := Lib.hid (by rw [hwn, hg6]; exact ownT_lit w_0_4_ [x] (hHeld.size))
                  have H6p : Hid (g6 < w_0_4_6_.heap.size) := Lib.hid (by rw [hwn, hg6]; simp)
                  rw [← hg6]
                  refine hK.out _ _ (bch hHeld hbn) (fun hHeld => ?_)
                  clear hwn hbn hg6 hK K
                  (try simp only [Act.put, List.setIfInBounds_toArray, List.set_cons_zero, List.set_cons_succ])
                  refine wpAnyH_ready (rs := [7]) (by kernel_rfl) (by simp) (AllReadyH.cons (o := { dst := some 31, op := Op.call { callee := Callee.builtin Builtin.append, args := #[Operand.tmp 28, Operand.tmp 30], argTypes := #[23, 23] }, type := 23, pos := "ref.go:30", after := #[{ on := 4, ground := Ground.data }, { on := 6, ground := Ground.data }, { on := 4, ground := Ground.chain }], guard := none }) rfl (fun K hK => ?_) AllReadyH.nil)
                  · refine step_append_str (by rfl) (.tmp 28) (.tmp 30) rfl w.heap.size (.slice a4 R4.length c4) (.slice (some ⟨g6, 0, none⟩) 1 1) (R4) ([x]) rfl rfl H4.out (Rd.of_own H6.out) hHeld.size (HE7.out) HL7.out ?_
                    intro v7 w_0_4_6_7_ hown hgr
                    have H7 := Lib.hid hown
                    have hbn : Below w.heap.size w w_0_4_6_7_ := hHeld.grown hgr hHeld.size (fun r e => (own_in H4.out e).1)
                    obtain ⟨a7, c7, rfl⟩ := own_slice hown
                    refine hK _ _ hbn (fun hHeld => ?_)
                    clear hown hgr hbn hK K
                    (try simp only [Act.put, List.setIfInBounds_toArray, List.set_cons_zero, List.set_cons_succ])
                    refine wpAnyH_ready (rs := [11]) (by kernel_rfl) (by simp) (AllReadyH.cons (o := { dst := some 35, op := Op.call { callee := Callee.builtin Builtin.append, args := #[Operand.tmp 31, Operand.tmp 34], argTypes := #[23, 23] }, type := 23, pos := "ref.go:30", after := #[{ on := 7, ground := Ground.data }, { on := 10, ground := Ground.data }, { on := 7, ground := Ground.chain }], guard := none }) rfl (fun K hK => ?_) AllReadyH.nil)
                    · refine step_append_str (by rfl) (.tmp 31) (.tmp 34) rfl w.heap.size (.slice a7 R7.length c7) _ (R7) (l.drop 0) rfl rfl H7.out (HDR.out w_0_4_6_7_ hHeld) hHeld.size (HE11.out) HL11.out ?_
                      intro v11 w_0_4_6_7_11_ hown hgr
                      have H11 := Lib.hid hown
                      have hbn : Below w.heap.size w w_0_4_6_7_11_ := hHeld.grown hgr hHeld.size (fun r e => (own_in H7.out e).1)
                      obtain ⟨a11, c11, rfl⟩ := own_slice hown
                      refine hK _ _ hbn (fun hHeld => ?_)
                      clear hown hgr hbn hK K
                      (try simp only [Act.put, List.setIfInBounds_toArray, List.set_cons_zero, List.set_cons_succ])
                      refine wpAnyH_take (i := 12) (oi := { dst := some 4, op := Op.assign (Operand.tmp 35), type := 23, pos := "ref.go:30", after := #[{ on := 11, ground := Ground.data }, { on := 11, ground := Ground.chain }, { on := 0, ground := Ground.phase }, { on := 1, ground := Ground.phase }, { on := 2, ground := Ground.phase }, { on := 3, ground := Ground.phase }, { on := 4, ground := Ground.phase }, { on := 5, ground := Ground.phase }, { on := 6, ground := Ground.phase }, { on := 7, ground := Ground.phase }, { on := 8, ground := Ground.phase }, { on := 9, ground := Ground.phase }, { on := 10, ground := Ground.phase }, { on := 11, ground := Ground.phase }], guard := none }) (v := ?_) rfl (by kernel_rfl) (by kernel_rfl) (by kernel_rfl) (fun _ _ _ h => h) (Or.inl ⟨by rfl, ?_⟩) hHeld ?_
                      rotate_left
                      · (intro w hSw; go_simp; try with_reducible rfl)
                      (try simp only [Act.put, List.setIfInBounds_toArray, List.set_cons_zero, List.set_cons_succ])
                      refine wpAnyH_done (by kernel_rfl) ?_ _
                      first | refine hK2 _ _ (Met.intro (hJ _ _ ?_)) | refine Met.intro (hJ _ _ ?_)
                      (repeat apply Exists.intro)
                      refine ⟨?_, rfl⟩
                      exact ⟨_, _, rfl, H11, Lib.hid hHeld⟩
              · go_simp
                obtain ⟨w_0_6_, hwn⟩ : ∃ z, z = w_0_.alloc (.cells #[.string ⟨x.toArray⟩] 9) := ⟨_, rfl⟩
                rw [← hwn]
                have hbn : Below w_0_.heap.size w_0_ w_0_6_ := by rw [hwn]; exact below_new _ _
                replace H0 := Lib.hid (own_on H0.out hbn)
                obtain ⟨g6, hg6⟩ : ∃ z, z = w_0_.heap.size := ⟨_, rfl⟩
                have H6 : Hid (w_0_6_.ownsRow w.heap.size 9 1 (.slice (some ⟨g6, 0, none⟩) 1 1) ([x] : List Bs).length (strsV [x])) := Lib.hid (by rw [hwn, hg6]; exact ownT_lit w_0_ [x] (hHeld.size))
                have HNE : Hid (g6 ≠ g0) := Lib.hid (fun e => by have := (H0p.out); omega)
                have H6p : Hid (g6 < w_0_6_.heap.size) := Lib.hid (by rw [hwn, hg6]; simp)
                rw [← hg6]
                refine hK.out _ _ (bch hHeld hbn) (fun hHeld => ?_)
                clear hwn hbn hg6 hK K
                (try simp only [Act.put, List.setIfInBounds_toArray, List.set_cons_zero, List.set_cons_succ])
                refine wpAnyH_ready (rs := [4]) (by kernel_rfl) (by simp) (AllReadyH.cons (o := { dst := some 28, op := Op.call { callee := Callee.builtin Builtin.append, args := #[Operand.tmp 24, Operand.tmp 27], argTypes := #[23, 23] }, type := 23, pos := "ref.go:30", after := #[{ on := 0, ground := Ground.data }, { on := 3, ground := Ground.data }], guard := none }) rfl (fun K hK => ?_) AllReadyH.nil)
                · refine step_append_str (by rfl) (.tmp 24) (.tmp 27) rfl w.heap.size (.slice (some ⟨g0, 0, none⟩) 0 0) _ ([]) (l.take 0) rfl rfl H0.out (HTK.out w_0_6_ hHeld) hHeld.size (HE4.out) HL4.out ?_
                  intro v4 w_0_6_4_ hown hgr
                  have H4 := Lib.hid hown
                  have hbn : Below w.heap.size w w_0_6_4_ := hHeld.grown hgr hHeld.size (fun r e => (own_in H0.out e).1)
                  replace H6 := Lib.hid (own_grown H6.out hgr (fun r e e2 => by cases e; cases e2; exact HNE.out rfl))
                  obtain ⟨a4, c4, rfl⟩ := own_slice hown
                  refine hK _ _ hbn (fun hHeld => ?_)
                  clear hown hgr hbn hK K
                  (try simp only [Act.put, List.setIfInBounds_toArray, List.set_cons_zero, List.set_cons_succ])
                  refine wpAnyH_ready (rs := [7]) (by kernel_rfl) (by simp) (AllReadyH.cons (o := { dst := some 31, op := Op.call { callee := Callee.builtin Builtin.append, args := #[Operand.tmp 28, Operand.tmp 30], argTypes := #[23, 23] }, type := 23, pos := "ref.go:30", after := #[{ on := 4, ground := Ground.data }, { on := 6, ground := Ground.data }, { on := 4, ground := Ground.chain }], guard := none }) rfl (fun K hK => ?_) AllReadyH.nil)
                  · refine step_append_str (by rfl) (.tmp 28) (.tmp 30) rfl w.heap.size (.slice a4 R4.length c4) (.slice (some ⟨g6, 0, none⟩) 1 1) (R4) ([x]) rfl rfl H4.out (Rd.of_own H6.out) hHeld.size (HE7.out) HL7.out ?_
                    intro v7 w_0_6_4_7_ hown hgr
                    have H7 := Lib.hid hown
                    have hbn : Below w.heap.size w w_0_6_4_7_ := hHeld.grown hgr hHeld.size (fun r e => (own_in H4.out e).1)
                    obtain ⟨a7, c7, rfl⟩ := own_slice hown
                    refine hK _ _ hbn (fun hHeld => ?_)
                    clear hown hgr hbn hK K
                    (try simp only [Act.put, List.setIfInBounds_toArray, List.set_cons_zero, List.set_cons_succ])
                    refine wpAnyH_ready (rs := [11]) (by kernel_rfl) (by simp) (AllReadyH.cons (o := { dst := some 35, op := Op.call { callee := Callee.builtin Builtin.append, args := #[Operand.tmp 31, Operand.tmp 34], argTypes := #[23, 23] }, type := 23, pos := "ref.go:30", after := #[{ on := 7, ground := Ground.data }, { on := 10, ground := Ground.data }, { on := 7, ground := Ground.chain }], guard := none }) rfl (fun K hK => ?_) AllReadyH.nil)
                    · refine step_append_str (by rfl) (.tmp 31) (.tmp 34) rfl w.heap.size (.slice a7 R7.length c7) _ (R7) (l.drop 0) rfl rfl H7.out (HDR.out w_0_6_4_7_ hHeld) hHeld.size (HE11.out) HL11.out ?_
                      intro v11 w_0_6_4_7_11_ hown hgr
                      have H11 := Lib.hid hown
                      have hbn : Below w.heap.size w w_0_6_4_7_11_ := hHeld.grown hgr hHeld.size (fun r e => (own_in H7.out e).1)
                      obtain ⟨a11, c11, rfl⟩ := own_slice hown
                      refine hK _ _ hbn (fun hHeld => ?_)
                      clear hown hgr hbn hK K
                      (try simp only [Act.put, List.setIfInBounds_toArray, List.set_cons_zero, List.set_cons_succ])
                      refine wpAnyH_take (i := 12) (oi := { dst := some 4, op := Op.assign (Operand.tmp 35), type := 23, pos := "ref.go:30", after := #[{ on := 11, ground := Ground.data }, { on := 11, ground := Ground.chain }, { on := 0, ground := Ground.phase }, { on := 1, ground := Ground.phase }, { on := 2, ground := Ground.phase }, { on := 3, ground := Ground.phase }, { on := 4, ground := Ground.phase }, { on := 5, ground := Ground.phase }, { on := 6, ground := Ground.phase }, { on := 7, ground := Ground.phase }, { on := 8, ground := Ground.phase }, { on := 9, ground := Ground.phase }, { on := 10, ground := Ground.phase }, { on := 11, ground := Ground.phase }], guard := none }) (v := ?_) rfl (by kernel_rfl) (by kernel_rfl) (by kernel_rfl) (fun _ _ _ h => h) (Or.inl ⟨by rfl, ?_⟩) hHeld ?_
                      rotate_left
                      · (intro w hSw; go_simp; try with_reducible rfl)
                      (try simp only [Act.put, List.setIfInBounds_toArray, List.set_cons_zero, List.set_cons_succ])
                      refine wpAnyH_done (by kernel_rfl) ?_ _
                      first | refine hK2 _ _ (Met.intro (hJ _ _ ?_)) | refine Met.intro (hJ _ _ ?_)
                      (repeat apply Exists.intro)
                      refine ⟨?_, rfl⟩
                      exact ⟨_, _, rfl, H11, Lib.hid hHeld⟩
            · go_simp
              obtain ⟨w_6_, hwn⟩ : ∃ z, z = v0.alloc (.cells #[.string ⟨x.toArray⟩] 9) := ⟨_, rfl⟩
              rw [← hwn]
              have hbn : Below v0.heap.size v0 w_6_ := by rw [hwn]; exact below_new _ _
              obtain ⟨g6, hg6⟩ : ∃ z, z = v0.heap.size := ⟨_, rfl⟩
              have H6 : Hid (w_6_.ownsRow w.heap.size 9 1 (.slice (some ⟨g6, 0, none⟩) 1 1) ([x] : List Bs).length (strsV [x])) := Lib.hid (by rw [hwn, hg6]; exact ownT_lit v0 [x] (hHeld.size))
              have H6p : Hid (g6 < w_6_.heap.size) := Lib.hid (by rw [hwn, hg6]; simp)
              rw [← hg6]
              refine hK.out _ _ (bch hHeld hbn) (fun hHeld => ?_)
              clear hwn hbn hg6 hK K
              (try simp only [Act.put, List.setIfInBounds_toArray, List.set_cons_zero, List.set_cons_succ])
              refine wpAnyH_ready (rs := [0]) (by kernel_rfl) (by simp) (AllReadyH.cons (o := { dst := some 24, op := Op.buildSlice 23 0 #[], type := 23, pos := "ref.go:30", after := #[], guard := none }) rfl (fun K hK => ?_) AllReadyH.nil)
              · go_simp
                obtain ⟨w_6_0_, hwn⟩ : ∃ z, z = w_6_.alloc (.cells #[] 9) := ⟨_, rfl⟩
                rw [← hwn]
                have hbn : Below w_6_.heap.size w_6_ w_6_0_ := by rw [hwn]; exact below_new _ _
                replace H6 := Lib.hid (own_on H6.out hbn)
                obtain ⟨g0, hg0⟩ : ∃ z, z = w_6_.heap.size := ⟨_, rfl⟩
                have H0 : Hid (w_6_0_.ownsRow w.heap.size 9 1 (.slice (some ⟨g0, 0, none⟩) 0 0) ([] : List Bs).length (strsV [])) := Lib.hid (by rw [hwn, hg0]; exact ownT_lit w_6_ [] (hHeld.size))
                have HNE : Hid (g6 ≠ g0) := Lib.hid (fun e => by have := (H6p.out); omega)
                have H0p : Hid (g0 < w_6_0_.heap.size) := Lib.hid (by rw [hwn, hg0]; simp)
                rw [← hg0]
                refine hK.out _ _ (bch hHeld hbn) (fun hHeld => ?_)
                clear hwn hbn hg0 hK K
                (try simp only [Act.put, List.setIfInBounds_toArray, List.set_cons_zero, List.set_cons_succ])
                refine wpAnyH_ready (rs := [4]) (by kernel_rfl) (by simp) (AllReadyH.cons (o := { dst := some 28, op := Op.call { callee := Callee.builtin Builtin.append, args := #[Operand.tmp 24, Operand.tmp 27], argTypes := #[23, 23] }, type := 23, pos := "ref.go:30", after := #[{ on := 0, ground := Ground.data }, { on := 3, ground := Ground.data }], guard := none }) rfl (fun K hK => ?_) AllReadyH.nil)
                · refine step_append_str (by rfl) (.tmp 24) (.tmp 27) rfl w.heap.size (.slice (some ⟨g0, 0, none⟩) 0 0) _ ([]) (l.take 0) rfl rfl H0.out (HTK.out w_6_0_ hHeld) hHeld.size (HE4.out) HL4.out ?_
                  intro v4 w_6_0_4_ hown hgr
                  have H4 := Lib.hid hown
                  have hbn : Below w.heap.size w w_6_0_4_ := hHeld.grown hgr hHeld.size (fun r e => (own_in H0.out e).1)
                  replace H6 := Lib.hid (own_grown H6.out hgr (fun r e e2 => by cases e; cases e2; exact HNE.out rfl))
                  obtain ⟨a4, c4, rfl⟩ := own_slice hown
                  refine hK _ _ hbn (fun hHeld => ?_)
                  clear hown hgr hbn hK K
                  (try simp only [Act.put, List.setIfInBounds_toArray, List.set_cons_zero, List.set_cons_succ])
                  refine wpAnyH_ready (rs := [7]) (by kernel_rfl) (by simp) (AllReadyH.cons (o := { dst := some 31, op := Op.call { callee := Callee.builtin Builtin.append, args := #[Operand.tmp 28, Operand.tmp 30], argTypes := #[23, 23] }, type := 23, pos := "ref.go:30", after := #[{ on := 4, ground := Ground.data }, { on := 6, ground := Ground.data }, { on := 4, ground := Ground.chain }], guard := none }) rfl (fun K hK => ?_) AllReadyH.nil)
                  · refine step_append_str (by rfl) (.tmp 28) (.tmp 30) rfl w.heap.size (.slice a4 R4.length c4) (.slice (some ⟨g6, 0, none⟩) 1 1) (R4) ([x]) rfl rfl H4.out (Rd.of_own H6.out) hHeld.size (HE7.out) HL7.out ?_
                    intro v7 w_6_0_4_7_ hown hgr
                    have H7 := Lib.hid hown
                    have hbn : Below w.heap.size w w_6_0_4_7_ := hHeld.grown hgr hHeld.size (fun r e => (own_in H4.out e).1)
                    obtain ⟨a7, c7, rfl⟩ := own_slice hown
                    refine hK _ _ hbn (fun hHeld => ?_)
                    clear hown hgr hbn hK K
                    (try simp only [Act.put, List.setIfInBounds_toArray, List.set_cons_zero, List.set_cons_succ])
                    refine wpAnyH_ready (rs := [11]) (by kernel_rfl) (by simp) (AllReadyH.cons (o := { dst := some 35, op := Op.call { callee := Callee.builtin Builtin.append, args := #[Operand.tmp 31, Operand.tmp 34], argTypes := #[23, 23] }, type := 23, pos := "ref.go:30", after := #[{ on := 7, ground := Ground.data }, { on := 10, ground := Ground.data }, { on := 7, ground := Ground.chain }], guard := none }) rfl (fun K hK => ?_) AllReadyH.nil)
                    · refine step_append_str (by rfl) (.tmp 31) (.tmp 34) rfl w.heap.size (.slice a7 R7.length c7) _ (R7) (l.drop 0) rfl rfl H7.out (HDR.out w_6_0_4_7_ hHeld) hHeld.size (HE11.out) HL11.out ?_
                      intro v11 w_6_0_4_7_11_ hown hgr
                      have H11 := Lib.hid hown
                      have hbn : Below w.heap.size w w_6_0_4_7_11_ := hHeld.grown hgr hHeld.size (fun r e => (own_in H7.out e).1)
                      obtain ⟨a11, c11, rfl⟩ := own_slice hown
                      refine hK _ _ hbn (fun hHeld => ?_)
                      clear hown hgr hbn hK K
                      (try simp only [Act.put, List.setIfInBounds_toArray, List.set_cons_zero, List.set_cons_succ])
                      refine wpAnyH_take (i := 12) (oi := { dst := some 4, op := Op.assign (Operand.tmp 35), type := 23, pos := "ref.go:30", after := #[{ on := 11, ground := Ground.data }, { on := 11, ground := Ground.chain }, { on := 0, ground := Ground.phase }, { on := 1, ground := Ground.phase }, { on := 2, ground := Ground.phase }, { on := 3, ground := Ground.phase }, { on := 4, ground := Ground.phase }, { on := 5, ground := Ground.phase }, { on := 6, ground := Ground.phase }, { on := 7, ground := Ground.phase }, { on := 8, ground := Ground.phase }, { on := 9, ground := Ground.phase }, { on := 10, ground := Ground.phase }, { on := 11, ground := Ground.phase }], guard := none }) (v := ?_) rfl (by kernel_rfl) (by kernel_rfl) (by kernel_rfl) (fun _ _ _ h => h) (Or.inl ⟨by rfl, ?_⟩) hHeld ?_
                      rotate_left
                      · (intro w hSw; go_simp; try with_reducible rfl)
                      (try simp only [Act.put, List.setIfInBounds_toArray, List.set_cons_zero, List.set_cons_succ])
                      refine wpAnyH_done (by kernel_rfl) ?_ _
                      first | refine hK2 _ _ (Met.intro (hJ _ _ ?_)) | refine Met.intro (hJ _ _ ?_)
                      (repeat apply Exists.intro)
                      refine ⟨?_, rfl⟩
                      exact ⟨_, _, rfl, H11, Lib.hid hHeld⟩
          case rest =>
          obtain ⟨a', c', rfl, HOW, HBW⟩ := hcut
          go_wp2_with fail
          go_ret
          first | exact ⟨_, rfl, (fun h => by cases h), (fun _ => by rw [HPI.out]; exact HOW.out), HBW.out⟩ | exact ⟨_, rfl, by rw [HPI.out]; exact HOW.out, HBW.out⟩ | exact ⟨rfl, by rw [HPI.out]; exact HOW.out, HBW.out⟩

        · by_cases hck : c = k
          · subst hck
            have HTK : Hid (∀ W, Below w.heap.size w W → Rd W (.slice (some ⟨g, 0, none⟩) c c) (strsV (l.take c))) := Lib.hid (fun W hW => (HV.out.on hW).cutS (Nat.le_refl _))
            have HDR : Hid (∀ W, Below w.heap.size w W → Rd W (.slice (some ⟨g, 0, none⟩) 0 0) (strsV (l.drop c))) := Lib.hid (fun W hW => by
              have e0 : l.drop c = [] := List.drop_of_length_le (by rw [← HN.out]; exact Nat.le_refl _)
              rw [e0]
              exact ⟨_, 0, rfl, Nat.le_refl _, Nat.zero_le _, (fun e => by cases e), fun h => absurd h (Nat.lt_irrefl _)⟩)
            obtain ⟨R4, hR4⟩ : ∃ z, z = [] ++ l.take c := ⟨_, rfl⟩
            obtain ⟨R7, hR7⟩ : ∃ z, z = R4 ++ [x] := ⟨_, rfl⟩
            obtain ⟨R11, hR11⟩ : ∃ z, z = R7 ++ l.drop c := ⟨_, rfl⟩
            have HE4 : Hid ([] ++ l.take c = R4) := Lib.hid hR4.symm
            have HE7 : Hid (R4 ++ [x] = R7) := Lib.hid hR7.symm
            have HE11 : Hid (R7 ++ l.drop c = R11) := Lib.hid hR11.symm
            have HL4 : Hid (R4.length ≤ 1000000) := Lib.hid (by have := HN.out; rw [hR4]; simp <;> omega)
            have HL7 : Hid (R7.length ≤ 1000000) := Lib.hid (by have := HN.out; rw [hR7, hR4]; simp <;> omega)
            have HL11 : Hid (R11.length ≤ 1000000) := Lib.hid (by have := HN.out; rw [hR11, hR7, hR4]; simp <;> omega)
            have HPI : Hid (putT l x = R11) := Lib.hid (by rw [HPL.out, HTW.out.1, HTW.out.2, hR11, hR7, hR4]; simp)
            clear hR4 hR7 hR11
            clear HTW HPL HLo
            go_upto_region 6 with fail
            go_cut [4] (fun p4 wx => ∃ a' c', p4 = .slice a' R11.length c' ∧ Hid (wx.ownsRow w.heap.size 9 1 (.slice a' R11.length c') R11.length (strsV R11)) ∧ Hid (Below w.heap.size w wx))
            case first =>
              rename_i J2 K2 hJ hK2
              obtain ⟨v0, hv0⟩ : ∃ q, q = World.drew w := ⟨_, rfl⟩
              refine wp_region_held_drew (S := fun w' => Below w.heap.size w w') (by kernel_rfl) (below_drewN (Below.refl _ _) 1) (fun hHeld => ?_)
              rw [← hv0] at hHeld ⊢
              clear hv0
              refine wpAnyH_take (i := 1) (oi := { dst := some 25, op := Op.move (Operand.tmp 0), type := 23, pos := "ref.go:30", after := #[], guard := none }) (v := ?_) rfl (by kernel_rfl) (by kernel_rfl) (by kernel_rfl) (fun _ _ _ h => h) (Or.inl ⟨by rfl, ?_⟩) hHeld ?_
              rotate_left
              · (intro w hSw; go_simp; try with_reducible rfl)
              (try simp only [Act.put, List.setIfInBounds_toArray, List.set_cons_zero, List.set_cons_succ])
              refine wpAnyH_take (i := 2) (oi := { dst := some 26, op := Op.move (Operand.tmp 5), type := 3, pos := "ref.go:30", after := #[], guard := none }) (v := ?_) rfl (by kernel_rfl) (by kernel_rfl) (by kernel_rfl) (fun _ _ _ h => h) (Or.inl ⟨by rfl, ?_⟩) hHeld ?_
              rotate_left
              · (intro w hSw; go_simp; try with_reducible rfl)
              (try simp only [Act.put, List.setIfInBounds_toArray, List.set_cons_zero, List.set_cons_succ])
              refine wpAnyH_take (i := 3) (oi := { dst := some 27, op := Op.slice 23 (Operand.tmp 25) none (some (Operand.tmp 26)) none, type := 23, pos := "ref.go:30", after := #[{ on := 1, ground := Ground.data }, { on := 2, ground := Ground.data }], guard := none }) (v := ?_) rfl (by kernel_rfl) (by kernel_rfl) (by kernel_rfl) (fun _ _ _ h => h) (Or.inl ⟨by rfl, ?_⟩) hHeld ?_
              rotate_left
              · (intro w hSw; go_simp; try with_reducible rfl)
              (try simp only [Act.put, List.setIfInBounds_toArray, List.set_cons_zero, List.set_cons_succ])
              refine wpAnyH_take (i := 5) (oi := { dst := some 29, op := Op.move (Operand.tmp 1), type := 9, pos := "ref.go:30", after := #[], guard := none }) (v := ?_) rfl (by kernel_rfl) (by kernel_rfl) (by kernel_rfl) (fun _ _ _ h => h) (Or.inl ⟨by rfl, ?_⟩) hHeld ?_
              rotate_left
              · (intro w hSw; go_simp; try with_reducible rfl)
              (try simp only [Act.put, List.setIfInBounds_toArray, List.set_cons_zero, List.set_cons_succ])
              refine wpAnyH_take (i := 8) (oi := { dst := some 32, op := Op.move (Operand.tmp 0), type := 23, pos := "ref.go:30", after := #[], guard := none }) (v := ?_) rfl (by kernel_rfl) (by kernel_rfl) (by kernel_rfl) (fun _ _ _ h => h) (Or.inl ⟨by rfl, ?_⟩) hHeld ?_
              rotate_left
              · (intro w hSw; go_simp; try with_reducible rfl)
              (try simp only [Act.put, List.setIfInBounds_toArray, List.set_cons_zero, List.set_cons_succ])
              refine wpAnyH_take (i := 9) (oi := { dst := some 33, op := Op.move (Operand.tmp 5), type := 3, pos := "ref.go:30", after := #[], guard := none }) (v := ?_) rfl (by kernel_rfl) (by kernel_rfl) (by kernel_rfl) (fun _ _ _ h => h) (Or.inl ⟨by rfl, ?_⟩) hHeld ?_
              rotate_left
              · (intro w hSw; go_simp; try with_reducible rfl)
              (try simp only [Act.put, List.setIfInBounds_toArray, List.set_cons_zero, List.set_cons_succ])
              refine wpAnyH_take (i := 10) (oi := { dst := some 34, op := Op.slice 23 (Operand.tmp 32) (some (Operand.tmp 33)) none none, type := 23, pos := "ref.go:30", after := #[{ on := 8, ground := Ground.data }, { on := 9, ground := Ground.data }], guard := none }) (v := ?_) rfl (by kernel_rfl) (by kernel_rfl) (by kernel_rfl) (fun _ _ _ h => h) (Or.inl ⟨by rfl, ?_⟩) hHeld ?_
              rotate_left
              · (intro w hSw; go_simp; try with_reducible rfl)
              (try simp only [Act.put, List.setIfInBounds_toArray, List.set_cons_zero, List.set_cons_succ])
              refine wpAnyH_ready (rs := [0, 6]) (by kernel_rfl) (by simp) (AllReadyH.cons (o := { dst := some 24, op := Op.buildSlice 23 0 #[], type := 23, pos := "ref.go:30", after := #[], guard := none }) rfl (fun K hK => ?_) (AllReadyH.cons (o := { dst := some 30, op := Op.buildSlice 23 1 #[(0, Operand.tmp 29)], type := 23, pos := "ref.go:30", after := #[{ on := 5, ground := Ground.data }], guard := none }) rfl (fun K hK => ?_) AllReadyH.nil))
              · go_simp
                obtain ⟨w_0_, hwn⟩ : ∃ z, z = v0.alloc (.cells #[] 9) := ⟨_, rfl⟩
                rw [← hwn]
                have hbn : Below v0.heap.size v0 w_0_ := by rw [hwn]; exact below_new _ _
                obtain ⟨g0, hg0⟩ : ∃ z, z = v0.heap.size := ⟨_, rfl⟩
                have H0 : Hid (w_0_.ownsRow w.heap.size 9 1 (.slice (some ⟨g0, 0, none⟩) 0 0) ([] : List Bs).length (strsV [])) := Lib.hid (by rw [hwn, hg0]; exact ownT_lit v0 [] (hHeld.size))
                have H0p : Hid (g0 < w_0_.heap.size) := Lib.hid (by rw [hwn, hg0]; simp)
                rw [← hg0]
                refine hK.out _ _ (bch hHeld hbn) (fun hHeld => ?_)
                clear hwn hbn hg0 hK K
                (try simp only [Act.put, List.setIfInBounds_toArray, List.set_cons_zero, List.set_cons_succ])
                refine wpAnyH_ready (rs := [4, 6]) (by kernel_rfl) (by simp) (AllReadyH.cons (o := { dst := some 28, op := Op.call { callee := Callee.builtin Builtin.append, args := #[Operand.tmp 24, Operand.tmp 27], argTypes := #[23, 23] }, type := 23, pos := "ref.go:30", after := #[{ on := 0, ground := Ground.data }, { on := 3, ground := Ground.data }], guard := none }) rfl (fun K hK => ?_) (AllReadyH.cons (o := { dst := some 30, op := Op.buildSlice 23 1 #[(0, Operand.tmp 29)], type := 23, pos := "ref.go:30", after := #[{ on := 5, ground := Ground.data }], guard := none }) rfl (fun K hK => ?_) AllReadyH.nil))
                · refine step_append_str (by rfl) (.tmp 24) (.tmp 27) rfl w.heap.size (.slice (some ⟨g0, 0, none⟩) 0 0) _ ([]) (l.take c) rfl rfl H0.out (HTK.out w_0_ hHeld) hHeld.size (HE4.out) HL4.out ?_
                  intro v4 w_0_4_ hown hgr
                  have H4 := Lib.hid hown
                  have hbn : Below w.heap.size w w_0_4_ := hHeld.grown hgr hHeld.size (fun r e => (own_in H0.out e).1)
                  obtain ⟨a4, c4, rfl⟩ := own_slice hown
                  refine hK _ _ hbn (fun hHeld => ?_)
                  clear hown hgr hbn hK K
                  (try simp only [Act.put, List.setIfInBounds_toArray, List.set_cons_zero, List.set_cons_succ])
                  refine wpAnyH_ready (rs := [6]) (by kernel_rfl) (by simp) (AllReadyH.cons (o := { dst := some 30, op := Op.buildSlice 23 1 #[(0, Operand.tmp 29)], type := 23, pos := "ref.go:30", after := #[{ on := 5, ground := Ground.data }], guard := none }) rfl (fun K hK => ?_) AllReadyH.nil)
                  · go_simp
                    obtain ⟨w_0_4_6_, hwn⟩ : ∃ z, z = w_0_4_.alloc (.cells #[.string ⟨x.toArray⟩] 9) := ⟨_, rfl⟩
                    rw [← hwn]
                    have hbn : Below w_0_4_.heap.size w_0_4_ w_0_4_6_ := by rw [hwn]; exact below_new _ _
                    replace H4 := Lib.hid (own_on H4.out hbn)
                    obtain ⟨g6, hg6⟩ : ∃ z, z = w_0_4_.heap.size := ⟨_, rfl⟩
                    have H6 : Hid (w_0_4_6_.ownsRow w.heap.size 9 1 (.slice (some ⟨g6, 0, none⟩) 1 1) ([x] : List Bs).length (strsV [x])) := Lib.hid (by rw [hwn, hg6]; exact ownT_lit w_0_4_ [x] (hHeld.size))
                    have H6p : Hid (g6 < w_0_4_6_.heap.size) := Lib.hid (by rw [hwn, hg6]; simp)
                    rw [← hg6]
                    refine hK.out _ _ (bch hHeld hbn) (fun hHeld => ?_)
                    clear hwn hbn hg6 hK K
                    (try simp only [Act.put, List.setIfInBounds_toArray, List.set_cons_zero, List.set_cons_succ])
                    refine wpAnyH_ready (rs := [7]) (by kernel_rfl) (by simp) (AllReadyH.cons (o := { dst := some 31, op := Op.call { callee := Callee.builtin Builtin.append, args := #[Operand.tmp 28, Operand.tmp 30], argTypes := #[23, 23] }, type := 23, pos := "ref.go:30", after := #[{ on := 4, ground := Ground.data }, { on := 6, ground := Ground.data }, { on := 4, ground := Ground.chain }], guard := none }) rfl (fun K hK => ?_) AllReadyH.nil)
                    · refine step_append_str (by rfl) (.tmp 28) (.tmp 30) rfl w.heap.size (.slice a4 R4.length c4) (.slice (some ⟨g6, 0, none⟩) 1 1) (R4) ([x]) rfl rfl H4.out (Rd.of_own H6.out) hHeld.size (HE7.out) HL7.out ?_
                      intro v7 w_0_4_6_7_ hown hgr
                      have H7 := Lib.hid hown
                      have hbn : Below w.heap.size w w_0_4_6_7_ := hHeld.grown hgr hHeld.size (fun r e => (own_in H4.out e).1)
                      obtain ⟨a7, c7, rfl⟩ := own_slice hown
                      refine hK _ _ hbn (fun hHeld => ?_)
                      clear hown hgr hbn hK K
                      (try simp only [Act.put, List.setIfInBounds_toArray, List.set_cons_zero, List.set_cons_succ])
                      refine wpAnyH_ready (rs := [11]) (by kernel_rfl) (by simp) (AllReadyH.cons (o := { dst := some 35, op := Op.call { callee := Callee.builtin Builtin.append, args := #[Operand.tmp 31, Operand.tmp 34], argTypes := #[23, 23] }, type := 23, pos := "ref.go:30", after := #[{ on := 7, ground := Ground.data }, { on := 10, ground := Ground.data }, { on := 7, ground := Ground.chain }], guard := none }) rfl (fun K hK => ?_) AllReadyH.nil)
                      · refine step_append_str (by rfl) (.tmp 31) (.tmp 34) rfl w.heap.size (.slice a7 R7.length c7) _ (R7) (l.drop c) rfl rfl H7.out (HDR.out w_0_4_6_7_ hHeld) hHeld.size (HE11.out) HL11.out ?_
                        intro v11 w_0_4_6_7_11_ hown hgr
                        have H11 := Lib.hid hown
                        have hbn : Below w.heap.size w w_0_4_6_7_11_ := hHeld.grown hgr hHeld.size (fun r e => (own_in H7.out e).1)
                        obtain ⟨a11, c11, rfl⟩ := own_slice hown
                        refine hK _ _ hbn (fun hHeld => ?_)
                        clear hown hgr hbn hK K
                        (try simp only [Act.put, List.setIfInBounds_toArray, List.set_cons_zero, List.set_cons_succ])
                        refine wpAnyH_take (i := 12) (oi := { dst := some 4, op := Op.assign (Operand.tmp 35), type := 23, pos := "ref.go:30", after := #[{ on := 11, ground := Ground.data }, { on := 11, ground := Ground.chain }, { on := 0, ground := Ground.phase }, { on := 1, ground := Ground.phase }, { on := 2, ground := Ground.phase }, { on := 3, ground := Ground.phase }, { on := 4, ground := Ground.phase }, { on := 5, ground := Ground.phase }, { on := 6, ground := Ground.phase }, { on := 7, ground := Ground.phase }, { on := 8, ground := Ground.phase }, { on := 9, ground := Ground.phase }, { on := 10, ground := Ground.phase }, { on := 11, ground := Ground.phase }], guard := none }) (v := ?_) rfl (by kernel_rfl) (by kernel_rfl) (by kernel_rfl) (fun _ _ _ h => h) (Or.inl ⟨by rfl, ?_⟩) hHeld ?_
                        rotate_left
                        · (intro w hSw; go_simp; try with_reducible rfl)
                        (try simp only [Act.put, List.setIfInBounds_toArray, List.set_cons_zero, List.set_cons_succ])
                        refine wpAnyH_done (by kernel_rfl) ?_ _
                        first | refine hK2 _ _ (Met.intro (hJ _ _ ?_)) | refine Met.intro (hJ _ _ ?_)
                        (repeat apply Exists.intro)
                        refine ⟨?_, rfl⟩
                        exact ⟨_, _, rfl, H11, Lib.hid hHeld⟩
                · go_simp
                  obtain ⟨w_0_6_, hwn⟩ : ∃ z, z = w_0_.alloc (.cells #[.string ⟨x.toArray⟩] 9) := ⟨_, rfl⟩
                  rw [← hwn]
                  have hbn : Below w_0_.heap.size w_0_ w_0_6_ := by rw [hwn]; exact below_new _ _
                  replace H0 := Lib.hid (own_on H0.out hbn)
                  obtain ⟨g6, hg6⟩ : ∃ z, z = w_0_.heap.size := ⟨_, rfl⟩
                  have H6 : Hid (w_0_6_.ownsRow w.heap.size 9 1 (.slice (some ⟨g6, 0, none⟩) 1 1) ([x] : List Bs).length (strsV [x])) := Lib.hid (by rw [hwn, hg6]; exact ownT_lit w_0_ [x] (hHeld.size))
                  have HNE : Hid (g6 ≠ g0) := Lib.hid (fun e => by have := (H0p.out); omega)
                  have H6p : Hid (g6 < w_0_6_.heap.size) := Lib.hid (by rw [hwn, hg6]; simp)
                  rw [← hg6]
                  refine hK.out _ _ (bch hHeld hbn) (fun hHeld => ?_)
                  clear hwn hbn hg6 hK K
                  (try simp only [Act.put, List.setIfInBounds_toArray, List.set_cons_zero, List.set_cons_succ])
                  refine wpAnyH_ready (rs := [4]) (by kernel_rfl) (by simp) (AllReadyH.cons (o := { dst := some 28, op := Op.call { callee := Callee.builtin Builtin.append, args := #[Operand.tmp 24, Operand.tmp 27], argTypes := #[23, 23] }, type := 23, pos := "ref.go:30", after := #[{ on := 0, ground := Ground.data }, { on := 3, ground := Ground.data }], guard := none }) rfl (fun K hK => ?_) AllReadyH.nil)
                  · refine step_append_str (by rfl) (.tmp 24) (.tmp 27) rfl w.heap.size (.slice (some ⟨g0, 0, none⟩) 0 0) _ ([]) (l.take c) rfl rfl H0.out (HTK.out w_0_6_ hHeld) hHeld.size (HE4.out) HL4.out ?_
                    intro v4 w_0_6_4_ hown hgr
                    have H4 := Lib.hid hown
                    have hbn : Below w.heap.size w w_0_6_4_ := hHeld.grown hgr hHeld.size (fun r e => (own_in H0.out e).1)
                    replace H6 := Lib.hid (own_grown H6.out hgr (fun r e e2 => by cases e; cases e2; exact HNE.out rfl))
                    obtain ⟨a4, c4, rfl⟩ := own_slice hown
                    refine hK _ _ hbn (fun hHeld => ?_)
                    clear hown hgr hbn hK K
                    (try simp only [Act.put, List.setIfInBounds_toArray, List.set_cons_zero, List.set_cons_succ])
                    refine wpAnyH_ready (rs := [7]) (by kernel_rfl) (by simp) (AllReadyH.cons (o := { dst := some 31, op := Op.call { callee := Callee.builtin Builtin.append, args := #[Operand.tmp 28, Operand.tmp 30], argTypes := #[23, 23] }, type := 23, pos := "ref.go:30", after := #[{ on := 4, ground := Ground.data }, { on := 6, ground := Ground.data }, { on := 4, ground := Ground.chain }], guard := none }) rfl (fun K hK => ?_) AllReadyH.nil)
                    · refine step_append_str (by rfl) (.tmp 28) (.tmp 30) rfl w.heap.size (.slice a4 R4.length c4) (.slice (some ⟨g6, 0, none⟩) 1 1) (R4) ([x]) rfl rfl H4.out (Rd.of_own H6.out) hHeld.size (HE7.out) HL7.out ?_
                      intro v7 w_0_6_4_7_ hown hgr
                      have H7 := Lib.hid hown
                      have hbn : Below w.heap.size w w_0_6_4_7_ := hHeld.grown hgr hHeld.size (fun r e => (own_in H4.out e).1)
                      obtain ⟨a7, c7, rfl⟩ := own_slice hown
                      refine hK _ _ hbn (fun hHeld => ?_)
                      clear hown hgr hbn hK K
                      (try simp only [Act.put, List.setIfInBounds_toArray, List.set_cons_zero, List.set_cons_succ])
                      refine wpAnyH_ready (rs := [11]) (by kernel_rfl) (by simp) (AllReadyH.cons (o := { dst := some 35, op := Op.call { callee := Callee.builtin Builtin.append, args := #[Operand.tmp 31, Operand.tmp 34], argTypes := #[23, 23] }, type := 23, pos := "ref.go:30", after := #[{ on := 7, ground := Ground.data }, { on := 10, ground := Ground.data }, { on := 7, ground := Ground.chain }], guard := none }) rfl (fun K hK => ?_) AllReadyH.nil)
                      · refine step_append_str (by rfl) (.tmp 31) (.tmp 34) rfl w.heap.size (.slice a7 R7.length c7) _ (R7) (l.drop c) rfl rfl H7.out (HDR.out w_0_6_4_7_ hHeld) hHeld.size (HE11.out) HL11.out ?_
                        intro v11 w_0_6_4_7_11_ hown hgr
                        have H11 := Lib.hid hown
                        have hbn : Below w.heap.size w w_0_6_4_7_11_ := hHeld.grown hgr hHeld.size (fun r e => (own_in H7.out e).1)
                        obtain ⟨a11, c11, rfl⟩ := own_slice hown
                        refine hK _ _ hbn (fun hHeld => ?_)
                        clear hown hgr hbn hK K
                        (try simp only [Act.put, List.setIfInBounds_toArray, List.set_cons_zero, List.set_cons_succ])
                        refine wpAnyH_take (i := 12) (oi := { dst := some 4, op := Op.assign (Operand.tmp 35), type := 23, pos := "ref.go:30", after := #[{ on := 11, ground := Ground.data }, { on := 11, ground := Ground.chain }, { on := 0, ground := Ground.phase }, { on := 1, ground := Ground.phase }, { on := 2, ground := Ground.phase }, { on := 3, ground := Ground.phase }, { on := 4, ground := Ground.phase }, { on := 5, ground := Ground.phase }, { on := 6, ground := Ground.phase }, { on := 7, ground := Ground.phase }, { on := 8, ground := Ground.phase }, { on := 9, ground := Ground.phase }, { on := 10, ground := Ground.phase }, { on := 11, ground := Ground.phase }], guard := none }) (v := ?_) rfl (by kernel_rfl) (by kernel_rfl) (by kernel_rfl) (fun _ _ _ h => h) (Or.inl ⟨by rfl, ?_⟩) hHeld ?_
                        rotate_left
                        · (intro w hSw; go_simp; try with_reducible rfl)
                        (try simp only [Act.put, List.setIfInBounds_toArray, List.set_cons_zero, List.set_cons_succ])
                        refine wpAnyH_done (by kernel_rfl) ?_ _
                        first | refine hK2 _ _ (Met.intro (hJ _ _ ?_)) | refine Met.intro (hJ _ _ ?_)
                        (repeat apply Exists.intro)
                        refine ⟨?_, rfl⟩
                        exact ⟨_, _, rfl, H11, Lib.hid hHeld⟩
              · go_simp
                obtain ⟨w_6_, hwn⟩ : ∃ z, z = v0.alloc (.cells #[.string ⟨x.toArray⟩] 9) := ⟨_, rfl⟩
                rw [← hwn]
                have hbn : Below v0.heap.size v0 w_6_ := by rw [hwn]; exact below_new _ _
                obtain ⟨g6, hg6⟩ : ∃ z, z = v0.heap.size := ⟨_, rfl⟩
                have H6 : Hid (w_6_.ownsRow w.heap.size 9 1 (.slice (some ⟨g6, 0, none⟩) 1 1) ([x] : List Bs).length (strsV [x])) := Lib.hid (by rw [hwn, hg6]; exact ownT_lit v0 [x] (hHeld.size))
                have H6p : Hid (g6 < w_6_.heap.size) := Lib.hid (by rw [hwn, hg6]; simp)
                rw [← hg6]
                refine hK.out _ _ (bch hHeld hbn) (fun hHeld => ?_)
                clear hwn hbn hg6 hK K
                (try simp only [Act.put, List.setIfInBounds_toArray, List.set_cons_zero, List.set_cons_succ])
                refine wpAnyH_ready (rs := [0]) (by kernel_rfl) (by simp) (AllReadyH.cons (o := { dst := some 24, op := Op.buildSlice 23 0 #[], type := 23, pos := "ref.go:30", after := #[], guard := none }) rfl (fun K hK => ?_) AllReadyH.nil)
                · go_simp
                  obtain ⟨w_6_0_, hwn⟩ : ∃ z, z = w_6_.alloc (.cells #[] 9) := ⟨_, rfl⟩
                  rw [← hwn]
                  have hbn : Below w_6_.heap.size w_6_ w_6_0_ := by rw [hwn]; exact below_new _ _
                  replace H6 := Lib.hid (own_on H6.out hbn)
                  obtain ⟨g0, hg0⟩ : ∃ z, z = w_6_.heap.size := ⟨_, rfl⟩
                  have H0 : Hid (w_6_0_.ownsRow w.heap.size 9 1 (.slice (some ⟨g0, 0, none⟩) 0 0) ([] : List Bs).length (strsV [])) := Lib.hid (by rw [hwn, hg0]; exact ownT_lit w_6_ [] (hHeld.size))
                  have HNE : Hid (g6 ≠ g0) := Lib.hid (fun e => by have := (H6p.out); omega)
                  have H0p : Hid (g0 < w_6_0_.heap.size) := Lib.hid (by rw [hwn, hg0]; simp)
                  rw [← hg0]
                  refine hK.out _ _ (bch hHeld hbn) (fun hHeld => ?_)
                  clear hwn hbn hg0 hK K
                  (try simp only [Act.put, List.setIfInBounds_toArray, List.set_cons_zero, List.set_cons_succ])
                  refine wpAnyH_ready (rs := [4]) (by kernel_rfl) (by simp) (AllReadyH.cons (o := { dst := some 28, op := Op.call { callee := Callee.builtin Builtin.append, args := #[Operand.tmp 24, Operand.tmp 27], argTypes := #[23, 23] }, type := 23, pos := "ref.go:30", after := #[{ on := 0, ground := Ground.data }, { on := 3, ground := Ground.data }], guard := none }) rfl (fun K hK => ?_) AllReadyH.nil)
                  · refine step_append_str (by rfl) (.tmp 24) (.tmp 27) rfl w.heap.size (.slice (some ⟨g0, 0, none⟩) 0 0) _ ([]) (l.take c) rfl rfl H0.out (HTK.out w_6_0_ hHeld) hHeld.size (HE4.out) HL4.out ?_
                    intro v4 w_6_0_4_ hown hgr
                    have H4 := Lib.hid hown
                    have hbn : Below w.heap.size w w_6_0_4_ := hHeld.grown hgr hHeld.size (fun r e => (own_in H0.out e).1)
                    replace H6 := Lib.hid (own_grown H6.out hgr (fun r e e2 => by cases e; cases e2; exact HNE.out rfl))
                    obtain ⟨a4, c4, rfl⟩ := own_slice hown
                    refine hK _ _ hbn (fun hHeld => ?_)
                    clear hown hgr hbn hK K
                    (try simp only [Act.put, List.setIfInBounds_toArray, List.set_cons_zero, List.set_cons_succ])
                    refine wpAnyH_ready (rs := [7]) (by kernel_rfl) (by simp) (AllReadyH.cons (o := { dst := some 31, op := Op.call { callee := Callee.builtin Builtin.append, args := #[Operand.tmp 28, Operand.tmp 30], argTypes := #[23, 23] }, type := 23, pos := "ref.go:30", after := #[{ on := 4, ground := Ground.data }, { on := 6, ground := Ground.data }, { on := 4, ground := Ground.chain }], guard := none }) rfl (fun K hK => ?_) AllReadyH.nil)
                    · refine step_append_str (by rfl) (.tmp 28) (.tmp 30) rfl w.heap.size (.slice a4 R4.length c4) (.slice (some ⟨g6, 0, none⟩) 1 1) (R4) ([x]) rfl rfl H4.out (Rd.of_own H6.out) hHeld.size (HE7.out) HL7.out ?_
                      intro v7 w_6_0_4_7_ hown hgr
                      have H7 := Lib.hid hown
                      have hbn : Below w.heap.size w w_6_0_4_7_ := hHeld.grown hgr hHeld.size (fun r e => (own_in H4.out e).1)
                      obtain ⟨a7, c7, rfl⟩ := own_slice hown
                      refine hK _ _ hbn (fun hHeld => ?_)
                      clear hown hgr hbn hK K
                      (try simp only [Act.put, List.setIfInBounds_toArray, List.set_cons_zero, List.set_cons_succ])
                      refine wpAnyH_ready (rs := [11]) (by kernel_rfl) (by simp) (AllReadyH.cons (o := { dst := some 35, op := Op.call { callee := Callee.builtin Builtin.append, args := #[Operand.tmp 31, Operand.tmp 34], argTypes := #[23, 23] }, type := 23, pos := "ref.go:30", after := #[{ on := 7, ground := Ground.data }, { on := 10, ground := Ground.data }, { on := 7, ground := Ground.chain }], guard := none }) rfl (fun K hK => ?_) AllReadyH.nil)
                      · refine step_append_str (by rfl) (.tmp 31) (.tmp 34) rfl w.heap.size (.slice a7 R7.length c7) _ (R7) (l.drop c) rfl rfl H7.out (HDR.out w_6_0_4_7_ hHeld) hHeld.size (HE11.out) HL11.out ?_
                        intro v11 w_6_0_4_7_11_ hown hgr
                        have H11 := Lib.hid hown
                        have hbn : Below w.heap.size w w_6_0_4_7_11_ := hHeld.grown hgr hHeld.size (fun r e => (own_in H7.out e).1)
                        obtain ⟨a11, c11, rfl⟩ := own_slice hown
                        refine hK _ _ hbn (fun hHeld => ?_)
                        clear hown hgr hbn hK K
                        (try simp only [Act.put, List.setIfInBounds_toArray, List.set_cons_zero, List.set_cons_succ])
                        refine wpAnyH_take (i := 12) (oi := { dst := some 4, op := Op.assign (Operand.tmp 35), type := 23, pos := "ref.go:30", after := #[{ on := 11, ground := Ground.data }, { on := 11, ground := Ground.chain }, { on := 0, ground := Ground.phase }, { on := 1, ground := Ground.phase }, { on := 2, ground := Ground.phase }, { on := 3, ground := Ground.phase }, { on := 4, ground := Ground.phase }, { on := 5, ground := Ground.phase }, { on := 6, ground := Ground.phase }, { on := 7, ground := Ground.phase }, { on := 8, ground := Ground.phase }, { on := 9, ground := Ground.phase }, { on := 10, ground := Ground.phase }, { on := 11, ground := Ground.phase }], guard := none }) (v := ?_) rfl (by kernel_rfl) (by kernel_rfl) (by kernel_rfl) (fun _ _ _ h => h) (Or.inl ⟨by rfl, ?_⟩) hHeld ?_
                        rotate_left
                        · (intro w hSw; go_simp; try with_reducible rfl)
                        (try simp only [Act.put, List.setIfInBounds_toArray, List.set_cons_zero, List.set_cons_succ])
                        refine wpAnyH_done (by kernel_rfl) ?_ _
                        first | refine hK2 _ _ (Met.intro (hJ _ _ ?_)) | refine Met.intro (hJ _ _ ?_)
                        (repeat apply Exists.intro)
                        refine ⟨?_, rfl⟩
                        exact ⟨_, _, rfl, H11, Lib.hid hHeld⟩
            case rest =>
            obtain ⟨a', c', rfl, HOW, HBW⟩ := hcut
            go_wp2_with fail
            go_ret
            first | exact ⟨_, rfl, (fun h => by cases h), (fun _ => by rw [HPI.out]; exact HOW.out), HBW.out⟩ | exact ⟨_, rfl, by rw [HPI.out]; exact HOW.out, HBW.out⟩ | exact ⟨rfl, by rw [HPI.out]; exact HOW.out, HBW.out⟩

          · have s2 : (k : Int) ≤ (c : Int) := by omega
            have s5 : ¬ c = k := hck
            have HTK : Hid (∀ W, Below w.heap.size w W → Rd W (.slice (some ⟨g, 0, none⟩) k c) (strsV (l.take k))) := Lib.hid (fun W hW => (HV.out.on hW).cutS (Nat.le_refl _))
            have HDR : Hid (∀ W, Below w.heap.size w W → Rd W (.slice (some ⟨g, k, none⟩) 0 (c - k)) (strsV (l.drop k))) := Lib.hid (fun W hW => (HV.out.on hW).offT (Nat.le_refl _) (by omega) rfl)
            obtain ⟨R4, hR4⟩ : ∃ z, z = [] ++ l.take k := ⟨_, rfl⟩
            obtain ⟨R7, hR7⟩ : ∃ z, z = R4 ++ [x] := ⟨_, rfl⟩
            obtain ⟨R11, hR11⟩ : ∃ z, z = R7 ++ l.drop k := ⟨_, rfl⟩
            have HE4 : Hid ([] ++ l.take k = R4) := Lib.hid hR4.symm
            have HE7 : Hid (R4 ++ [x] = R7) := Lib.hid hR7.symm
            have HE11 : Hid (R7 ++ l.drop k = R11) := Lib.hid hR11.symm
            have HL4 : Hid (R4.length ≤ 1000000) := Lib.hid (by have := HN.out; rw [hR4]; simp <;> omega)
            have HL7 : Hid (R7.length ≤ 1000000) := Lib.hid (by have := HN.out; rw [hR7, hR4]; simp <;> omega)
            have HL11 : Hid (R11.length ≤ 1000000) := Lib.hid (by have := HN.out; rw [hR11, hR7, hR4]; simp <;> omega)
            have HPI : Hid (putT l x = R11) := Lib.hid (by rw [HPL.out, HTW.out.1, HTW.out.2, hR11, hR7, hR4]; simp)
            clear hR4 hR7 hR11
            clear HTW HPL HLo
            go_upto_region 6 with fail
            go_cut [4] (fun p4 wx => ∃ a' c', p4 = .slice a' R11.length c' ∧ Hid (wx.ownsRow w.heap.size 9 1 (.slice a' R11.length c') R11.length (strsV R11)) ∧ Hid (Below w.heap.size w wx))
            case first =>
              rename_i J2 K2 hJ hK2
              obtain ⟨v0, hv0⟩ : ∃ q, q = World.drew w := ⟨_, rfl⟩
              refine wp_region_held_drew (S := fun w' => Below w.heap.size w w') (by kernel_rfl) (below_drewN (Below.refl _ _) 1) (fun hHeld => ?_)
              rw [← hv0] at hHeld ⊢
              clear hv0
              refine wpAnyH_take (i := 1) (oi := { dst := some 25, op := Op.move (Operand.tmp 0), type := 23, pos := "ref.go:30", after := #[], guard := none }) (v := ?_) rfl (by kernel_rfl) (by kernel_rfl) (by kernel_rfl) (fun _ _ _ h => h) (Or.inl ⟨by rfl, ?_⟩) hHeld ?_
              rotate_left
              · (intro w hSw; go_simp; try with_reducible rfl)
              (try simp only [Act.put, List.setIfInBounds_toArray, List.set_cons_zero, List.set_cons_succ])
              refine wpAnyH_take (i := 2) (oi := { dst := some 26, op := Op.move (Operand.tmp 5), type := 3, pos := "ref.go:30", after := #[], guard := none }) (v := ?_) rfl (by kernel_rfl) (by kernel_rfl) (by kernel_rfl) (fun _ _ _ h => h) (Or.inl ⟨by rfl, ?_⟩) hHeld ?_
              rotate_left
              · (intro w hSw; go_simp; try with_reducible rfl)
              (try simp only [Act.put, List.setIfInBounds_toArray, List.set_cons_zero, List.set_cons_succ])
              refine wpAnyH_take (i := 3) (oi := { dst := some 27, op := Op.slice 23 (Operand.tmp 25) none (some (Operand.tmp 26)) none, type := 23, pos := "ref.go:30", after := #[{ on := 1, ground := Ground.data }, { on := 2, ground := Ground.data }], guard := none }) (v := ?_) rfl (by kernel_rfl) (by kernel_rfl) (by kernel_rfl) (fun _ _ _ h => h) (Or.inl ⟨by rfl, ?_⟩) hHeld ?_
              rotate_left
              · (intro w hSw; go_simp; try with_reducible rfl)
              (try simp only [Act.put, List.setIfInBounds_toArray, List.set_cons_zero, List.set_cons_succ])
              refine wpAnyH_take (i := 5) (oi := { dst := some 29, op := Op.move (Operand.tmp 1), type := 9, pos := "ref.go:30", after := #[], guard := none }) (v := ?_) rfl (by kernel_rfl) (by kernel_rfl) (by kernel_rfl) (fun _ _ _ h => h) (Or.inl ⟨by rfl, ?_⟩) hHeld ?_
              rotate_left
              · (intro w hSw; go_simp; try with_reducible rfl)
              (try simp only [Act.put, List.setIfInBounds_toArray, List.set_cons_zero, List.set_cons_succ])
              refine wpAnyH_take (i := 8) (oi := { dst := some 32, op := Op.move (Operand.tmp 0), type := 23, pos := "ref.go:30", after := #[], guard := none }) (v := ?_) rfl (by kernel_rfl) (by kernel_rfl) (by kernel_rfl) (fun _ _ _ h => h) (Or.inl ⟨by rfl, ?_⟩) hHeld ?_
              rotate_left
              · (intro w hSw; go_simp; try with_reducible rfl)
              (try simp only [Act.put, List.setIfInBounds_toArray, List.set_cons_zero, List.set_cons_succ])
              refine wpAnyH_take (i := 9) (oi := { dst := some 33, op := Op.move (Operand.tmp 5), type := 3, pos := "ref.go:30", after := #[], guard := none }) (v := ?_) rfl (by kernel_rfl) (by kernel_rfl) (by kernel_rfl) (fun _ _ _ h => h) (Or.inl ⟨by rfl, ?_⟩) hHeld ?_
              rotate_left
              · (intro w hSw; go_simp; try with_reducible rfl)
              (try simp only [Act.put, List.setIfInBounds_toArray, List.set_cons_zero, List.set_cons_succ])
              refine wpAnyH_take (i := 10) (oi := { dst := some 34, op := Op.slice 23 (Operand.tmp 32) (some (Operand.tmp 33)) none none, type := 23, pos := "ref.go:30", after := #[{ on := 8, ground := Ground.data }, { on := 9, ground := Ground.data }], guard := none }) (v := ?_) rfl (by kernel_rfl) (by kernel_rfl) (by kernel_rfl) (fun _ _ _ h => h) (Or.inl ⟨by rfl, ?_⟩) hHeld ?_
              rotate_left
              · (intro w hSw; go_simp; try with_reducible rfl)
              (try simp only [Act.put, List.setIfInBounds_toArray, List.set_cons_zero, List.set_cons_succ])
              refine wpAnyH_ready (rs := [0, 6]) (by kernel_rfl) (by simp) (AllReadyH.cons (o := { dst := some 24, op := Op.buildSlice 23 0 #[], type := 23, pos := "ref.go:30", after := #[], guard := none }) rfl (fun K hK => ?_) (AllReadyH.cons (o := { dst := some 30, op := Op.buildSlice 23 1 #[(0, Operand.tmp 29)], type := 23, pos := "ref.go:30", after := #[{ on := 5, ground := Ground.data }], guard := none }) rfl (fun K hK => ?_) AllReadyH.nil))
              · go_simp
                obtain ⟨w_0_, hwn⟩ : ∃ z, z = v0.alloc (.cells #[] 9) := ⟨_, rfl⟩
                rw [← hwn]
                have hbn : Below v0.heap.size v0 w_0_ := by rw [hwn]; exact below_new _ _
                obtain ⟨g0, hg0⟩ : ∃ z, z = v0.heap.size := ⟨_, rfl⟩
                have H0 : Hid (w_0_.ownsRow w.heap.size 9 1 (.slice (some ⟨g0, 0, none⟩) 0 0) ([] : List Bs).length (strsV [])) := Lib.hid (by rw [hwn, hg0]; exact ownT_lit v0 [] (hHeld.size))
                have H0p : Hid (g0 < w_0_.heap.size) := Lib.hid (by rw [hwn, hg0]; simp)
                rw [← hg0]
                refine hK.out _ _ (bch hHeld hbn) (fun hHeld => ?_)
                clear hwn hbn hg0 hK K
                (try simp only [Act.put, List.setIfInBounds_toArray, List.set_cons_zero, List.set_cons_succ])
                refine wpAnyH_ready (rs := [4, 6]) (by kernel_rfl) (by simp) (AllReadyH.cons (o := { dst := some 28, op := Op.call { callee := Callee.builtin Builtin.append, args := #[Operand.tmp 24, Operand.tmp 27], argTypes := #[23, 23] }, type := 23, pos := "ref.go:30", after := #[{ on := 0, ground := Ground.data }, { on := 3, ground := Ground.data }], guard := none }) rfl (fun K hK => ?_) (AllReadyH.cons (o := { dst := some 30, op := Op.buildSlice 23 1 #[(0, Operand.tmp 29)], type := 23, pos := "ref.go:30", after := #[{ on := 5, ground := Ground.data }], guard := none }) rfl (fun K hK => ?_) AllReadyH.nil))
                · refine step_append_str (by rfl) (.tmp 24) (.tmp 27) rfl w.heap.size (.slice (some ⟨g0, 0, none⟩) 0 0) _ ([]) (l.take k) rfl rfl H0.out (HTK.out w_0_ hHeld) hHeld.size (HE4.out) HL4.out ?_
                  intro v4 w_0_4_ hown hgr
                  have H4 := Lib.hid hown
                  have hbn : Below w.heap.size w w_0_4_ := hHeld.grown hgr hHeld.size (fun r e => (own_in H0.out e).1)
                  obtain ⟨a4, c4, rfl⟩ := own_slice hown
                  refine hK _ _ hbn (fun hHeld => ?_)
                  clear hown hgr hbn hK K
                  (try simp only [Act.put, List.setIfInBounds_toArray, List.set_cons_zero, List.set_cons_succ])
                  refine wpAnyH_ready (rs := [6]) (by kernel_rfl) (by simp) (AllReadyH.cons (o := { dst := some 30, op := Op.buildSlice 23 1 #[(0, Operand.tmp 29)], type := 23, pos := "ref.go:30", after := #[{ on := 5, ground := Ground.data }], guard := none }) rfl (fun K hK => ?_) AllReadyH.nil)
                  · go_simp
                    obtain ⟨w_0_4_6_, hwn⟩ : ∃ z, z = w_0_4_.alloc (.cells #[.string ⟨x.toArray⟩] 9) := ⟨_, rfl⟩
                    rw [← hwn]
                    have hbn : Below w_0_4_.heap.size w_0_4_ w_0_4_6_ := by rw [hwn]; exact below_new _ _
                    replace H4 := Lib.hid (own_on H4.out hbn)
                    obtain ⟨g6, hg6⟩ : ∃ z, z = w_0_4_.heap.size := ⟨_, rfl⟩
                    have H6 : Hid (w_0_4_6_.ownsRow w.heap.size 9 1 (.slice (some ⟨g6, 0, none⟩) 1 1) ([x] : List Bs).length (strsV [x])) := Lib.hid (by rw [hwn, hg6]; exact ownT_lit w_0_4_ [x] (hHeld.size))
                    have H6p : Hid (g6 < w_0_4_6_.heap.size) := Lib.hid (by rw [hwn, hg6]; simp)
                    rw [← hg6]
                    refine hK.out _ _ (bch hHeld hbn) (fun hHeld => ?_)
                    clear hwn hbn hg6 hK K
                    (try simp only [Act.put, List.setIfInBounds_toArray, List.set_cons_zero, List.set_cons_succ])
                    refine wpAnyH_ready (rs := [7]) (by kernel_rfl) (by simp) (AllReadyH.cons (o := { dst := some 31, op := Op.call { callee := Callee.builtin Builtin.append, args := #[Operand.tmp 28, Operand.tmp 30], argTypes := #[23, 23] }, type := 23, pos := "ref.go:30", after := #[{ on := 4, ground := Ground.data }, { on := 6, ground := Ground.data }, { on := 4, ground := Ground.chain }], guard := none }) rfl (fun K hK => ?_) AllReadyH.nil)
                    · refine step_append_str (by rfl) (.tmp 28) (.tmp 30) rfl w.heap.size (.slice a4 R4.length c4) (.slice (some ⟨g6, 0, none⟩) 1 1) (R4) ([x]) rfl rfl H4.out (Rd.of_own H6.out) hHeld.size (HE7.out) HL7.out ?_
                      intro v7 w_0_4_6_7_ hown hgr
                      have H7 := Lib.hid hown
                      have hbn : Below w.heap.size w w_0_4_6_7_ := hHeld.grown hgr hHeld.size (fun r e => (own_in H4.out e).1)
                      obtain ⟨a7, c7, rfl⟩ := own_slice hown
                      refine hK _ _ hbn (fun hHeld => ?_)
                      clear hown hgr hbn hK K
                      (try simp only [Act.put, List.setIfInBounds_toArray, List.set_cons_zero, List.set_cons_succ])
                      refine wpAnyH_ready (rs := [11]) (by kernel_rfl) (by simp) (AllReadyH.cons (o := { dst := some 35, op := Op.call { callee := Callee.builtin Builtin.append, args := #[Operand.tmp 31, Operand.tmp 34], argTypes := #[23, 23] }, type := 23, pos := "ref.go:30", after := #[{ on := 7, ground := Ground.data }, { on := 10, ground := Ground.data }, { on := 7, ground := Ground.chain }], guard := none }) rfl (fun K hK => ?_) AllReadyH.nil)
                      · refine step_append_str (by rfl) (.tmp 31) (.tmp 34) rfl w.heap.size (.slice a7 R7.length c7) _ (R7) (l.drop k) rfl rfl H7.out (HDR.out w_0_4_6_7_ hHeld) hHeld.size (HE11.out) HL11.out ?_
                        intro v11 w_0_4_6_7_11_ hown hgr
                        have H11 := Lib.hid hown
                        have hbn : Below w.heap.size w w_0_4_6_7_11_ := hHeld.grown hgr hHeld.size (fun r e => (own_in H7.out e).1)
                        obtain ⟨a11, c11, rfl⟩ := own_slice hown
                        refine hK _ _ hbn (fun hHeld => ?_)
                        clear hown hgr hbn hK K
                        (try simp only [Act.put, List.setIfInBounds_toArray, List.set_cons_zero, List.set_cons_succ])
                        refine wpAnyH_take (i := 12) (oi := { dst := some 4, op := Op.assign (Operand.tmp 35), type := 23, pos := "ref.go:30", after := #[{ on := 11, ground := Ground.data }, { on := 11, ground := Ground.chain }, { on := 0, ground := Ground.phase }, { on := 1, ground := Ground.phase }, { on := 2, ground := Ground.phase }, { on := 3, ground := Ground.phase }, { on := 4, ground := Ground.phase }, { on := 5, ground := Ground.phase }, { on := 6, ground := Ground.phase }, { on := 7, ground := Ground.phase }, { on := 8, ground := Ground.phase }, { on := 9, ground := Ground.phase }, { on := 10, ground := Ground.phase }, { on := 11, ground := Ground.phase }], guard := none }) (v := ?_) rfl (by kernel_rfl) (by kernel_rfl) (by kernel_rfl) (fun _ _ _ h => h) (Or.inl ⟨by rfl, ?_⟩) hHeld ?_
                        rotate_left
                        · (intro w hSw; go_simp; try with_reducible rfl)
                        (try simp only [Act.put, List.setIfInBounds_toArray, List.set_cons_zero, List.set_cons_succ])
                        refine wpAnyH_done (by kernel_rfl) ?_ _
                        first | refine hK2 _ _ (Met.intro (hJ _ _ ?_)) | refine Met.intro (hJ _ _ ?_)
                        (repeat apply Exists.intro)
                        refine ⟨?_, rfl⟩
                        exact ⟨_, _, rfl, H11, Lib.hid hHeld⟩
                · go_simp
                  obtain ⟨w_0_6_, hwn⟩ : ∃ z, z = w_0_.alloc (.cells #[.string ⟨x.toArray⟩] 9) := ⟨_, rfl⟩
                  rw [← hwn]
                  have hbn : Below w_0_.heap.size w_0_ w_0_6_ := by rw [hwn]; exact below_new _ _
                  replace H0 := Lib.hid (own_on H0.out hbn)
                  obtain ⟨g6, hg6⟩ : ∃ z, z = w_0_.heap.size := ⟨_, rfl⟩
                  have H6 : Hid (w_0_6_.ownsRow w.heap.size 9 1 (.slice (some ⟨g6, 0, none⟩) 1 1) ([x] : List Bs).length (strsV [x])) := Lib.hid (by rw [hwn, hg6]; exact ownT_lit w_0_ [x] (hHeld.size))
                  have HNE : Hid (g6 ≠ g0) := Lib.hid (fun e => by have := (H0p.out); omega)
                  have H6p : Hid (g6 < w_0_6_.heap.size) := Lib.hid (by rw [hwn, hg6]; simp)
                  rw [← hg6]
                  refine hK.out _ _ (bch hHeld hbn) (fun hHeld => ?_)
                  clear hwn hbn hg6 hK K
                  (try simp only [Act.put, List.setIfInBounds_toArray, List.set_cons_zero, List.set_cons_succ])
                  refine wpAnyH_ready (rs := [4]) (by kernel_rfl) (by simp) (AllReadyH.cons (o := { dst := some 28, op := Op.call { callee := Callee.builtin Builtin.append, args := #[Operand.tmp 24, Operand.tmp 27], argTypes := #[23, 23] }, type := 23, pos := "ref.go:30", after := #[{ on := 0, ground := Ground.data }, { on := 3, ground := Ground.data }], guard := none }) rfl (fun K hK => ?_) AllReadyH.nil)
                  · refine step_append_str (by rfl) (.tmp 24) (.tmp 27) rfl w.heap.size (.slice (some ⟨g0, 0, none⟩) 0 0) _ ([]) (l.take k) rfl rfl H0.out (HTK.out w_0_6_ hHeld) hHeld.size (HE4.out) HL4.out ?_
                    intro v4 w_0_6_4_ hown hgr
                    have H4 := Lib.hid hown
                    have hbn : Below w.heap.size w w_0_6_4_ := hHeld.grown hgr hHeld.size (fun r e => (own_in H0.out e).1)
                    replace H6 := Lib.hid (own_grown H6.out hgr (fun r e e2 => by cases e; cases e2; exact HNE.out rfl))
                    obtain ⟨a4, c4, rfl⟩ := own_slice hown
                    refine hK _ _ hbn (fun hHeld => ?_)
                    clear hown hgr hbn hK K
                    (try simp only [Act.put, List.setIfInBounds_toArray, List.set_cons_zero, List.set_cons_succ])
                    refine wpAnyH_ready (rs := [7]) (by kernel_rfl) (by simp) (AllReadyH.cons (o := { dst := some 31, op := Op.call { callee := Callee.builtin Builtin.append, args := #[Operand.tmp 28, Operand.tmp 30], argTypes := #[23, 23] }, type := 23, pos := "ref.go:30", after := #[{ on := 4, ground := Ground.data }, { on := 6, ground := Ground.data }, { on := 4, ground := Ground.chain }], guard := none }) rfl (fun K hK => ?_) AllReadyH.nil)
                    · refine step_append_str (by rfl) (.tmp 28) (.tmp 30) rfl w.heap.size (.slice a4 R4.length c4) (.slice (some ⟨g6, 0, none⟩) 1 1) (R4) ([x]) rfl rfl H4.out (Rd.of_own H6.out) hHeld.size (HE7.out) HL7.out ?_
                      intro v7 w_0_6_4_7_ hown hgr
                      have H7 := Lib.hid hown
                      have hbn : Below w.heap.size w w_0_6_4_7_ := hHeld.grown hgr hHeld.size (fun r e => (own_in H4.out e).1)
                      obtain ⟨a7, c7, rfl⟩ := own_slice hown
                      refine hK _ _ hbn (fun hHeld => ?_)
                      clear hown hgr hbn hK K
                      (try simp only [Act.put, List.setIfInBounds_toArray, List.set_cons_zero, List.set_cons_succ])
                      refine wpAnyH_ready (rs := [11]) (by kernel_rfl) (by simp) (AllReadyH.cons (o := { dst := some 35, op := Op.call { callee := Callee.builtin Builtin.append, args := #[Operand.tmp 31, Operand.tmp 34], argTypes := #[23, 23] }, type := 23, pos := "ref.go:30", after := #[{ on := 7, ground := Ground.data }, { on := 10, ground := Ground.data }, { on := 7, ground := Ground.chain }], guard := none }) rfl (fun K hK => ?_) AllReadyH.nil)
                      · refine step_append_str (by rfl) (.tmp 31) (.tmp 34) rfl w.heap.size (.slice a7 R7.length c7) _ (R7) (l.drop k) rfl rfl H7.out (HDR.out w_0_6_4_7_ hHeld) hHeld.size (HE11.out) HL11.out ?_
                        intro v11 w_0_6_4_7_11_ hown hgr
                        have H11 := Lib.hid hown
                        have hbn : Below w.heap.size w w_0_6_4_7_11_ := hHeld.grown hgr hHeld.size (fun r e => (own_in H7.out e).1)
                        obtain ⟨a11, c11, rfl⟩ := own_slice hown
                        refine hK _ _ hbn (fun hHeld => ?_)
                        clear hown hgr hbn hK K
                        (try simp only [Act.put, List.setIfInBounds_toArray, List.set_cons_zero, List.set_cons_succ])
                        refine wpAnyH_take (i := 12) (oi := { dst := some 4, op := Op.assign (Operand.tmp 35), type := 23, pos := "ref.go:30", after := #[{ on := 11, ground := Ground.data }, { on := 11, ground := Ground.chain }, { on := 0, ground := Ground.phase }, { on := 1, ground := Ground.phase }, { on := 2, ground := Ground.phase }, { on := 3, ground := Ground.phase }, { on := 4, ground := Ground.phase }, { on := 5, ground := Ground.phase }, { on := 6, ground := Ground.phase }, { on := 7, ground := Ground.phase }, { on := 8, ground := Ground.phase }, { on := 9, ground := Ground.phase }, { on := 10, ground := Ground.phase }, { on := 11, ground := Ground.phase }], guard := none }) (v := ?_) rfl (by kernel_rfl) (by kernel_rfl) (by kernel_rfl) (fun _ _ _ h => h) (Or.inl ⟨by rfl, ?_⟩) hHeld ?_
                        rotate_left
                        · (intro w hSw; go_simp; try with_reducible rfl)
                        (try simp only [Act.put, List.setIfInBounds_toArray, List.set_cons_zero, List.set_cons_succ])
                        refine wpAnyH_done (by kernel_rfl) ?_ _
                        first | refine hK2 _ _ (Met.intro (hJ _ _ ?_)) | refine Met.intro (hJ _ _ ?_)
                        (repeat apply Exists.intro)
                        refine ⟨?_, rfl⟩
                        exact ⟨_, _, rfl, H11, Lib.hid hHeld⟩
              · go_simp
                obtain ⟨w_6_, hwn⟩ : ∃ z, z = v0.alloc (.cells #[.string ⟨x.toArray⟩] 9) := ⟨_, rfl⟩
                rw [← hwn]
                have hbn : Below v0.heap.size v0 w_6_ := by rw [hwn]; exact below_new _ _
                obtain ⟨g6, hg6⟩ : ∃ z, z = v0.heap.size := ⟨_, rfl⟩
                have H6 : Hid (w_6_.ownsRow w.heap.size 9 1 (.slice (some ⟨g6, 0, none⟩) 1 1) ([x] : List Bs).length (strsV [x])) := Lib.hid (by rw [hwn, hg6]; exact ownT_lit v0 [x] (hHeld.size))
                have H6p : Hid (g6 < w_6_.heap.size) := Lib.hid (by rw [hwn, hg6]; simp)
                rw [← hg6]
                refine hK.out _ _ (bch hHeld hbn) (fun hHeld => ?_)
                clear hwn hbn hg6 hK K
                (try simp only [Act.put, List.setIfInBounds_toArray, List.set_cons_zero, List.set_cons_succ])
                refine wpAnyH_ready (rs := [0]) (by kernel_rfl) (by simp) (AllReadyH.cons (o := { dst := some 24, op := Op.buildSlice 23 0 #[], type := 23, pos := "ref.go:30", after := #[], guard := none }) rfl (fun K hK => ?_) AllReadyH.nil)
                · go_simp
                  obtain ⟨w_6_0_, hwn⟩ : ∃ z, z = w_6_.alloc (.cells #[] 9) := ⟨_, rfl⟩
                  rw [← hwn]
                  have hbn : Below w_6_.heap.size w_6_ w_6_0_ := by rw [hwn]; exact below_new _ _
                  replace H6 := Lib.hid (own_on H6.out hbn)
                  obtain ⟨g0, hg0⟩ : ∃ z, z = w_6_.heap.size := ⟨_, rfl⟩
                  have H0 : Hid (w_6_0_.ownsRow w.heap.size 9 1 (.slice (some ⟨g0, 0, none⟩) 0 0) ([] : List Bs).length (strsV [])) := Lib.hid (by rw [hwn, hg0]; exact ownT_lit w_6_ [] (hHeld.size))
                  have HNE : Hid (g6 ≠ g0) := Lib.hid (fun e => by have := (H6p.out); omega)
                  have H0p : Hid (g0 < w_6_0_.heap.size) := Lib.hid (by rw [hwn, hg0]; simp)
                  rw [← hg0]
                  refine hK.out _ _ (bch hHeld hbn) (fun hHeld => ?_)
                  clear hwn hbn hg0 hK K
                  (try simp only [Act.put, List.setIfInBounds_toArray, List.set_cons_zero, List.set_cons_succ])
                  refine wpAnyH_ready (rs := [4]) (by kernel_rfl) (by simp) (AllReadyH.cons (o := { dst := some 28, op := Op.call { callee := Callee.builtin Builtin.append, args := #[Operand.tmp 24, Operand.tmp 27], argTypes := #[23, 23] }, type := 23, pos := "ref.go:30", after := #[{ on := 0, ground := Ground.data }, { on := 3, ground := Ground.data }], guard := none }) rfl (fun K hK => ?_) AllReadyH.nil)
                  · refine step_append_str (by rfl) (.tmp 24) (.tmp 27) rfl w.heap.size (.slice (some ⟨g0, 0, none⟩) 0 0) _ ([]) (l.take k) rfl rfl H0.out (HTK.out w_6_0_ hHeld) hHeld.size (HE4.out) HL4.out ?_
                    intro v4 w_6_0_4_ hown hgr
                    have H4 := Lib.hid hown
                    have hbn : Below w.heap.size w w_6_0_4_ := hHeld.grown hgr hHeld.size (fun r e => (own_in H0.out e).1)
                    replace H6 := Lib.hid (own_grown H6.out hgr (fun r e e2 => by cases e; cases e2; exact HNE.out rfl))
                    obtain ⟨a4, c4, rfl⟩ := own_slice hown
                    refine hK _ _ hbn (fun hHeld => ?_)
                    clear hown hgr hbn hK K
                    (try simp only [Act.put, List.setIfInBounds_toArray, List.set_cons_zero, List.set_cons_succ])
                    refine wpAnyH_ready (rs := [7]) (by kernel_rfl) (by simp) (AllReadyH.cons (o := { dst := some 31, op := Op.call { callee := Callee.builtin Builtin.append, args := #[Operand.tmp 28, Operand.tmp 30], argTypes := #[23, 23] }, type := 23, pos := "ref.go:30", after := #[{ on := 4, ground := Ground.data }, { on := 6, ground := Ground.data }, { on := 4, ground := Ground.chain }], guard := none }) rfl (fun K hK => ?_) AllReadyH.nil)
                    · refine step_append_str (by rfl) (.tmp 28) (.tmp 30) rfl w.heap.size (.slice a4 R4.length c4) (.slice (some ⟨g6, 0, none⟩) 1 1) (R4) ([x]) rfl rfl H4.out (Rd.of_own H6.out) hHeld.size (HE7.out) HL7.out ?_
                      intro v7 w_6_0_4_7_ hown hgr
                      have H7 := Lib.hid hown
                      have hbn : Below w.heap.size w w_6_0_4_7_ := hHeld.grown hgr hHeld.size (fun r e => (own_in H4.out e).1)
                      obtain ⟨a7, c7, rfl⟩ := own_slice hown
                      refine hK _ _ hbn (fun hHeld => ?_)
                      clear hown hgr hbn hK K
                      (try simp only [Act.put, List.setIfInBounds_toArray, List.set_cons_zero, List.set_cons_succ])
                      refine wpAnyH_ready (rs := [11]) (by kernel_rfl) (by simp) (AllReadyH.cons (o := { dst := some 35, op := Op.call { callee := Callee.builtin Builtin.append, args := #[Operand.tmp 31, Operand.tmp 34], argTypes := #[23, 23] }, type := 23, pos := "ref.go:30", after := #[{ on := 7, ground := Ground.data }, { on := 10, ground := Ground.data }, { on := 7, ground := Ground.chain }], guard := none }) rfl (fun K hK => ?_) AllReadyH.nil)
                      · refine step_append_str (by rfl) (.tmp 31) (.tmp 34) rfl w.heap.size (.slice a7 R7.length c7) _ (R7) (l.drop k) rfl rfl H7.out (HDR.out w_6_0_4_7_ hHeld) hHeld.size (HE11.out) HL11.out ?_
                        intro v11 w_6_0_4_7_11_ hown hgr
                        have H11 := Lib.hid hown
                        have hbn : Below w.heap.size w w_6_0_4_7_11_ := hHeld.grown hgr hHeld.size (fun r e => (own_in H7.out e).1)
                        obtain ⟨a11, c11, rfl⟩ := own_slice hown
                        refine hK _ _ hbn (fun hHeld => ?_)
                        clear hown hgr hbn hK K
                        (try simp only [Act.put, List.setIfInBounds_toArray, List.set_cons_zero, List.set_cons_succ])
                        refine wpAnyH_take (i := 12) (oi := { dst := some 4, op := Op.assign (Operand.tmp 35), type := 23, pos := "ref.go:30", after := #[{ on := 11, ground := Ground.data }, { on := 11, ground := Ground.chain }, { on := 0, ground := Ground.phase }, { on := 1, ground := Ground.phase }, { on := 2, ground := Ground.phase }, { on := 3, ground := Ground.phase }, { on := 4, ground := Ground.phase }, { on := 5, ground := Ground.phase }, { on := 6, ground := Ground.phase }, { on := 7, ground := Ground.phase }, { on := 8, ground := Ground.phase }, { on := 9, ground := Ground.phase }, { on := 10, ground := Ground.phase }, { on := 11, ground := Ground.phase }], guard := none }) (v := ?_) rfl (by kernel_rfl) (by kernel_rfl) (by kernel_rfl) (fun _ _ _ h => h) (Or.inl ⟨by rfl, ?_⟩) hHeld ?_
                        rotate_left
                        · (intro w hSw; go_simp; try with_reducible rfl)
                        (try simp only [Act.put, List.setIfInBounds_toArray, List.set_cons_zero, List.set_cons_succ])
                        refine wpAnyH_done (by kernel_rfl) ?_ _
                        first | refine hK2 _ _ (Met.intro (hJ _ _ ?_)) | refine Met.intro (hJ _ _ ?_)
                        (repeat apply Exists.intro)
                        refine ⟨?_, rfl⟩
                        exact ⟨_, _, rfl, H11, Lib.hid hHeld⟩
            case rest =>
            obtain ⟨a', c', rfl, HOW, HBW⟩ := hcut
            go_wp2_with fail
            go_ret
            first | exact ⟨_, rfl, (fun h => by cases h), (fun _ => by rw [HPI.out]; exact HOW.out), HBW.out⟩ | exact ⟨_, rfl, by rw [HPI.out]; exact HOW.out, HBW.out⟩ | exact ⟨rfl, by rw [HPI.out]; exact HOW.out, HBW.out⟩


end Go.Proofs.YtgmplpfbhcdofaaGreat

namespace Go.Proofs.YtgmplpfbhcdofaaGreat
open Go.RowKit Go.Shelf Go.Lib
attribute [local go_sem] Oper.semAt_some

theorem putT_own (l : List Bs) (x : Bs) (v : Value) (w : World) (B : Nat) (hv : w.ownsRow B 9 1 v l.length (strsV l)) (hl : l.length ≤ 100000) (hB : B ≤ w.heap.size) : Calls Tryz.prog 29 #[v, .string ⟨x.toArray⟩] w fun e w' =>
    ∃ v', e = .returned v' ∧ w'.ownsRow B 9 1 v' (putT l x).length (strsV (putT l x)) ∧ Below w.heap.size w w' := by
  refine (putT_any l x v w B hv hl).mono ?_
  rintro e w' ⟨v', rfl, h1, h2, hb⟩
  refine ⟨v', rfl, ?_, hb⟩
  cases hh : hasT l x with
  | true =>
    have e1 : putT l x = l := by unfold putT; rw [if_pos hh]
    rw [h1 hh, e1]
    exact own_on hv hb
  | false => exact own_low (h2 hh) hB
/-- One after another put into a set. -/
def putsT (l : List Bs) : List Bs := l.foldl putT []
theorem putsT_snoc (l : List Bs) (x : Bs) : putsT (l ++ [x]) = putT (putsT l) x := by simp [putsT]
theorem putsT_set (l : List Bs) : UpS leS (putsT l) ∧ ∀ y, y ∈ putsT l ↔ y ∈ l := by
  induction l using Pt.snoc_ind with
  | nil => exact ⟨List.Pairwise.nil, fun y => Iff.rfl⟩
  | snoc l x ih =>
    rw [putsT_snoc]
    refine ⟨putT_up ih.1 x, fun y => ?_⟩
    rw [putT_mem, ih.2 y]
    simp
theorem putsT_uni (l : List Bs) : putsT l = uniS l := upS_one (putsT_set l).1 (uniS_up l) (fun y => by rw [(putsT_set l).2 y, uniS_mem])
theorem putsT_len (l : List Bs) : (putsT l).length ≤ l.length := by rw [putsT_uni]; exact uniS_len l
def someT (a b : List Bs) (inn : Bool) : List Bs := a.filter fun x => hasT b x == inn
theorem someT_meet (a b : List Bs) : putsT (someT a b true) = meetS a b := by
  refine upS_one (putsT_set _).1 (meetS_up a b) (fun y => ?_)
  rw [(putsT_set _).2 y, meetS_mem]
  unfold someT
  rw [List.mem_filter, beq_iff_eq, hasT_iff]
theorem someT_less (a b : List Bs) : putsT (someT a b false) = lessS a b := by
  refine upS_one (putsT_set _).1 (lessS_up a b) (fun y => ?_)
  rw [(putsT_set _).2 y, lessS_mem]
  unfold someT
  rw [List.mem_filter, beq_iff_eq, ← Bool.not_eq_true, hasT_iff]
theorem someT_take (a b : List Bs) (inn : Bool) (k : Nat) (x : Bs) (h : a[k]? = some x) : someT (a.take (k + 1)) b inn = if (hasT b x == inn) = true then someT (a.take k) b inn ++ [x] else someT (a.take k) b inn := by
  rw [List.take_add_one, h]
  unfold someT
  rw [Option.toList_some, List.filter_append]
  cases hc : (hasT b x == inn) <;> simp [hc]
set_option maxRecDepth 100000 in
set_option maxHeartbeats 2000000 in
theorem someT_any (a b : List Bs) (inn : Bool) (v1 v2 : Value) (w : World) (h1 : Rd w v1 (strsV a)) (h2 : Rd w v2 (strsV b)) (ha : a.length ≤ 10000) (hb : b.length ≤ 1000000) : Calls Tryz.prog 32 #[v1, v2, .bool inn] w fun e w' => OwnS w w.heap.size e w' (putsT (someT a b inn)) := by
  have H1 := Lib.hid h1
  have H2 := Lib.hid h2
  obtain ⟨a1, c1, rfl, _⟩ := h1.open'
  rw [strsV_len] at H1 ⊢
  obtain ⟨n, hn⟩ : ∃ n, n = a.length := ⟨_, rfl⟩
  rw [← hn] at H1 ha ⊢
  have HN := Lib.hid hn
  have HLB := Lib.hid hb
  clear h1 h2 hn hb
  go_enter Tryz.func32, Tryz.ntmps32
  go_wp2_with fail
  go_loopw [7, 12] (fun out i W => ∃ k : Nat, k ≤ n ∧ i = .int .i64 (k : Int) ∧ Hid (W.ownsRow w.heap.size 9 1 out (putsT (someT (a.take k) b inn)).length (strsV (putsT (someT (a.take k) b inn)))) ∧ Hid (Below w.heap.size w W)) (fun _ i _ => n - (Lib.intOf i).toNat)
  case atStart => exact ⟨0, Nat.zero_le _, rfl, Lib.hid (World.ownsRow_nil _ _ _ _), Lib.hid (Below.refl _ _)⟩
  case round =>
    obtain ⟨k, hk, rfl, HO, HB⟩ := hrel
    obtain ⟨wq, hwq⟩ : ∃ q, q = wr := ⟨_, rfl⟩
    rw [← hwq] at HO HB ⊢
    clear hwq
    by_cases hlt : k < n
    · have hkl : k < a.length := by rw [← HN.out]; exact hlt
      obtain ⟨g, o, rfl, q0⟩ := str_at3 (H1.out.on HB.out) k hkl
      have k1 : (k : Int) < (n : Int) := by omega
      have k2 : (0 : Int) ≤ (k : Int) := by omega
      have k4 : IntKind.i64.wrap ((k : Int) + 1) = (k : Int) + 1 := IntWalk.i64_in _ (by omega)
      obtain ⟨x, hx⟩ : ∃ x, x = a[k] := ⟨_, rfl⟩
      rw [← hx] at q0
      have q0 : wq.cell? ⟨g, o + k, none⟩ = some (.string ⟨x.toArray⟩) := q0
      have HST := Lib.hid (someT_take a b inn k x (by rw [hx]; exact List.getElem?_eq_getElem hkl))
      have HHS := Lib.hid (hasT_any b x v2 wq (H2.out.on HB.out) HLB.out)
      obtain ⟨hb, hhb⟩ : ∃ z, z = hasT b x := ⟨_, rfl⟩
      rw [← hhb] at HST HHS
      clear hx hhb
      cases he : (hb == inn) with
      | true =>
        have HE : Hid (putsT (someT (a.take (k + 1)) b inn) = putT (putsT (someT (a.take k) b inn)) x) := Lib.hid (by rw [HST.out, if_pos he, putsT_snoc])
        have HLS : Hid ((putsT (someT (a.take k) b inn)).length ≤ 100000) := Lib.hid (by
          have h1 := putsT_len (someT (a.take k) b inn)
          have h2 : (someT (a.take k) b inn).length ≤ (a.take k).length := List.length_filter_le _ _
          rw [List.length_take] at h2
          omega)
        obtain ⟨L, hL⟩ : ∃ z, z = putsT (someT (a.take k) b inn) := ⟨_, rfl⟩
        rw [← hL] at HE HLS HO
        have HPO := Lib.hid (putT_own L x _ wq _ HO.out HLS.out HB.out.size)
        clear hL HST
        obtain ⟨ao, co, rfl⟩ := own_slice HO.out
        go_wp2_with (first
          | (go_at_call 51; refine HHS.out.mono ?_; rintro e w' ⟨rfl, rfl⟩)
          | (go_at_call 29; refine HPO.out.mono ?_; rintro e w5 ⟨v5, rfl, ho, hb5⟩; have HO5 := Lib.hid ho; have HB5 := Lib.hid (bch HB.out hb5); clear ho hb5))
        go_roundw
        case rel => exact ⟨k + 1, by omega, by go_num, Lib.hid (by rw [HE.out]; exact HO5.out), HB5⟩
        case measure => simp [Lib.intOf]; omega
      | false =>
        have HE : Hid (someT (a.take (k + 1)) b inn = someT (a.take k) b inn) := Lib.hid (by rw [HST.out, if_neg (by rw [he]; decide)])
        clear HST
        obtain ⟨ao, co, rfl⟩ := own_slice HO.out
        go_wp2_with (go_at_call 51; refine HHS.out.mono ?_; rintro e w' ⟨rfl, rfl⟩)
        go_roundw
        case rel => exact ⟨k + 1, by omega, by go_num, Lib.hid (by rw [HE.out]; exact HO.out), HB⟩
        case measure => simp [Lib.intOf]; omega
    · have k1 : ¬ ((k : Int) < (n : Int)) := by omega
      have HE : Hid (a.take k = a) := Lib.hid (List.take_of_length_le (by rw [← HN.out]; omega))
      rw [HE.out] at HO
      obtain ⟨ao, co, rfl⟩ := own_slice HO.out
      go_wp2_with fail
      go_ret
      exact ⟨_, rfl, HO.out, HB.out⟩
end Go.Proofs.YtgmplpfbhcdofaaGreat

namespace Go.Proofs
open Go.Shelf
def Tryz.laysNm216_ren : Go.Shelf.Ren := ⟨fun | 16 => 28 | n => n, fun | 4 => 4 | 9 => 9 | 24 => 23 | n => n, fun | n => n⟩
theorem Tryz.laysNm216 : Go.Proofs.Lays2.n16 Tryz.prog Tryz.laysNm216_ren := {
  mixed := by kernel_rfl
  f16 := Tryz.func28.trans (congrArg some (by kernel_rfl))
  t4 := Tryz.underlying4
  a4 := Tryz.isAgg4
  z4 := Tryz.sizeOf4
  v4 := Tryz.zeroValue4
  t9 := Tryz.underlying9
  a9 := Tryz.isAgg9
  z9 := Tryz.sizeOf9
  v9 := Tryz.zeroValue9
  t24 := Tryz.underlying23
  a24 := Tryz.isAgg23
  z24 := Tryz.sizeOf23
  v24 := Tryz.zeroValue23
  i9 := by kernel_rfl }
end Go.Proofs
namespace Go.Proofs.YtgmplpfbhcdofaaGreat
open Go.RowKit Go.Shelf Go.Lib
open Go.Sort hiding Below
attribute [local go_sem] Oper.semAt_some

theorem baS_len (l : List Bs) : (baS l).length = l.length := by unfold baS; rw [List.length_map]
theorem baS_str (l : List Bs) : (baS l).map Value.string = strsV l := by unfold baS strsV; rw [List.map_map]; rfl
theorem clone_str (l : List Bs) (v : Value) (w : World) (hv : Rd w v (strsV l)) (hl : l.length ≤ 1000000) : Calls Tryz.prog 28 #[v] w fun e w' => OwnS w w.heap.size e w' l := by
  obtain ⟨a, c, rfl, hc1, hc2, hn, hc⟩ := hv
  rw [strsV_len] at hc hc1 ⊢
  cases a with
  | none =>
    obtain ⟨h0, rfl⟩ := hn rfl
    have e0 : l = [] := by
      cases l with
      | nil => rfl
      | cons x t => simp [strsV] at h0
    subst e0
    refine (Any.slices_Clone_string_nil Tryz.laysNm216 _ 0 w).mono ?_
    rintro e w' ⟨rfl, rfl⟩
    exact ⟨_, rfl, World.ownsRow_nil _ _ _ _, Below.refl _ _⟩
  | some ad =>
    rcases Nat.eq_zero_or_pos l.length with h0 | h0
    · have e0 : l = [] := List.eq_nil_of_length_eq_zero h0
      subst e0
      refine (Any.slices_Clone_string_zero Tryz.laysNm216 ad c w).mono ?_
      rintro e w' ⟨v', rfl, h1, _, hb⟩
      exact ⟨v', rfl, h1, hb⟩
    · obtain ⟨g, o, e, _, hcc⟩ := hc h0
      cases e
      refine (Any.slices_Clone_string Tryz.laysNm216 g o l.length c (baS l) w (by rw [baS_len]; exact Nat.le_refl _) (by omega) (str_cell hcc)).mono ?_
      rintro e w' ⟨v', rfl, h1, _, hb⟩
      rw [← baS_len l, List.take_length, baS_str, baS_len] at h1
      exact ⟨v', rfl, h1, hb⟩
theorem rdrT_none (w : World) : RdR w (.slice none 0 0) (([] : List (List Bs)).map strsV) := ⟨[], Rd.nil w, rfl, fun i x r hx _ => by simp at hx⟩
set_option maxRecDepth 100000 in
set_option maxHeartbeats 4000000 in
theorem texts_any (A B : List Bs) (v1 v2 : Value) (w : World) (h1 : Rd w v1 (strsV A)) (h2 : Rd w v2 (strsV B)) (ha : A.length ≤ 1000) (hb : B.length ≤ 1000) : Calls Tryz.prog 8 #[v1, v2] w fun e w' => e = .returned (.bool true) ∧ Below w.heap.size w w' := by
  have RA := Lib.hid h1
  have RB := Lib.hid h2
  have LA : Hid (A.length ≤ 1000000) := Lib.hid (by omega)
  have LB : Hid (B.length ≤ 1000000) := Lib.hid (by omega)
  have LA2 : Hid (A.length ≤ 10000) := Lib.hid (by omega)
  have LAB : Hid ([A, B].flatten.length ≤ 1000000) := Lib.hid (by simp; omega)
  have HB : Hid (Below w.heap.size w w) := Lib.hid (Below.refl _ _)
  obtain ⟨a1, c1, rfl, _⟩ := h1.open'
  obtain ⟨a2, c2, rfl, _⟩ := h2.open'
  rw [strsV_len] at RA RB
  rw [strsV_len, strsV_len]
  obtain ⟨n1, hn1⟩ : ∃ n, n = A.length := ⟨_, rfl⟩
  obtain ⟨n2, hn2⟩ : ∃ n, n = B.length := ⟨_, rfl⟩
  rw [← hn1] at RA ⊢
  rw [← hn2] at RB ⊢
  obtain ⟨AB, hAB⟩ : ∃ z, z = A ++ B := ⟨_, rfl⟩
  have HAB := Lib.hid hAB
  have hlab : AB.length ≤ 2000 := by rw [hAB, List.length_append]; omega
  have HNAB : Hid (A.length + B.length ≤ 1000000) := Lib.hid (by omega)
  obtain ⟨ALL, hALL⟩ : ∃ z, z = uniS [A, B].flatten := ⟨_, rfl⟩
  have HALL := Lib.hid hALL
  have HPA : Hid (putsT AB = ALL) := Lib.hid (by rw [putsT_uni, hALL, hAB]; simp)
  obtain ⟨M, hM⟩ : ∃ z, z = meetS A B := ⟨_, rfl⟩
  have HM := Lib.hid hM
  have HM2 : Hid (putsT (someT A B true) = M) := Lib.hid (by rw [hM]; exact someT_meet A B)
  obtain ⟨N, hN⟩ : ∃ z, z = lessS A B := ⟨_, rfl⟩
  have HN := Lib.hid hN
  have HN2 : Hid (putsT (someT A B false) = N) := Lib.hid (by rw [hN]; exact someT_less A B)
  have LALL : Hid (ALL.length ≤ 1000000) := Lib.hid (by rw [hALL]; exact Nat.le_trans (setOf_len ordS _) LAB.out)
  have LM : Hid (M.length ≤ 1000000) := Lib.hid (by rw [hM]; exact Nat.le_trans (Nat.le_trans (List.length_filter_le _ _) (setOf_len ordS A)) LA.out)
  have LN : Hid (N.length ≤ 1000000) := Lib.hid (by rw [hN]; exact Nat.le_trans (Nat.le_trans (List.length_filter_le _ _) (setOf_len ordS A)) LA.out)
  clear h1 h2 ha hb hn1 hn2 hAB hALL hM hN
  go_enter Tryz.func8, Tryz.ntmps8
  go_upto_region 3 with (first
    | (go_at_call 28; have mk := RX; clear mk; refine (clone_str B _ _ RB.out LB.out).mono ?_; rintro e w2 ⟨vw2, rfl, ho, hb⟩; have hx := hb; replace RA := Lib.hid (RA.out.on hx); replace RB := Lib.hid (RB.out.on hx); replace RX := Lib.hid (RX.out.on hx); replace HB := Lib.hid (bch HB.out hx); have RY := Lib.hid (Rd.of_own ho); obtain ⟨aw2, cw2, rfl⟩ := own_slice ho; clear ho hb hx)
    | (go_at_call 28; refine (clone_str A _ _ RA.out LA.out).mono ?_; rintro e w1 ⟨vw1, rfl, ho, hb⟩; have hx := hb; replace RA := Lib.hid (RA.out.on hx); replace RB := Lib.hid (RB.out.on hx); replace HB := Lib.hid (bch HB.out hx); have RX := Lib.hid (Rd.of_own ho); obtain ⟨aw1, cw1, rfl⟩ := own_slice ho; clear ho hb hx))
  have HCL := Lib.hid (clone_str A _ w2 RA.out LA.out)
  go_wp2_with (first
    | (go_at_call 28; refine HCL.out.mono ?_; rintro e w3 ⟨v3, rfl, ho, hb⟩; have HO3 := Lib.hid ho; have HB23 := Lib.hid hb; obtain ⟨a3, c3, rfl⟩ := own_slice ho; clear ho hb)
    | (at_builtin; go_loud (refine wpList_append_at rfl (.tmp 15) (.tmp 16) 23 9 (.string ⟨#[]⟩) 16 rfl Tryz.underlying23 infoC9 rfl w2.heap.size _ _ (strsV A) (strsV B) rfl (by rw [strsV_len]; exact HO3.out) rfl (RB.out.on HB23.out) (strsV_one B) HB23.out.size (by rw [strsV_len, strsV_len]; have := HNAB.out; omega) (by decide) ?_; intro v4 w4 hown hgr hat; have HO4 : Hid (w4.ownsRow w2.heap.size 9 1 v4 AB.length (strsV AB)) := Lib.hid (by have e9 : strsV A ++ strsV B = strsV AB := (by rw [HAB.out]; simp [strsV]); rw [e9, strsV_len] at hown; exact hown); have HB24 : Hid (Below w2.heap.size w2 w4) := Lib.hid (HB23.out.grown hgr HB23.out.size (fun r e => (own_in HO3.out e).1)); clear hown hgr hat; refine Hid.out ?_)))
  refine Lib.hid ?_
  replace RA := Lib.hid (RA.out.on HB24.out)
  replace RB := Lib.hid (RB.out.on HB24.out)
  replace RX := Lib.hid (RX.out.on HB24.out)
  replace RY := Lib.hid (RY.out.on HB24.out)
  replace HB := Lib.hid (bch HB.out HB24.out)
  have RAB := Lib.hid (Rd.of_own HO4.out)
  obtain ⟨a4, c4, rfl⟩ := own_slice HO4.out
  obtain ⟨n, hn⟩ : ∃ n, n = AB.length := ⟨_, rfl⟩
  rw [← hn] at RAB hlab ⊢
  have HNN := Lib.hid hn
  clear hn HO4 HO3 HB23 HB24 HCL HNAB
  go_wp2_with fail
  go_loopw [7, 19] (fun out i W => ∃ k : Nat, k ≤ n ∧ i = .int .i64 (k : Int) ∧ Hid (W.ownsRow w4.heap.size 9 1 out (putsT (AB.take k)).length (strsV (putsT (AB.take k)))) ∧ Hid (Below w4.heap.size w4 W)) (fun _ i _ => n - (Lib.intOf i).toNat)
  case atStart => exact ⟨0, Nat.zero_le _, rfl, Lib.hid (World.ownsRow_nil _ _ _ _), Lib.hid (Below.refl _ _)⟩
  case round =>
    obtain ⟨k, hk, rfl, HO, HBK⟩ := hrel
    obtain ⟨wq, hwq⟩ : ∃ q, q = wr := ⟨_, rfl⟩
    rw [← hwq] at HO HBK ⊢
    clear hwq
    by_cases hlt : k < n
    · have hkl : k < AB.length := by rw [← HNN.out]; exact hlt
      obtain ⟨g, o, rfl, q0⟩ := str_at3 (RAB.out.on HBK.out) k hkl
      have k1 : (k : Int) < (n : Int) := by omega
      have k2 : (0 : Int) ≤ (k : Int) := by omega
      have k4 : IntKind.i64.wrap ((k : Int) + 1) = (k : Int) + 1 := IntWalk.i64_in _ (by omega)
      obtain ⟨x, hx⟩ : ∃ x, x = AB[k] := ⟨_, rfl⟩
      rw [← hx] at q0
      have q0 : wq.cell? ⟨g, o + k, none⟩ = some (.string ⟨x.toArray⟩) := q0
      have HE : Hid (putsT (AB.take (k + 1)) = putT (putsT (AB.take k)) x) := Lib.hid (by
        rw [← putsT_snoc]
        congr 1
        rw [List.take_add_one, List.getElem?_eq_getElem hkl, hx]
        rfl)
      have HLS : Hid ((putsT (AB.take k)).length ≤ 100000) := Lib.hid (by
        have h1 := putsT_len (AB.take k)
        rw [List.length_take] at h1
        omega)
      clear hx
      obtain ⟨L, hL⟩ : ∃ z, z = putsT (AB.take k) := ⟨_, rfl⟩
      rw [← hL] at HE HLS HO
      have HPO := Lib.hid (putT_own L x _ wq _ HO.out HLS.out HBK.out.size)
      clear hL
      obtain ⟨ao, co, rfl⟩ := own_slice HO.out
      go_wp2_with (go_at_call 29; refine HPO.out.mono ?_; rintro e w5 ⟨v5, rfl, ho, hb5⟩; have HO5 := Lib.hid ho; have HB5 := Lib.hid (bch HBK.out hb5); clear ho hb5)
      go_roundw
      case rel => exact ⟨k + 1, by omega, by go_num, Lib.hid (by rw [HE.out]; exact HO5.out), HB5⟩
      case measure => simp [Lib.intOf]; omega
    · have k1 : ¬ ((k : Int) < (n : Int)) := by omega
      have HE : Hid (putsT (AB.take k) = ALL) := Lib.hid (by rw [List.take_of_length_le (by rw [← HNN.out]; omega)]; exact HPA.out)
      rw [HE.out] at HO
      obtain ⟨ao, co, rfl⟩ := own_slice HO.out
      have RALL := Lib.hid (Rd.of_own HO.out)
      replace RA := Lib.hid (RA.out.on HBK.out)
      replace RB := Lib.hid (RB.out.on HBK.out)
      replace RX := Lib.hid (RX.out.on HBK.out)
      replace RY := Lib.hid (RY.out.on HBK.out)
      replace HB := Lib.hid (bch HB.out HBK.out)
      clear HO HBK RAB HPA HAB HE HNN
      go_upto_region 10 with (first
        | (go_at_call 16; have mk := RT; clear mk; refine (eqs_any N N _ _ _ RL.out RT.out LN.out LN.out).mono ?_; rintro e wk ⟨rfl, hb⟩; rw [show decide (N = N) = true from decide_eq_true rfl]; replace RA := Lib.hid (RA.out.on hb); replace RB := Lib.hid (RB.out.on hb); replace RX := Lib.hid (RX.out.on hb); replace RY := Lib.hid (RY.out.on hb); replace RALL := Lib.hid (RALL.out.on hb); replace HB := Lib.hid (bch HB.out hb); clear hb)
        | (go_at_call 32; have mk := RL; clear mk; refine (someT_any A B false _ _ _ RA.out RB.out LA2.out LB.out).mono ?_; rintro e wh ⟨vwh, rfl, ho, hb⟩; rw [HN2.out] at ho; have hx := hb; replace RA := Lib.hid (RA.out.on hx); replace RB := Lib.hid (RB.out.on hx); replace RX := Lib.hid (RX.out.on hx); replace RY := Lib.hid (RY.out.on hx); replace RALL := Lib.hid (RALL.out.on hx); replace RL := Lib.hid (RL.out.on hx); replace HB := Lib.hid (bch HB.out hx); have RT := Lib.hid (Rd.of_own ho); obtain ⟨awh, cwh, rfl⟩ := own_slice ho; clear ho hb hx)
        | (go_at_call 33; refine (lessS_any A B _ _ _ RX.out RY.out LA.out LB.out).mono ?_; rintro e wg ⟨vwg, rfl, ho, hb⟩; rw [← HN.out] at ho; have hx := hb; replace RA := Lib.hid (RA.out.on hx); replace RB := Lib.hid (RB.out.on hx); replace RX := Lib.hid (RX.out.on hx); replace RY := Lib.hid (RY.out.on hx); replace RALL := Lib.hid (RALL.out.on hx); replace HB := Lib.hid (bch HB.out hx); have RL := Lib.hid (Rd.of_own ho); obtain ⟨awg, cwg, rfl⟩ := own_slice ho; clear ho hb hx)
        | (go_at_call 16; have mk := RS; clear mk; refine (eqs_any M M _ _ _ RM.out RS.out LM.out LM.out).mono ?_; rintro e wf ⟨rfl, hb⟩; rw [show decide (M = M) = true from decide_eq_true rfl]; replace RA := Lib.hid (RA.out.on hb); replace RB := Lib.hid (RB.out.on hb); replace RX := Lib.hid (RX.out.on hb); replace RY := Lib.hid (RY.out.on hb); replace RALL := Lib.hid (RALL.out.on hb); replace HB := Lib.hid (bch HB.out hb); clear hb)
        | (go_at_call 32; have mk := RM; clear mk; refine (someT_any A B true _ _ _ RA.out RB.out LA2.out LB.out).mono ?_; rintro e we ⟨vwe, rfl, ho, hb⟩; rw [HM2.out] at ho; have hx := hb; replace RA := Lib.hid (RA.out.on hx); replace RB := Lib.hid (RB.out.on hx); replace RX := Lib.hid (RX.out.on hx); replace RY := Lib.hid (RY.out.on hx); replace RALL := Lib.hid (RALL.out.on hx); replace RM := Lib.hid (RM.out.on hx); replace HB := Lib.hid (bch HB.out hx); have RS := Lib.hid (Rd.of_own ho); obtain ⟨awe, cwe, rfl⟩ := own_slice ho; clear ho hb hx)
        | (go_at_call 31; refine (meetS_any A B _ _ _ RX.out RY.out LA.out LB.out).mono ?_; rintro e wd ⟨vwd, rfl, ho, hb⟩; rw [← HM.out] at ho; have hx := hb; replace RA := Lib.hid (RA.out.on hx); replace RB := Lib.hid (RB.out.on hx); replace RX := Lib.hid (RX.out.on hx); replace RY := Lib.hid (RY.out.on hx); replace RALL := Lib.hid (RALL.out.on hx); replace HB := Lib.hid (bch HB.out hx); have RM := Lib.hid (Rd.of_own ho); obtain ⟨awd, cwd, rfl⟩ := own_slice ho; clear ho hb hx)
        | (go_at_call 16; have mk := RU; clear mk; refine (eqs_any ALL ALL _ _ _ RU.out RALL.out LALL.out LALL.out).mono ?_; rintro e wc ⟨rfl, hb⟩; rw [show decide (ALL = ALL) = true from decide_eq_true rfl]; replace RA := Lib.hid (RA.out.on hb); replace RB := Lib.hid (RB.out.on hb); replace RX := Lib.hid (RX.out.on hb); replace RY := Lib.hid (RY.out.on hb); replace RALL := Lib.hid (RALL.out.on hb); replace HB := Lib.hid (bch HB.out hb); clear hb)
        | (go_at_call 30; refine (unionS_any [A, B] _ _ (rdrS_pair RX.out RY.out) LAB.out).mono ?_; rintro e wb ⟨vwb, rfl, ho, hb⟩; rw [← HALL.out] at ho; have hx := (bch (below_new _ _) hb); replace RA := Lib.hid (RA.out.on hx); replace RB := Lib.hid (RB.out.on hx); replace RX := Lib.hid (RX.out.on hx); replace RY := Lib.hid (RY.out.on hx); replace RALL := Lib.hid (RALL.out.on hx); replace HB := Lib.hid (bch HB.out hx); have RU := Lib.hid (Rd.of_own ho); obtain ⟨awb, cwb, rfl⟩ := own_slice ho; clear ho hb hx))
      go_wp2_with (first
        | (go_at_call 16; have mk := MKD; clear mk; refine (eqs_any B B _ _ _ RY.out RB.out LB.out LB.out).mono ?_; rintro e wm ⟨rfl, hb⟩; rw [show decide (B = B) = true from decide_eq_true rfl]; replace RA := Lib.hid (RA.out.on hb); replace RB := Lib.hid (RB.out.on hb); replace RX := Lib.hid (RX.out.on hb); replace RY := Lib.hid (RY.out.on hb); replace RALL := Lib.hid (RALL.out.on hb); replace HB := Lib.hid (bch HB.out hb); clear hb)
        | (go_at_call 16; refine (eqs_any A A _ _ _ RX.out RA.out LA.out LA.out).mono ?_; rintro e wl ⟨rfl, hb⟩; rw [show decide (A = A) = true from decide_eq_true rfl]; replace RA := Lib.hid (RA.out.on hb); replace RB := Lib.hid (RB.out.on hb); replace RX := Lib.hid (RX.out.on hb); replace RY := Lib.hid (RY.out.on hb); replace RALL := Lib.hid (RALL.out.on hb); replace HB := Lib.hid (bch HB.out hb); have MKD := Lib.hid trivial; clear hb)
        | (go_at_call 30; refine (unionS_any [] _ _ (rdrT_none _) (by simp)).mono ?_; rintro e wn ⟨vwn, rfl, ho, hb⟩; rw [show uniS ([] : List (List Bs)).flatten = [] from by simp [uniS, sortS, Lib.compact, Lib.compactUpTo], List.length_nil] at ho; have hx := hb; replace RA := Lib.hid (RA.out.on hx); replace RB := Lib.hid (RB.out.on hx); replace RX := Lib.hid (RX.out.on hx); replace RY := Lib.hid (RY.out.on hx); replace RALL := Lib.hid (RALL.out.on hx); replace HB := Lib.hid (bch HB.out hx); have RE := Lib.hid (Rd.of_own ho); obtain ⟨awn, cwn, rfl⟩ := own_slice ho; clear ho hb hx))
      go_ret
      exact ⟨rfl, HB.out⟩
end Go.Proofs.YtgmplpfbhcdofaaGreat
