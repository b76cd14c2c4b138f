/- Proved here: rows of rows of leaves as they lie in memory, and check of package claim: by which error they may not be. -/
import Derived.Test.YtgmplpfbhcdofaaGreatLCheck
import Derived.Test.YtgmplpfbhcdofaaGreatKMath
namespace Go.Proofs.YtgmplpfbhcdofaaGreat
open Go.RowKit Go.Shelf
attribute [local go_sem] Oper.semAt_some

/-- A slice of slices that reads as these rows. -/
def RdRs (w : World) (v : Value) (l : List (List Lf)) : Prop :=
  ∃ a c, v = .slice a l.length c ∧ l.length ≤ c ∧ c ≤ maxLen ∧
    (0 < l.length → ∃ g o, a = some ⟨g, o, none⟩ ∧ g < w.heap.size ∧ ∀ (j : Nat) (r : List Lf), l[j]? = some r → ∃ x, w.cell? ⟨g, o + j, none⟩ = some x ∧ RdL w x r)
theorem RdRs.on {w w' : World} {v : Value} {l : List (List Lf)} (h : RdRs w v l) (hb : Below w.heap.size w w') : RdRs w' v l := by
  obtain ⟨a, c, h1, h2, h3, h4⟩ := h
  refine ⟨a, c, h1, h2, h3, fun h0 => ?_⟩
  obtain ⟨g, o, e, hg, hc⟩ := h4 h0
  refine ⟨g, o, e, Nat.lt_of_lt_of_le hg hb.size, fun j r hr => ?_⟩
  obtain ⟨x, hx, hl⟩ := hc j r hr
  exact ⟨x, (hb.cell (p := ⟨g, _, none⟩) hg).trans hx, hl.on hb⟩
theorem RdRs.nil (w : World) : RdRs w (.slice none 0 0) [] := ⟨none, 0, rfl, Nat.le_refl _, Nat.zero_le _, fun h => absurd h (Nat.lt_irrefl _)⟩
theorem RdL.slice {w : World} {x : Value} {r : List Lf} (h : RdL w x r) : ∃ a c, x = .slice a r.length c := by
  obtain ⟨a, c, e, _⟩ := h
  exact ⟨a, c, e⟩
theorem RdRs.of_own {w : World} {B n : Nat} {e : TypeId} {v : Value} {xs : List Value} {l : List (List Lf)} (h : w.ownsRow B e 1 v n xs) (hn : l.length = n)
    (hx : ∀ (j : Nat) (r : List Lf), l[j]? = some r → ∃ x, xs[j]? = some x ∧ RdL w x r) : RdRs w v l := by
  have hx0 := h
  rcases h.2 with ⟨rfl, h0⟩ | ⟨g, cap, cur, rfl, _, hg, h2, h3, _⟩
  · have : l = [] := List.eq_nil_of_length_eq_zero (by omega)
    subst this
    exact RdRs.nil w
  · subst hn
    refine ⟨_, _, rfl, h2, h3, fun _ => ⟨g, 0, rfl, (hx0.lt g rfl).2, fun j r hr => ?_⟩⟩
    obtain ⟨x, h5, h6⟩ := hx j r hr
    have := hx0.cells (g := g) rfl j x h5
    rw [addr_add] at this
    exact ⟨x, this, h6⟩

def okRs (l : List (List Lf)) : Prop := l.length ≤ 16 ∧ ∀ r ∈ l, okLs r = true
theorem chkR_long {l : List (List Lf)} (h : ¬ l.length ≤ 16) : chkR l = 3 := by unfold chkR; rw [if_pos (by omega)]
theorem chkR_ok {l : List (List Lf)} (h : okRs l) : chkR l = 0 := by
  unfold chkR
  rw [if_neg (by have := h.1; omega), if_pos (by rw [List.all_eq_true]; exact h.2)]
theorem chkR_bad {l : List (List Lf)} (h : l.length ≤ 16) {r : List Lf} (hr : r ∈ l) (hb : okLs r = false) : chkR l = 190 := by
  unfold chkR
  rw [if_neg (by omega), if_neg]
  intro ha
  have := List.all_eq_true.1 ha r hr
  rw [hb] at this
  cases this
theorem chkR_iff (l : List (List Lf)) : chkR l = 0 ↔ okRs l := by
  constructor
  · intro h
    unfold chkR at h
    split at h
    · cases h
    · rename_i h1
      split at h
      · rename_i h2
        exact ⟨by omega, fun r hr => List.all_eq_true.1 h2 r hr⟩
      · cases h
  · exact chkR_ok

set_option maxRecDepth 100000 in
set_option maxHeartbeats 4000000 in
theorem check_any (l : List (List Lf)) (v : Value) (w : World) (hv : RdRs w v l) : Calls Tryz.prog 36 #[v] w fun e w' => e = .returned (.int .i64 (chkR l)) ∧ Below w.heap.size w w' := by
  have HV := Lib.hid hv
  obtain ⟨a, c, rfl, hlc, hcm, hcc⟩ := hv
  obtain ⟨n, hn⟩ : ∃ n, n = l.length := ⟨_, rfl⟩
  rw [← hn] at HV hlc ⊢
  have HN := Lib.hid hn
  clear hn hcc
  unfold maxLen at hcm
  by_cases h16 : n ≤ 16
  · have t16 : decide ((n : Int) > 16) = false := decide_eq_false (by omega)
    go_enter Tryz.func36, Tryz.ntmps36
    go_wp2_with fail
    clear t16
    go_loopw [11] (fun i W => ∃ k : Nat, k ≤ n ∧ i = .int .i64 (k : Int) ∧ Hid (∀ (j : Nat) (r : List Lf), j < k → l[j]? = some r → okLs r = true) ∧ Hid (Below w.heap.size w W)) (fun i _ => n - (Lib.intOf i).toNat)
    case atStart => exact ⟨0, Nat.zero_le _, rfl, Lib.hid (fun j x h => absurd h (Nat.not_lt_zero _)), Lib.hid (Below.refl _ _)⟩
    case round =>
      obtain ⟨k, hk, rfl, HLo, HB⟩ := hrel
      by_cases hlt : k < n
      · obtain ⟨r, hr⟩ : ∃ r, l[k]? = some r := ⟨_, List.getElem?_eq_getElem (by rw [← HN.out]; exact hlt)⟩
        obtain ⟨a', c', e, z1, z2, hc⟩ := HV.out.on HB.out
        clear z1 z2
        rw [← HN.out] at e
        cases e
        obtain ⟨g, o, rfl, hg, hd⟩ := hc (by rw [← HN.out]; omega)
        obtain ⟨x, q0, hl⟩ := hd k r hr
        have HL := Lib.hid hl
        obtain ⟨a2, c2, rfl⟩ := hl.slice
        have k1 : (k : Int) < (n : Int) := by omega
        have k2 : (0 : Int) ≤ (k : Int) := by omega
        have k4 : IntKind.i64.wrap ((k : Int) + 1) = (k : Int) + 1 := IntWalk.i64_in _ (by omega)
        have HX := Lib.hid hr
        obtain ⟨m, hm⟩ : ∃ m, m = r.length := ⟨_, rfl⟩
        rw [← hm] at q0 HL
        clear hc hd hr hl hm
        cases h1 : okLs r with
        | false =>
          have HR : Hid (chkR l = 190) := Lib.hid (chkR_bad (by rw [← HN.out]; exact h16) (List.mem_of_getElem? HX.out) h1)
          have HV1 : Hid (chkLs r = 190) := Lib.hid (by unfold chkLs; rw [h1]; rfl)
          clear h1
          go_wp2_with (go_at_call 62; refine (chkls_any r _ _ HL.out).mono ?_; rintro e w6 ⟨rfl, hb⟩; have HB6 := Lib.hid (bch HB.out hb); rw [HV1.out]; clear hb)
          go_ret
          exact ⟨by rw [HR.out]; rfl, HB6.out⟩
        | true =>
          have HLo2 : Hid (∀ (j : Nat) (y : List Lf), j < k + 1 → l[j]? = some y → okLs y = true) := Lib.hid (fun j y hj hy => by
            rcases Nat.lt_or_ge j k with h | h
            · exact HLo.out j y h hy
            · obtain rfl : j = k := by omega
              rw [HX.out] at hy; cases hy
              exact h1)
          have HV1 : Hid (chkLs r = 0) := Lib.hid (by unfold chkLs; rw [h1]; rfl)
          clear h1
          go_wp2_with (go_at_call 62; refine (chkls_any r _ _ HL.out).mono ?_; rintro e w6 ⟨rfl, hb⟩; have HB6 := Lib.hid (bch HB.out hb); rw [HV1.out]; clear hb)
          go_roundw
          case rel => exact ⟨k + 1, by omega, by go_num, HLo2, HB6⟩
          case measure => simp [Lib.intOf]; omega
      · have k1 : ¬ ((k : Int) < (n : Int)) := by omega
        have HR : Hid (chkR l = 0) := Lib.hid (chkR_ok ⟨by rw [← HN.out]; exact h16, fun r hr => by
          obtain ⟨j, hj⟩ := List.mem_iff_getElem?.1 hr
          exact HLo.out j r (by have := (List.getElem?_eq_some_iff.1 hj).1; rw [← HN.out] at this; omega) hj⟩)
        go_wp2
        go_ret
        exact ⟨by rw [HR.out]; rfl, HB.out⟩
  · have t16 : decide ((n : Int) > 16) = true := decide_eq_true (by omega)
    have HR : Hid (chkR l = 3) := Lib.hid (chkR_long (by rw [← HN.out]; exact h16))
    clear h16
    go_enter Tryz.func36, Tryz.ntmps36
    go_wp2
    go_ret
    exact ⟨by rw [HR.out]; rfl, Below.refl _ _⟩
end Go.Proofs.YtgmplpfbhcdofaaGreat
