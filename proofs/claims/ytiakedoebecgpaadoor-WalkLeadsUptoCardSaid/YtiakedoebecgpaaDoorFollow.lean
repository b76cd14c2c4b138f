/- Proved here: drop and follow of package path: what a text comes to, part by part, from a way. -/
import Derived.Test.YtiakedoebecgpaaDoorWay
namespace Go.Proofs.YtiakedoebecgpaaDoor
open Go.RowKit Go.Shelf
attribute [local go_sem] Oper.semAt_some

theorem Step.set_ {W : World} {base Bw : Nat} (hB : base ≤ Bw) (v : Value) : Step base Bw W (W.setCell ⟨Bw, 0, none⟩ v).drew :=
  ⟨(((Below.refl _ _).setCell (p := ⟨Bw, 0, none⟩) hB v)).drew, (KeepsOthers.setCell _ _ _).trans (KeepsOthers.drew _), fun _ _ _ hk _ h => (h.other hk v : Boxed _ _ _ _)⟩
theorem own_set {W : World} {base Bw n : Nat} {u v v' : Value} {xs : List Value} (hv : Boxed W Bw 102 u) (h : W.ownsRow base 9 1 v n xs) : (W.setCell ⟨Bw, 0, none⟩ v').drew.ownsRow base 9 1 v n xs :=
  (h.kept (grownBy_setCell' W Bw v') (.inr (hv.not_row (by decide) h).symm)).drew

theorem drop_any (base Bw : Nat) (l : List Str) (w : World) (hW : Way w base Bw l) (hB : base ≤ Bw) (hl : l.length ≤ 40) :
    Calls Tryd.prog 59 #[.pointer (some ⟨Bw, 0, none⟩)] w fun e w' => e = .returned (.tuple #[]) ∧ Way w' base Bw l.dropLast ∧ Step base Bw w w' := by
  obtain ⟨v, hv, hrow⟩ := hW
  rcases hrow.2 with ⟨rfl, h0⟩ | ⟨g, cap, cur, rfl, hg, hh, hn, hcap, hcs, htake⟩
  · have hl0 : l = [] := List.eq_nil_of_length_eq_zero h0
    subst hl0
    refine (drop_nil Bw w hv).mono fun _ _ ⟨he, hw⟩ => ⟨he, ?_⟩
    subst hw
    exact ⟨⟨_, hv.set _, World.ownsRow_nil _ _ _ _⟩, Step.set_ hB _⟩
  · by_cases h0 : l = []
    · subst h0
      refine (drop_zero Bw g cap w hv).mono fun _ _ ⟨he, hw⟩ => ⟨he, ?_⟩
      subst hw
      exact ⟨⟨_, hv.set _, own_set hv hrow⟩, Step.set_ hB _⟩
    · obtain ⟨init, x, rfl⟩ : ∃ init x, l = init ++ [x] := ⟨_, _, (List.dropLast_concat_getLast h0).symm⟩
      have e1 : (init ++ [x]).length = init.length + 1 := by simp
      rw [e1] at hv hn hrow hl
      rw [List.map_append] at hrow
      refine (drop_succ Bw g cap init.length (by omega) hn w hv).mono fun _ _ ⟨he, hw⟩ => ⟨he, ?_⟩
      subst hw
      rw [List.dropLast_concat]
      exact ⟨⟨_, hv.set _, own_set hv (ownsRow_pop (by simp) hrow)⟩, Step.set_ hB _⟩

def fI (base Bw : Nat) (l0 : List Str) (w : World) (pre : List Str) (W : World) : Prop :=
  (∃ v l, (Boxed W Bw 102 v ∧ W.ownsRow base 9 1 v l.length (l.map encS)) ∧ goW l0 pre = some l ∧ partsB l = true) ∧
  Boxed W w.heap.size 91 (.func (.func 58) #[.pointer (some ⟨Bw, 0, none⟩)] #[]) ∧ Boxed W (w.heap.size + 1) 1 (.func (.func 59) #[.pointer (some ⟨Bw, 0, none⟩)] #[]) ∧
  Boxed W (w.heap.size + 1 + 1) 4 (.bool true) ∧ Below base w W
def fX (base : Nat) (l0 : List Str) (w : World) (c : Code) (pre : List Str) (W : World) : Prop :=
  (c = .exit 0 ∧ goW l0 pre = none) ∧ Boxed W (w.heap.size + 1 + 1) 4 (.bool false) ∧ Below base w W

theorem fI_own (base Bw : Nat) (l0 : List Str) (w : World) (B : Nat) (hB : base ≤ B) (hbs : base ≤ w.heap.size) : OwnFrom B (fI base Bw l0 w) := by
  rintro pre X Y row ⟨⟨v, l, ⟨h1, h2⟩, h3⟩, k1, k2, k3, k4⟩ hg hr
  have hr' : ∀ r, row = some r → ∃ o : Obj, X.heap[r]? = some o ∧ o.isCells = false := fun r e => (hr r e).2
  have bx : ∀ {k t u}, Boxed X k t u → Boxed Y k t u := fun {k t u} h => h.kept hg (fun e' => by
    obtain ⟨o, ho, hc⟩ := hr' k e'.symm
    rw [show X.heap[k]? = _ from h] at ho; cases ho; cases hc)
  refine ⟨⟨v, l, ⟨bx h1, ?_⟩, h3⟩, bx k1, bx k2, bx k3, k4.grown hg (Nat.le_trans hbs k4.size) (fun k e => Nat.le_trans hB (hr k e).1)⟩
  refine h2.kept hg ?_
  rcases h2.2 with ⟨rfl, _⟩ | ⟨g, cap, cur, rfl, _, hgb, _⟩
  · exact .inl rfl
  · refine .inr fun e' => ?_
    obtain ⟨o, ho, hc⟩ := hr' g (by simpa [Value.ownBlock] using e'.symm)
    rw [hgb] at ho; cases ho; cases hc
theorem fX_own (base : Nat) (l0 : List Str) (w : World) (B : Nat) (hB : base ≤ B) (hbs : base ≤ w.heap.size) (c : Code) : OwnFrom B (fX base l0 w c) :=
  OwnFrom.and (ownFrom_pure _ fun pre : List Str => c = .exit 0 ∧ goW l0 pre = none) (OwnFrom.and (Own.from (boxed_own _ _ fun _ => _) _) (ownFrom_below hbs hB))

theorem set_far {W : World} {base Bw k n : Nat} {v u u' : Value} {xs : List Value} (hv : Boxed W Bw 102 v) (h : W.ownsRow base 9 1 v n xs) (hb : Boxed W k 4 u) (hk : Bw ≠ k) :
    Boxed (W.setCell ⟨k, 0, none⟩ u') Bw 102 v ∧ (W.setCell ⟨k, 0, none⟩ u').ownsRow base 9 1 v n xs :=
  ⟨hv.other hk u', h.kept (grownBy_setCell' W k u') (.inr (hb.not_row (by decide) h).symm)⟩

set_option maxRecDepth 100000 in
set_option maxHeartbeats 4000000 in
theorem follow_any (base Bw : Nat) (s : ByteArray) (w : World) (hs : s.size ≤ 140737488355328) (l0 : List Str) (hW : Way w base Bw l0) (hB : base ≤ Bw) (hbs : base ≤ w.heap.size) (hl0 : partsB l0 = true) :
    Calls Tryd.prog 57 #[.string s, .func (.func 58) #[.pointer (some ⟨Bw, 0, none⟩)] #[], .func (.func 59) #[.pointer (some ⟨Bw, 0, none⟩)] #[]] w fun e w' =>
      (∃ l, e = .returned (.bool true) ∧ goW l0 (cutP s.data.toList) = some l ∧ partsB l = true ∧ Way w' base Bw l ∧ Below base w w') ∨ (e = .returned (.bool false) ∧ goW l0 (cutP s.data.toList) = none ∧ Below base w w') := by
  refine (callsIn_wide (n := 5)).1 ?_
  refine callsIn_of_wp_marks Tryd.func57 rfl trivial ?_ rfl
  simp only [Tryd.ntmps57, List.size_toArray, List.length_cons, List.length_nil, Nat.reduceAdd, Nat.reduceSub, Array.replicate_succ, Array.replicate_zero, List.push_toArray, List.append_toArray, List.nil_append, List.cons_append]
  gi_wp2
  refine wpIn_wide.2 (wp_scope_straight ((wpIn_wide (n := 5)).1 ?_))
  gi_wp2
  refine wpIn_label ?_
  gi_wp2_with (refine ⟨trivial, ?_⟩; gi_at_call 88; refine (callsIn_wide.2 (parts_any _ _)).mono ?_; rintro e w' ⟨rfl, rfl⟩)
  obtain ⟨v0, hv0, hr0⟩ := hW
  have hlt0 := hv0.lt
  have b0 := (((Boxed.new w 91 (.func (.func 58) #[.pointer (some ⟨Bw, 0, none⟩)] #[])).alloc (.cells #[.func (.func 59) #[.pointer (some ⟨Bw, 0, none⟩)] #[]] 1)).alloc (.cells #[.bool true] 4)).alloc (.cells #[.string s] 9)
  have b1 := ((Boxed.new (w.alloc (.cells #[.func (.func 58) #[.pointer (some ⟨Bw, 0, none⟩)] #[]] 91)) 1 (.func (.func 59) #[.pointer (some ⟨Bw, 0, none⟩)] #[])).alloc (.cells #[.bool true] 4)).alloc (.cells #[.string s] 9)
  have b2 := (Boxed.new ((w.alloc (.cells #[.func (.func 58) #[.pointer (some ⟨Bw, 0, none⟩)] #[]] 91)).alloc (.cells #[.func (.func 59) #[.pointer (some ⟨Bw, 0, none⟩)] #[]] 1)) 4 (.bool true)).alloc (.cells #[.string s] 9)
  have b3 := Boxed.new (((w.alloc (.cells #[.func (.func 58) #[.pointer (some ⟨Bw, 0, none⟩)] #[]] 91)).alloc (.cells #[.func (.func 59) #[.pointer (some ⟨Bw, 0, none⟩)] #[]] 1)).alloc (.cells #[.bool true] 4)) 9 (.string s)
  have hv1 := (((hv0.alloc (.cells #[.func (.func 58) #[.pointer (some ⟨Bw, 0, none⟩)] #[]] 91)).alloc (.cells #[.func (.func 59) #[.pointer (some ⟨Bw, 0, none⟩)] #[]] 1)).alloc (.cells #[.bool true] 4)).alloc (.cells #[.string s] 9)
  have hr1 := (((hr0.alloc (.cells #[.func (.func 58) #[.pointer (some ⟨Bw, 0, none⟩)] #[]] 91)).alloc (.cells #[.func (.func 59) #[.pointer (some ⟨Bw, 0, none⟩)] #[]] 1)).alloc (.cells #[.bool true] 4)).alloc (.cells #[.string s] 9)
  simp only [World.size_alloc] at b1 b2 b3
  have hB0 : Below base w ((((w.alloc (.cells #[.func (.func 58) #[.pointer (some ⟨Bw, 0, none⟩)] #[]] 91)).alloc (.cells #[.func (.func 59) #[.pointer (some ⟨Bw, 0, none⟩)] #[]] 1)).alloc (.cells #[.bool true] 4)).alloc (.cells #[.string s] 9)) := ((((Below.refl base w).alloc hbs _).alloc (by simp; omega) _).alloc (by simp; omega) _).alloc (by simp; omega) _
  refine wpIn_rangeFunc_ownG rfl (by omega) (gf := 109) (lb := #[.pointer (some ⟨w.heap.size + 1 + 1 + 1, 0, none⟩)]) rfl trivial (enters_of Tryd.func109 (by kernel_rfl) rfl)
    (parts1_stops _ (by omega) (w.heap.size + 1 + 1 + 1) s hs _ (by simp) b3.cell) (fun _ _ => trivial) (fun _ _ _ _ _ _ _ _ => trivial) (Below.refl _ _) (fun _ => rfl)
    (fI base Bw l0 w) (fX base l0 w) (fI_own base Bw l0 w _ (by simp; omega) hbs) (fX_own base l0 w _ (by simp; omega) hbs) ⟨⟨v0, l0, ⟨hv1, hr1⟩, rfl, hl0⟩, b0, b1, b2, hB0⟩
    (fun x => { tmps := #[.string s, .func (.func 58) #[.pointer (some ⟨Bw, 0, none⟩)] #[], .func (.func 59) #[.pointer (some ⟨Bw, 0, none⟩)] #[], undef, .pointer (some ⟨w.heap.size, 0, none⟩), .pointer (some ⟨w.heap.size + 1, 0, none⟩), .bool false, .pointer (some ⟨w.heap.size + 1 + 1, 0, none⟩), .string ⟨x.toArray⟩, .string s, .func (.func 109) #[] #[.pointer (some ⟨w.heap.size + 1 + 1 + 1, 0, none⟩)], .string ⟨x.toArray⟩, undef, undef, undef, undef, undef, undef, undef, undef, undef, undef, undef, undef, undef, undef], defers := [] }) ?assign ?body ?done ?stop
  case assign =>
    intro l x W K hK
    gi_wp2
    exact hK
  case body =>
    clear b0 b1 b2 b3 hv1 hr1 hB0 hv0 hr0
    rintro l pre x W ⟨⟨v, li, ⟨hv, hrow⟩, hgo, hpl⟩, k0, k1, k2, hB1⟩ _
    have hW : Way W base Bw li := ⟨v, hv, hrow⟩
    have hc0 := k0.cell
    have hc1 := k1.cell
    have hc2 := k2.cell
    have hf2 := k2.frozen
    have hll := ((parts_iff _).1 hpl).1
    have hbW : base ≤ W.heap.size := Nat.le_trans hbs hB1.size
    have HG := Lib.hid hgo
    clear hgo
    by_cases hx0 : x = [] ∨ x = [46]
    · have HS := Lib.hid (stepW_skip li x hx0)
      rcases hx0 with rfl | rfl
      · gi_wp2
        exact ⟨KeepsFrom.refl _ _, trivial, ⟨v, li, ⟨hv, hrow⟩, by rw [goW_snoc, HG.out, HS.out], hpl⟩, k0, k1, k2, hB1⟩
      · gi_wp2
        exact ⟨KeepsFrom.refl _ _, trivial, ⟨v, li, ⟨hv, hrow⟩, by rw [goW_snoc, HG.out, HS.out], hpl⟩, k0, k1, k2, hB1⟩
    · have n1 : x ≠ [] := fun e => hx0 (.inl e)
      have n2 : x ≠ [46] := fun e => hx0 (.inr e)
      have e1 := isEmpty_no n1
      have e2 := beq_no n2
      by_cases hx3 : x = [46, 46]
      · subst hx3
        have HS := Lib.hid (stepW_up li)
        clear hx0 n1 n2
        gi_wp2_with (refine ⟨trivial, ?_⟩; gi_at_call 59; refine (CallsIn.inRound l (callsIn_wide.2 (drop_any base Bw li _ hW hB hll))).mono ?_; rintro e w1 ⟨rfl, ⟨v', hv', hr'⟩, hst⟩)
        exact ⟨hst.others.from _, trivial, ⟨v', li.dropLast, ⟨hv', hr'⟩, by rw [goW_snoc, HG.out, HS.out], parts_dropLast _ hpl⟩, hst.box _ _ _ (by omega) (by decide) k0, hst.box _ _ _ (by omega) (by decide) k1, hst.box _ _ _ (by omega) (by decide) k2, hB1.trans hst.below⟩
      · have e3 := beq_no hx3
        by_cases h40 : li.length = 40
        · have HS := Lib.hid (stepW_no li x n1 n2 hx3 (.inl h40))
          have HC := Lib.hid (add_full base Bw li x W hW h40)
          clear hx0 n1 n2 hx3 h40
          gi_wp2_with (refine ⟨trivial, ?_⟩; gi_at_call 58; refine (CallsIn.inRound l (callsIn_wide.2 HC.out)).mono ?_; rintro e w1 ⟨rfl, hb⟩; have k2' := boxed_below k2 hb k2.lt; have hc2' := k2'.cell; have hf2' := k2'.frozen)
          exact ⟨(kf_below hb).trans ((KeepsOthers.setCell _ _ _).from _), ⟨rfl, by rw [goW_snoc, HG.out, HS.out]⟩, k2'.set _, (hB1.trans (hb.mono hbW)).setCell (p := ⟨w.heap.size + 1 + 1, 0, none⟩) (by simp; omega) _⟩
        · by_cases hn : nameB x = true
          · have HS := Lib.hid (stepW_add li x h40 hn)
            have HC := Lib.hid (add_good base Bw li x W hW hB hbW (by omega) hn)
            have HP := Lib.hid (parts_snoc li x hpl h40 hn)
            clear hx0 n1 n2 hx3 h40 hn
            gi_wp2_with (refine ⟨trivial, ?_⟩; gi_at_call 58; refine (CallsIn.inRound l (callsIn_wide.2 HC.out)).mono ?_; rintro e w1 ⟨rfl, ⟨v', hv', hr'⟩, hst⟩; have k2' := hst.box _ _ _ (by omega) (by decide) k2; have hc2' := k2'.cell; have hf2' := k2'.frozen)
            have hfar := set_far (u' := .bool true) hv' hr' k2' (by omega)
            exact ⟨(hst.others.from _).trans ((KeepsOthers.setCell _ _ _).from _), trivial, ⟨v', li ++ [x], hfar, by rw [goW_snoc, HG.out, HS.out], HP.out⟩, (hst.box _ _ _ (by omega) (by decide) k0).other (by omega) _, (hst.box _ _ _ (by omega) (by decide) k1).other (by omega) _, k2'.set _, (hB1.trans hst.below).setCell (p := ⟨w.heap.size + 1 + 1, 0, none⟩) (by simp; omega) _⟩
          · have hn' := Bool.eq_false_iff.2 hn
            have HS := Lib.hid (stepW_no li x n1 n2 hx3 (.inr hn'))
            have HC := Lib.hid (add_bad base Bw li x W hW (by omega) hn')
            clear hx0 n1 n2 hx3 h40 hn hn'
            gi_wp2_with (refine ⟨trivial, ?_⟩; gi_at_call 58; refine (CallsIn.inRound l (callsIn_wide.2 HC.out)).mono ?_; rintro e w1 ⟨rfl, hb⟩; have k2' := boxed_below k2 hb k2.lt; have hc2' := k2'.cell; have hf2' := k2'.frozen)
            exact ⟨(kf_below hb).trans ((KeepsOthers.setCell _ _ _).from _), ⟨rfl, by rw [goW_snoc, HG.out, HS.out]⟩, k2'.set _, (hB1.trans (hb.mono hbW)).setCell (p := ⟨w.heap.size + 1 + 1, 0, none⟩) (by simp; omega) _⟩
  case done =>
    rintro D xs W hD rfl ⟨⟨v, li, ⟨hv, hrow⟩, hgo, hpl⟩, k0, k1, k2, hB1⟩ hK
    have hc2 := k2.cell
    have HG := Lib.hid hgo
    clear hgo
    gi_wp2
    refine ⟨by simp, .inl ⟨_, _, rfl, run_takeDeferred hK, ?_⟩⟩
    have hD' : Bw < D := by simp at hD; omega
    exact ⟨_, results_tmp rfl _ _ _, .inl ⟨li, rfl, HG.out, hpl, ⟨v, hv.kept (grownBy_putObj' W D _) (fun e => by cases e; omega), ownsRow_putObj hrow _ hK rfl⟩, hB1.trans (belowK_b (w := w) hbs W D _ _ (by simp at hD; omega) hK rfl rfl)⟩⟩
  case stop =>
    rintro D c pre W hD hpre ⟨⟨rfl, hbad⟩, k2, hB1⟩ hK
    have hc2 := k2.cell
    have HG := Lib.hid (goW_dead l0 pre _ hbad hpre)
    clear hbad hpre
    gi_wp2
    refine ⟨by simp, .inl ⟨_, _, rfl, run_takeDeferred hK, ?_⟩⟩
    exact ⟨_, results_tmp rfl _ _ _, .inr ⟨rfl, HG.out, hB1.trans (belowK_b (w := w) hbs W D _ _ (by simp at hD; omega) hK rfl rfl)⟩⟩
end Go.Proofs.YtiakedoebecgpaaDoor
