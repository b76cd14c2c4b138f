/- Proved here: Pick of package span, at a row of at most twelve versions: those that the span has, each once, the last ones first. -/
import Derived.Test.YtlfehjjnepiljaaGreatDoorSPick2
namespace Go.Proofs.YtlfehjjnepiljaaGreatDoor
open Go.RowKit Go.Shelf

def PickR (ls : List (List Bd)) (l : List Ver) (w : World) (e : Ending) (w' : World) : Prop :=
  ∃ (a : Option Addr) (n c : Nat) (r : List Ver), e = .returned (.slice a n c) ∧ FallP r ∧ (∀ v, v ∈ r ↔ v ∈ l ∧ hasS ls v = true) ∧ n = r.length ∧ n ≤ l.length ∧ w'.ownsRow w.heap.size 45 7 (.slice a n c) n (flatV r) ∧ Below w.heap.size w w'
theorem owns_mono {w : World} {B B' s n : Nat} {t : TypeId} {v : Value} {xs : List Value} (h : w.ownsRow B t s v n xs) (hb : B' ≤ B) : w.ownsRow B' t s v n xs :=
  ⟨h.1, h.2.imp id fun ⟨g, cap, cur, hv, hg, r⟩ => ⟨g, cap, cur, hv, Nat.le_trans hb hg, r⟩⟩
theorem pick_len {ls : List (List Bd)} {l r : List Ver} (hp : r.Perm (okV l)) : (pickL ls r).length ≤ l.length := by
  unfold pickL
  rw [List.length_reverse]
  refine Nat.le_trans (dd_len _) (Nat.le_trans (List.length_filter_le _ _) ?_)
  rw [hp.length_eq]
  exact List.length_filter_le _ _

set_option maxRecDepth 100000 in
set_option maxHeartbeats 4000000 in
theorem pick_any (ls : List (List Bd)) (l : List Ver) (x y : Value) (w : World) (hx : RdR w x ls) (hy : RdV w y l) (hl : l.length ≤ 12) : Calls Tryz.prog 24 #[.agg #[x], y] w (PickR ls l w) := by
  obtain ⟨w1, hw1⟩ : ∃ q, q = w.alloc (.cells #[x] 27) := ⟨_, rfl⟩
  have X1 : Hid (Box w1 w.heap.size 27 #[x]) := Lib.hid (by rw [hw1]; exact box_new)
  have B1 : Hid (Below w.heap.size w w1) := Lib.hid (by rw [hw1]; exact below_new _ _)
  have HX := Lib.hid (hx.on B1.out)
  have HY := Lib.hid (hy.on B1.out)
  obtain ⟨ax, cx, rfl, _⟩ := hx.open
  obtain ⟨ay, cy, rfl, _⟩ := hy
  obtain ⟨nx, hnx⟩ : ∃ q, q = ls.length := ⟨_, rfl⟩
  obtain ⟨ny, hny⟩ : ∃ q, q = l.length := ⟨_, rfl⟩
  rw [← hnx] at X1 HX hw1 ⊢
  rw [← hny] at HY ⊢
  have HLN := Lib.hid hny
  obtain ⟨o, ho⟩ : ∃ o, o = spanOk ls := ⟨_, rfl⟩
  have HV := Lib.hid (svalids_of ho HX.out)
  have HOK := Lib.hid ho
  clear hx ho hnx hny
  go_enter Tryz.func24, Tryz.ntmps24
  go_upto_region 1 with fail
  rw [← hw1]
  obtain ⟨gs, hgs⟩ : ∃ q, q = w.heap.size := ⟨_, rfl⟩
  rw [← hgs] at X1 ⊢
  have c0 := X1.out.cell (k := 0) rfl
  clear hw1 hgs
  go_wp2_with fail
  refine HV.out.mono ?_
  rintro e w2 ⟨rfl, hb⟩
  have B2 := Lib.hid (bch B1.out hb)
  have X2 := Lib.hid (X1.out.on hb)
  have HX2 := Lib.hid (HX.out.on hb)
  have HY2 := Lib.hid (HY.out.on hb)
  clear hb B1 X1 HX HY HV c0
  cases o with
  | false =>
    go_wp2_with fail
    go_ret
    unfold PickR
    refine ⟨none, 0, 0, [], rfl, List.Pairwise.nil, fun v => ⟨fun h => (by cases h), fun h => ?_⟩, rfl, Nat.zero_le _, World.ownsRow_nil _ _ _ _, B2.out⟩
    have h2 := h.2
    unfold hasS at h2
    rw [← HOK.out] at h2
    simp at h2
  | true =>
    have HKD : Hid (∀ l ∈ ls, Kinds l) := Lib.hid (kinds_span HOK.out.symm)
    have HS := Lib.hid (vsort_any l (.slice ay ny cy) w2 HY2.out hl)
    go_wp2_with fail
    refine HS.out.mono ?_
    rintro e w3 ⟨xs, r, rfl, hperm, hsort, hown, hb⟩
    obtain ⟨a3, c3, rfl⟩ := own_form hown
    obtain ⟨n3, hn3⟩ : ∃ q, q = r.length := ⟨_, rfl⟩
    rw [← hn3] at hown ⊢
    have HD := Lib.hid (vdelete_any (fun v => !hasL ls v) r a3 n3 c3 gs w2 w3 hn3 hown hb (fun v W hW => pickf_any ls v gs _ W (X2.out.on hW) (HX2.out.on hW) HKD.out))
    have HPM := Lib.hid hperm
    have HSO := Lib.hid hsort
    clear HS hperm hsort hown hb hn3
    go_wp2_with fail
    refine HD.out.mono ?_
    rintro e w4 ⟨rfl, hown, hb⟩
    have e4 : r.filter (fun v => !!hasL ls v) = r.filter fun v => hasL ls v := by simp
    rw [e4] at hown ⊢
    obtain ⟨r4, hr4⟩ : ∃ q, q = r.filter fun v => hasL ls v := ⟨_, rfl⟩
    rw [← hr4] at hown ⊢
    obtain ⟨n4, hn4⟩ : ∃ q, q = r4.length := ⟨_, rfl⟩
    rw [← hn4] at hown ⊢
    have HR4 := Lib.hid hr4
    have HC := Lib.hid (vcompact_any r4 a3 n4 c3 w2 w4 hn4 hown hb)
    clear HD hown hb hn4 hr4 e4
    go_wp2_with fail
    refine HC.out.mono ?_
    rintro e w5 ⟨rfl, hown, hb⟩
    obtain ⟨n5, hn5⟩ : ∃ q, q = (dd r4).length := ⟨_, rfl⟩
    rw [← hn5] at hown ⊢
    have HN5 := Lib.hid hn5
    have HV := Lib.hid (vreverse_any (dd r4) a3 n5 c3 w2 w5 hn5 hown hb)
    clear HC hown hb hn5
    go_wp2_with fail
    refine HV.out.mono ?_
    rintro e w6 ⟨rfl, hown, hb⟩
    have HO6 := Lib.hid hown
    have HB6 := Lib.hid hb
    clear HV hown hb
    go_wp2_with fail
    go_ret
    unfold PickR
    have e6 : (dd r4).reverse = pickL ls r := by rw [HR4.out]; rfl
    have hown := HO6.out
    rw [e6] at hown
    refine ⟨a3, n5, c3, pickL ls r, rfl, pick_fall HSO.out, fun v => pick_mem HPM.out HOK.out.symm v, ?_, ?_, owns_mono hown B2.out.size, B2.out.trans (HB6.out.mono B2.out.size)⟩
    · rw [← e6, List.length_reverse, HN5.out]
    · have := pick_len (ls := ls) HPM.out
      rw [← e6, List.length_reverse, ← HN5.out] at this
      exact this
end Go.Proofs.YtlfehjjnepiljaaGreatDoor
