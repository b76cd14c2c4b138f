/- Proved here: slices.IndexFunc and slices.DeleteFunc of a row of versions of the call's own, with the closure of Pick. -/
import Derived.Deep.RegionLaw
import Derived.Lib.SliceRun
import Derived.Test.YtlfehjjnepiljaaGreatDoorSPickM
namespace Go.Proofs.YtlfehjjnepiljaaGreatDoor
open Go.RowKit Go.Shelf

/-- What the closure tells of a version: to be struck. -/
def DelF (v : Ver) (o : Bool) (gs : Nat) (W : World) : Prop := Calls Tryz.prog 50 #[.agg v.arr, .pointer (some ⟨gs, 0, none⟩)] W fun e w' => e = .returned (.bool o) ∧ Below W.heap.size W w'
def DelA (p : Ver → Bool) (gs : Nat) (w : World) : Prop := ∀ v W, Below w.heap.size w W → DelF v (p v) gs W

set_option maxRecDepth 100000 in
set_option maxHeartbeats 1000000 in
theorem pickf_any (ls : List (List Bd)) (v : Ver) (gs : Nat) (x : Value) (w : World) (hs : Box w gs 27 #[x]) (hx : RdR w x ls) (hk : ∀ l ∈ ls, Kinds l) : DelF v (!hasL ls v) gs w := by
  have X1 : Hid (Box (w.alloc (.cells v.arr 45)) w.heap.size 45 v.arr) := Lib.hid box_new
  have hB : Hid (Below w.heap.size w (w.alloc (.cells v.arr 45))) := Lib.hid (below_new _ _)
  have c0 : (w.alloc (.cells v.arr 45)).cell? ⟨gs, 0, none⟩ = some x := (hs.on hB.out).cell (k := 0) rfl
  have HI := Lib.hid (hass_any ls v x _ (hx.on hB.out) hk)
  obtain ⟨a, c, rfl, _⟩ := hx.open
  obtain ⟨o, ho⟩ : ∃ o, o = hasL ls v := ⟨_, rfl⟩
  unfold DelF
  rw [← ho] at HI ⊢
  clear hs hx hk ho
  go_enter Tryz.func50, Tryz.ntmps50
  go_wp2_with (refine wpList_load_row rfl 45 (.tmp 2) rfl w.heap.size rfl 45 v.arr (0, 0) _ X1.out Tryz.underlying45 rfl (info26 _) ?_)
  refine HI.out.mono ?_
  rintro e w1 ⟨rfl, hb⟩
  go_wp2_with fail
  go_ret
  exact ⟨rfl, bch hB.out hb⟩

def IdxR (p : Ver → Bool) (l : List Ver) (w : World) (e : Ending) (w' : World) : Prop :=
  Below w.heap.size w w' ∧ ((e = .returned (.int .i64 (-1)) ∧ ∀ v ∈ l, p v = false) ∨ ∃ (k : Nat) (v : Ver), e = .returned (.int .i64 k) ∧ l[k]? = some v ∧ p v = true ∧ ∀ (j : Nat) (u : Ver), j < k → l[j]? = some u → p u = false)

set_option maxRecDepth 100000 in
set_option maxHeartbeats 2000000 in
theorem vindex_any (p : Ver → Bool) (l : List Ver) (x : Value) (gs : Nat) (w : World) (hx : RdV w x l) (hp : DelA p gs w) : Calls Tryz.prog 71 #[x, .func (.func 50) #[] #[.pointer (some ⟨gs, 0, none⟩)]] w (IdxR p l w) := by
  obtain ⟨a, c, rfl, hlc, hcm, hcell⟩ := hx
  have HC := Lib.hid hcell
  have HP := Lib.hid hp
  obtain ⟨n, hn⟩ : ∃ n, n = l.length := ⟨_, rfl⟩
  rw [← hn] at hlc HC ⊢
  have HN := Lib.hid hn
  unfold maxLen at hcm
  clear hn hcell hp
  go_enter Tryz.func71, Tryz.ntmps71
  go_wp2_with fail
  go_loopw [8] (fun i W => ∃ k : Nat, k ≤ n ∧ i = .int .i64 k ∧ Hid (∀ (j : Nat) (u : Ver), j < k → l[j]? = some u → p u = false) ∧ Hid (Below w.heap.size w W)) (fun i _ => n - (Lib.intOf i).toNat)
  case atStart => exact ⟨0, Nat.zero_le _, rfl, Lib.hid (fun j l h => absurd h (Nat.not_lt_zero _)), Lib.hid (Below.refl _ _)⟩
  case round =>
    obtain ⟨k, hk, rfl, HK, HB⟩ := hrel
    obtain ⟨wo, hwo⟩ : ∃ q, q = wr := ⟨_, rfl⟩
    rw [← hwo] at HB ⊢
    clear hwo
    by_cases hlt : k < n
    · obtain ⟨v, hv⟩ : ∃ v, l[k]? = some v := ⟨_, List.getElem?_eq_getElem (by have := HN.out; omega)⟩
      obtain ⟨g, o, rfl, hg, hc⟩ := HC.out (by omega)
      obtain ⟨q0, q1, q2, q3, q4, q5, q6⟩ := hc k v hv
      have r0 := (HB.out.cell (p := ⟨g, _, none⟩) hg).trans q0
      have r1 := (HB.out.cell (p := ⟨g, _, none⟩) hg).trans q1
      have r2 := (HB.out.cell (p := ⟨g, _, none⟩) hg).trans q2
      have r3 := (HB.out.cell (p := ⟨g, _, none⟩) hg).trans q3
      have r4 := (HB.out.cell (p := ⟨g, _, none⟩) hg).trans q4
      have r5 := (HB.out.cell (p := ⟨g, _, none⟩) hg).trans q5
      have r6 := (HB.out.cell (p := ⟨g, _, none⟩) hg).trans q6
      have k1 : (k : Int) < (n : Int) := by omega
      have k2 : (0 : Int) ≤ (k : Int) := by omega
      have k4 : IntKind.i64.wrap ((k : Int) + 1) = (k : Int) + 1 := IntWalk.i64_in _ (by omega)
      have HL := Lib.hid hv
      obtain ⟨ok, hok⟩ : ∃ ok, ok = p v := ⟨_, rfl⟩
      have HT : Hid (DelF v ok gs wo) := Lib.hid (by rw [hok]; exact HP.out v wo HB.out)
      have HOK := Lib.hid hok
      clear hv hok hc q0 q1 q2 q3 q4 q5 q6
      go_wp2_with fail
      refine (HT.out).mono ?_
      rintro e w3 ⟨rfl, hb⟩
      have B3 := Lib.hid (bch HB.out hb)
      clear HT hb HB r0 r1 r2 r3 r4 r5 r6
      cases ok with
      | false =>
        go_wp2_with fail
        go_roundw
        case rel =>
          refine ⟨k + 1, hlt, by go_num, Lib.hid (fun t y ht hy => ?_), B3⟩
          by_cases htj : t < k
          · exact HK.out t y htj hy
          · obtain rfl : t = k := by omega
            obtain rfl := Option.some.inj (HL.out.symm.trans hy)
            exact HOK.out.symm
        case measure => simp [Lib.intOf]; omega
      | true =>
        go_wp2_with fail
        go_ret
        exact ⟨B3.out, .inr ⟨k, v, rfl, HL.out, HOK.out.symm, HK.out⟩⟩
    · have k1 : ¬ ((k : Int) < (n : Int)) := by omega
      go_wp2_with fail
      go_ret
      refine ⟨HB.out, .inl ⟨rfl, fun v hv => ?_⟩⟩
      obtain ⟨j, hj⟩ := List.mem_iff_getElem?.1 hv
      exact HK.out j v (by have := (List.getElem?_eq_some_iff.1 hj).1; have := HN.out; omega) hj

theorem vzc_one (n : Nat) : ∀ u ∈ (Builtin.zeroCells Ver.zero.arr n).toList, u.oneCell' = true := by
  intro u hu
  simp only [Builtin.zeroCells, Array.toList_map, List.mem_map] at hu
  obtain ⟨k, _, rfl⟩ := hu
  have h3 : k % Ver.zero.arr.size < 7 := Nat.mod_lt _ (by decide)
  generalize k % Ver.zero.arr.size = q at h3
  have : q = 0 ∨ q = 1 ∨ q = 2 ∨ q = 3 ∨ q = 4 ∨ q = 5 ∨ q = 6 := by omega
  rcases this with rfl | rfl | rfl | rfl | rfl | rfl | rfl <;> rfl
theorem vzc_len (n : Nat) : (Builtin.zeroCells Ver.zero.arr n).toList.length = n * 7 := by
  rw [Array.length_toList, size_zeroCells]; rfl
/-- clear of a part of a row of versions. -/
theorem run_clear_vers (w : World) (ty : TypeId) (g o n c : Nat) (cur : Array Value) (ct : TypeId) (hn : 0 < n) (hg : w.heap[g]? = some (.cells cur ct (0, 0))) (hfit : o + n * 7 ≤ cur.size) :
    (Builtin.clear_ #[41] ty #[.slice (some ⟨g, o, none⟩) n c]).run Tryz.prog w = .ok (.tuple #[]) (w.setRow g (cur.toList.take o ++ (Builtin.zeroCells Ver.zero.arr n).toList ++ cur.toList.drop (o + n * 7)).toArray) := by
  have hz : ∀ w, (zeroValue 45).run Tryz.prog w = .ok (.agg Ver.zero.arr) w := fun w => Tryz.zeroValue45 w
  have hst := run_storeCells_at Tryz.prog g o ct (Builtin.zeroCells Ver.zero.arr n).toList 0 cur w hg (by rw [vzc_len]; simpa using hfit) (vzc_one n)
  simp only [Nat.add_zero, vzc_len] at hst
  obtain ⟨m, rfl⟩ : ∃ m, n = m + 1 := ⟨n - 1, by omega⟩
  have hc : (Value.agg Ver.zero.arr).cells = Ver.zero.arr := rfl
  simp [Builtin.clear_, run_underlying Tryz.underlying41, hz, hc, hst]
theorem flatV_take (l : List Ver) (k : Nat) : (flatV l).take (k * 7) = flatV (l.take k) := by
  induction l generalizing k with
  | nil => simp [flatV]
  | cons a l ih =>
    cases k with
    | zero => simp [flatV]
    | succ k =>
      rw [flatV_cons, List.take_succ_cons, flatV_cons, List.take_append, cells_len, show (k + 1) * 7 - 7 = k * 7 by omega, ih, List.take_of_length_le (by rw [cells_len]; omega)]
/-- The end of a row is cleared, and cut off. -/
theorem clear_own {w : World} {B g n c k : Nat} {l : List Ver} (h : w.ownsRow B 45 7 (.slice (some ⟨g, 0, none⟩) n c) n (flatV l)) (hn : n = l.length) (hk : k < n) :
    ∃ w2, (∀ ty cc, (Builtin.clear_ #[41] ty #[.slice (some ⟨g, k * 7, none⟩) (n - k) cc]).run Tryz.prog w = .ok (.tuple #[]) w2) ∧ w2.ownsRow B 45 7 (.slice (some ⟨g, 0, none⟩) k c) k (flatV (l.take k)) ∧ (∀ D w0, B ≤ D → D ≤ g → Below B w0 w → Below B w0 w2) := by
  obtain ⟨h1, h2⟩ := h
  rcases h2 with ⟨h0, _⟩ | ⟨g', c', cur, hv, hB, hg, hnc, hcm, hcs, htk⟩
  · cases h0
  · injection hv with e1 e2 e3
    injection e1 with e1
    injection e1 with e1
    subst e1 e3
    refine ⟨_, fun ty cc => run_clear_vers w ty g (k * 7) (n - k) cc cur 45 (by omega) hg (by omega), ⟨by rw [flatV_len, List.length_take]; omega, .inr ⟨g, c, _, rfl, hB, setRow_heap w g cur _ 45 _ hg, by omega, hcm, ?_, ?_⟩⟩, fun D w0 hD hDg hb => below_row hb hB _⟩
    · rw [List.size_toArray]
      have hz := vzc_len (n - k)
      rw [Array.length_toList] at hz
      simp only [List.length_append, List.length_take, List.length_drop, Array.length_toList]
      omega
    · rw [List.append_assoc, List.take_append_of_le_length (by rw [List.length_take, Array.length_toList]; omega), List.take_take, Nat.min_self, ← flatV_take, ← htk, List.take_take, Nat.min_eq_left (by omega)]

/-- A row of n versions of the call's own. -/
def RowN (B g n cap : Nat) (l : List Ver) (w : World) : Prop := w.ownsRow B 45 7 (.slice (some ⟨g, 0, none⟩) n cap) n (flatV l)
theorem rown_cell {B g n cap : Nat} {l : List Ver} {w : World} (h : RowN B g n cap l w) (hn : l.length = n) (j : Nat) (v : Ver) (hj : l[j]? = some v) :
    w.cell? ⟨g, j * 7, none⟩ = some (.int .i64 v.n0) ∧ w.cell? ⟨g, j * 7 + 1, none⟩ = some (.int .i64 v.n1) ∧ w.cell? ⟨g, j * 7 + 2, none⟩ = some (.int .i64 v.n2) ∧ w.cell? ⟨g, j * 7 + 3, none⟩ = some (.int .i64 v.n3) ∧ w.cell? ⟨g, j * 7 + 4, none⟩ = some (.int .i64 v.many) ∧ w.cell? ⟨g, j * 7 + 5, none⟩ = some (.string v.tag) ∧ w.cell? ⟨g, j * 7 + 6, none⟩ = some (.int .i64 v.step) := by
  subst hn
  exact row_cell h j v hj
theorem rown_set {B g n cap : Nat} {l : List Ver} {w : World} (h : RowN B g n cap l w) (hn : l.length = n) (j : Nat) (v : Ver) (hj : j < n) : RowN B g n cap (l.set j v) (set7 w g j v) := by
  subst hn
  have := row_set (show RowV B g cap l w from h) j v hj
  unfold RowV at this
  rw [List.length_set] at this
  exact this
theorem own_room {w : World} {B g n c : Nat} {xs : List Value} (h : w.ownsRow B 45 7 (.slice (some ⟨g, 0, none⟩) n c) n xs) : n ≤ c ∧ c ≤ maxLen := by
  rcases h.2 with ⟨h0, _⟩ | ⟨g', c', cur, hv, hB, hg, hnc, hcm, _⟩
  · cases h0
  · cases hv
    exact ⟨hnc, hcm⟩
theorem take_set_one {l : List Ver} {i : Nat} {u : Ver} (h : i < l.length) : (l.set i u).take (i + 1) = l.take i ++ [u] := by
  rw [take_last (v := u) (by rw [List.getElem?_set_self h]), List.take_set_of_le (Nat.le_refl _)]

def DelR (B : Nat) (a : Option Addr) (c : Nat) (l : List Ver) (w0 : World) (e : Ending) (w' : World) : Prop :=
  e = .returned (.slice a l.length c) ∧ w'.ownsRow B 45 7 (.slice a l.length c) l.length (flatV l) ∧ Below B w0 w'

theorem filter_all {p : Ver → Bool} {l : List Ver} (h : ∀ v ∈ l, p v = false) : l.filter (fun v => !p v) = l := List.filter_eq_self.2 fun v hv => by rw [h v hv]; rfl
theorem filter_snoc {p : Ver → Bool} {l : List Ver} {k : Nat} {v : Ver} (h : l[k]? = some v) : (l.take (k + 1)).filter (fun v => !p v) = (l.take k).filter (fun v => !p v) ++ (if p v = true then [] else [v]) := by
  rw [take_last h, List.filter_append]
  cases hv : p v <;> simp [hv]

set_option maxRecDepth 100000 in
set_option maxHeartbeats 8000000 in
theorem vdelete_any (p : Ver → Bool) (l : List Ver) (a : Option Addr) (n c gs : Nat) (w0 w : World) (hn : n = l.length) (ho : w.ownsRow w0.heap.size 45 7 (.slice a n c) n (flatV l)) (hb0 : Below w0.heap.size w0 w) (hp : DelA p gs w0) :
    Calls Tryz.prog 48 #[.slice a n c, .func (.func 50) #[] #[.pointer (some ⟨gs, 0, none⟩)]] w (DelR w0.heap.size a c (l.filter fun v => !p v) w0) := by
  have HI := Lib.hid (vindex_any p l (.slice a n c) gs w (by rw [hn] at ho ⊢; exact RdV.of_own ho) (fun v W hb => hp v W (bch hb0 hb)))
  have HO := Lib.hid ho
  have HB := Lib.hid hb0
  have HN := Lib.hid hn
  have HP := Lib.hid hp
  clear ho hb0 hn hp
  go_enter Tryz.func48, Tryz.ntmps48
  go_wp2_with fail
  refine HI.out.mono ?_
  rintro e w1 ⟨hb, ⟨rfl, hall⟩ | ⟨k, v, rfl, hkv, hpv, hfew⟩⟩
  · have HA := Lib.hid (filter_all hall)
    have HO1 := Lib.hid (owns_below HO.out hb)
    have HB1 := Lib.hid (bch HB.out hb)
    clear HI HO HB hall hb HP
    go_wp2_with fail
    go_ret
    unfold DelR
    rw [HA.out, ← HN.out]
    exact ⟨rfl, HO1.out, HB1.out⟩
  · obtain ⟨g, rfl⟩ : ∃ g, a = some ⟨g, 0, none⟩ := by
      rcases HO.out.2 with ⟨h0, hz⟩ | ⟨g', c', cur, hv, _⟩
      · have := (List.getElem?_eq_some_iff.1 hkv).1
        have := HN.out
        omega
      · injection hv with e1
        exact ⟨g', e1⟩
    have hk : k < n := by have := (List.getElem?_eq_some_iff.1 hkv).1; have := HN.out; omega
    have HF0 : Hid ((l.take (k + 1)).filter (fun v => !p v) = l.take k) := Lib.hid (by
      rw [filter_snoc hkv, hpv, if_pos rfl, List.append_nil]
      refine List.filter_eq_self.2 fun u hu => ?_
      obtain ⟨j, hj⟩ := List.mem_iff_getElem?.1 hu
      rw [List.getElem?_take] at hj
      split at hj
      · rw [hfew j u (by assumption) hj]; rfl
      · cases hj)
    have HO1 := Lib.hid (owns_below HO.out hb)
    have HB1 := Lib.hid (bch HB.out hb)
    obtain ⟨hnc, hcm⟩ := own_room HO.out
    have HGB : Hid (w0.heap.size ≤ g) := Lib.hid (HO.out.lt g rfl).1
    have k3 : IntKind.i64.wrap ((k : Int) + 1) = (k : Int) + 1 := IntWalk.i64_in _ (by unfold maxLen at hcm; omega)
    have k5 : ¬ ((k : Int) = -1) := by omega
    have k6 : ((k : Int) == -1) = false := by simp
    unfold maxLen at hcm
    clear HI HO HB hb hkv hpv hfew
    go_wp2_with fail
    go_loopw [5, 6] (fun vi vj W => ∃ (i j : Nat) (l' : List Ver), vi = .int .i64 i ∧ vj = .int .i64 j ∧ i < j ∧ j ≤ n ∧ Hid (l'.length = n) ∧ Hid (l'.take i = (l.take j).filter fun v => !p v) ∧ Hid (∀ t, j ≤ t → l'[t]? = l[t]?) ∧ Hid (RowN w0.heap.size g n c l' W) ∧ Hid (Below w0.heap.size w0 W)) (fun _ vj _ => n - (Lib.intOf vj).toNat)
    case atStart => exact ⟨k, k + 1, l, rfl, by go_num, by omega, by omega, Lib.hid HN.out.symm, Lib.hid HF0.out.symm, Lib.hid (fun _ _ => rfl), HO1, HB1⟩
    case round =>
      clear HO1 HB1 HF0
      obtain ⟨i, j, l', rfl, rfl, hij, hjn, HL, HT, HE, HR, HB⟩ := hrel
      obtain ⟨wq, hwq⟩ : ∃ q, q = wr := ⟨_, rfl⟩
      rw [← hwq] at HR HB ⊢
      clear hwq
      by_cases hlt : j < n
      · obtain ⟨u, hu⟩ : ∃ v, l[j]? = some v := ⟨_, List.getElem?_eq_getElem (by have := HN.out; omega)⟩
        obtain ⟨r0, r1, r2, r3, r4, r5, r6⟩ := rown_cell HR.out HL.out j u ((HE.out j (Nat.le_refl _)).trans hu)
        have j1 : (j : Int) < (n : Int) := by omega
        have j2 : (0 : Int) ≤ (j : Int) := by omega
        have j4 : IntKind.i64.wrap ((j : Int) + 1) = (j : Int) + 1 := IntWalk.i64_in _ (by omega)
        have i1 : (i : Int) < (n : Int) := by omega
        have i2 : (0 : Int) ≤ (i : Int) := by omega
        have i4 : IntKind.i64.wrap ((i : Int) + 1) = (i : Int) + 1 := IntWalk.i64_in _ (by omega)
        have HU := Lib.hid hu
        have X0 : Hid (Box (wq.alloc (.cells Ver.zero.arr 45)) wq.heap.size 45 Ver.zero.arr) := Lib.hid box_new
        obtain ⟨w2, hw2⟩ : ∃ q, q = (wq.alloc (.cells Ver.zero.arr 45)).setRow wq.heap.size u.arr := ⟨_, rfl⟩
        have X2 : Hid (Box w2 wq.heap.size 45 u.arr) := Lib.hid (by rw [hw2]; exact X0.out.row _)
        have b2 : Below wq.heap.size wq w2 := by rw [hw2]; exact below_row ((Below.refl _ _).alloc (Nat.le_refl _) _) (Nat.le_refl _) _
        have B2 : Hid (Below w0.heap.size w0 w2) := Lib.hid (bch HB.out b2)
        have R2 : Hid (RowN w0.heap.size g n c l' w2) := Lib.hid (owns_below HR.out b2)
        obtain ⟨ok, hok⟩ : ∃ ok, ok = p u := ⟨_, rfl⟩
        have HT2 : Hid (DelF u ok gs w2) := Lib.hid (by rw [hok]; exact HP.out u w2 B2.out)
        have HOK := Lib.hid hok
        clear b2 hok hu
        go_upto_region 8 with (first
          | (with_reducible refine wpList_zero rfl 45 rfl Ver.zero.arr zero26 ?_)
          | (refine wpList_store_row rfl 45 (.tmp 7) (.tmp 25) rfl wq.heap.size u.arr rfl rfl 45 _ X0.out (info26 _) rfl (arr_one _) ?_))
        rw [← hw2]
        obtain ⟨g7, hg7⟩ : ∃ q, q = wq.heap.size := ⟨_, rfl⟩
        rw [← hg7] at X2 ⊢
        clear hw2 hg7 X0 r0 r1 r2 r3 r4 r5 r6 HR HB
        go_wp2_with (refine wpList_load_row rfl 45 (.tmp 7) rfl g7 rfl 45 u.arr (0, 0) _ X2.out Tryz.underlying45 rfl (info26 _) ?_)
        refine (HT2.out).mono ?_
        rintro e w3 ⟨rfl, hb⟩
        have X3 := Lib.hid (X2.out.on hb)
        have B3 := Lib.hid (bch B2.out hb)
        have R3 : Hid (RowN w0.heap.size g n c l' w3) := Lib.hid (owns_below R2.out hb)
        clear X2 B2 R2 HT2 hb
        cases ok with
        | true =>
          have HS2 : Hid ((l.take (j + 1)).filter (fun v => !p v) = (l.take j).filter fun v => !p v) := Lib.hid (by rw [filter_snoc HU.out, ← HOK.out]; simp)
          clear HOK X3
          go_wp2_with fail
          go_roundw
          case rel => exact ⟨i, j + 1, l', rfl, by go_num, by omega, hlt, HL, Lib.hid (by rw [HS2.out]; exact HT.out), Lib.hid (fun t ht => HE.out t (by omega)), R3, B3⟩
          case measure => simp [Lib.intOf]; omega
        | false =>
          have HS2 : Hid ((l.take (j + 1)).filter (fun v => !p v) = ((l.take j).filter fun v => !p v) ++ [u]) := Lib.hid (by rw [filter_snoc HU.out, ← HOK.out]; simp)
          obtain ⟨z, hz⟩ : ∃ v, l'[i]? = some v := ⟨_, List.getElem?_eq_getElem (by have := HL.out; omega)⟩
          obtain ⟨d0, d1, d2, d3, d4, d5, d6⟩ := rown_cell R3.out HL.out i z hz
          obtain ⟨c0, c1, c2, c3, c4, c5, c6⟩ := X3.out.ver
          have f1 : ∀ r, w3.frozen? ⟨g, r, none⟩ = false := fun r => R3.out.frozenAt r
          obtain ⟨w4, hw4⟩ : ∃ q, q = set7 w3 g i u := ⟨_, rfl⟩
          have R4 : Hid (RowN w0.heap.size g n c (l'.set i u) w4) := Lib.hid (by rw [hw4]; exact rown_set R3.out HL.out i u (by omega))
          have B4 : Hid (Below w0.heap.size w0 w4) := Lib.hid (by rw [hw4]; exact set7_below B3.out HGB.out i u)
          unfold set7 at hw4
          clear HOK X3 hz R3 B3
          go_upto_region 10 with fail
          rw [← hw4]
          clear hw4 c0 c1 c2 c3 c4 c5 c6 d0 d1 d2 d3 d4 d5 d6 f1
          go_wp2_with fail
          go_roundw
          case rel => exact ⟨i + 1, j + 1, l'.set i u, by go_num, by go_num, by omega, hlt, Lib.hid (by rw [List.length_set]; exact HL.out), Lib.hid (by rw [HS2.out, take_set_one (by have := HL.out; omega), HT.out]), Lib.hid (fun t ht => by rw [List.getElem?_set_ne (by omega)]; exact HE.out t (by omega)), R4, B4⟩
          case measure => simp [Lib.intOf]; omega
      · have j1 : ¬ ((j : Int) < (n : Int)) := by omega
        have i1 : (i : Int) ≤ (n : Int) := by omega
        have i2 : (0 : Int) ≤ (i : Int) := by omega
        have i3 : (i : Int) ≤ (c : Int) := by omega
        have i5 : ¬ (c = i) := by omega
        obtain ⟨w2, hcl, hown, hbl⟩ := clear_own (k := i) HR.out HL.out.symm (by omega)
        have HCL := Lib.hid hcl
        have HFIN : Hid (l.filter (fun v => !p v) = l'.take i ∧ (l.filter fun v => !p v).length = i) := Lib.hid (by
          have e : l.take j = l := List.take_of_length_le (by have := HN.out; omega)
          have h := HT.out
          rw [e] at h
          exact ⟨h.symm, by rw [← h, List.length_take]; have := HL.out; omega⟩)
        have HOW := Lib.hid hown
        have HBL := Lib.hid (hbl _ _ (Nat.le_refl _) HGB.out HB.out)
        clear hcl hown hbl HR HB HT HE
        go_wp2_with (rw [HCL.out])
        go_ret
        unfold DelR
        rw [HFIN.out.2, HFIN.out.1]
        exact ⟨rfl, HOW.out, HBL.out⟩
end Go.Proofs.YtlfehjjnepiljaaGreatDoor
