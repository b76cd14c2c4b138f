/- Proved here: Sort of package version at a row of at most twelve versions: those that may be, in order. -/
import Derived.Test.YtjekibhaabkecaaDoorSortV
namespace Go.Proofs.YtjekibhaabkecaaDoor
open Go.RowKit Go.Shelf

set_option maxHeartbeats 1000000 in
theorem ins_nil (w : World) : Calls Tryd.prog 58 #[.slice none 0 0, .int .i64 0, .int .i64 0, .func (.func 33) #[] #[]] w fun e w' => e = .returned (.tuple #[]) ∧ w = w' := by
  go_enter Tryd.func58, Tryd.ntmps58
  go_wp2
  refine wp_loop_rounds 1 ?_
  rw [rounds_succ]
  go_wp2
  go_end0
  exact ⟨rfl, rfl⟩
set_option maxHeartbeats 1000000 in
theorem pdq_nil (lim : Int) (w : World) : Calls Tryd.prog 48 #[.slice none 0 0, .int .i64 0, .int .i64 0, .int .i64 lim, .func (.func 33) #[] #[]] w fun e w' => e = .returned (.tuple #[]) ∧ w = w' := by
  go_enter Tryd.func48, Tryd.ntmps48
  go_wp2
  refine wp_loop_rounds 1 ?_
  rw [rounds_succ]
  go_wp2_with (go_at_call 58; refine (ins_nil _).mono ?_; rintro e w' ⟨rfl, rfl⟩)
  (try simp only [Exit.inBlock, Exit.then])
  exact bodyPost_ret (results_none rfl _ _ _) rfl ⟨rfl, rfl⟩
set_option maxHeartbeats 1000000 in
theorem sort_nil (w : World) : Calls Tryd.prog 35 #[.slice none 0 0, .func (.func 33) #[] #[]] w fun e w' => e = .returned (.tuple #[]) ∧ w = w' := by
  have HL : Hid (∀ W, Calls Tryd.prog 49 #[.int .u64 0] W fun e w' => (∃ v : Int, e = .returned (.int .i64 v)) ∧ W = w') := Lib.hid (fun W => (bits_Len 0 W (by omega) (by omega)).mono fun _ _ ⟨he, hw⟩ => ⟨⟨_, he⟩, hw.symm⟩)
  go_enter Tryd.func35, Tryd.ntmps35
  go_wp2_with (first | (go_at_call 49; refine (HL.out _).mono ?_; rintro e w' ⟨⟨v, rfl⟩, rfl⟩) | (go_at_call 48; refine (pdq_nil _ _).mono ?_; rintro e w' ⟨rfl, rfl⟩))
  go_end0
  exact ⟨rfl, rfl⟩

/-- Those that may be. -/
def okV (l : List Ver) : List Ver := l.filter (·.ok)
theorem okV_snoc {l : List Ver} {k : Nat} {v : Ver} (h : l[k]? = some v) : okV (l.take (k + 1)) = okV (l.take k) ++ (if v.ok = true then [v] else []) := by
  unfold okV
  rw [List.take_add_one, h, List.filter_append]
  cases ho : v.ok <;> simp [ho]
theorem okV_len (l : List Ver) (k : Nat) : (okV (l.take k)).length ≤ k := Nat.le_trans (List.length_filter_le _ _) (by rw [List.length_take]; omega)

def SortR (l : List Ver) (w : World) (e : Ending) (w' : World) : Prop := ∃ (x : Value) (r : List Ver), e = .returned x ∧ r.Perm (okV l) ∧ SortedP r ∧ w'.ownsRow w.heap.size 26 7 x r.length (flatV r) ∧ Below w.heap.size w w'
theorem grow_snoc {w : World} {B : Nat} {x : Value} {r : List Ver} {v : Ver} {n : Nat} (h : w.ownsRow B 26 7 x n (flatV r ++ v.cells)) (hn : n = r.length + 1) : w.ownsRow B 26 7 x (r ++ [v]).length (flatV (r ++ [v])) := by
  rw [flatV_append, List.length_append, List.length_singleton, ← hn]
  have e : flatV [v] = v.cells := by unfold flatV; simp
  rw [e]
  exact h

theorem own_form {w : World} {B n : Nat} {x : Value} {xs : List Value} (h : w.ownsRow B 26 7 x n xs) : ∃ a c, x = .slice a n c := by
  rcases h.2 with ⟨rfl, h0⟩ | ⟨g, cap, _, rfl, _⟩
  · exact ⟨none, 0, by rw [h0]⟩
  · exact ⟨_, _, rfl⟩
theorem own_low {w : World} {B n : Nat} {x : Value} {xs : List Value} (h : w.ownsRow B 26 7 x n xs) : ∀ k, x.ownBlock = some k → B ≤ k := by
  intro k hk
  rcases h.2 with ⟨rfl, _⟩ | ⟨g, cap, _, rfl, hg, _⟩
  · simp [Value.ownBlock] at hk
  · simp [Value.ownBlock] at hk
    omega

set_option maxRecDepth 100000 in
set_option maxHeartbeats 4000000 in
theorem vsort_any (l : List Ver) (x : Value) (w : World) (hx : RdV w x l) (hl : l.length ≤ 12) : Calls Tryd.prog 25 #[x] w (SortR l w) := by
  obtain ⟨a, c, rfl, hlc, hcm, hcell⟩ := hx
  obtain ⟨i0, hi, hz0, hz1, hz2⟩ := info_parts info26z
  have HC := Lib.hid hcell
  obtain ⟨n, hn⟩ : ∃ n, n = l.length := ⟨_, rfl⟩
  rw [← hn] at hlc HC hl ⊢
  have HN := Lib.hid hn
  unfold maxLen at hcm
  clear hn hcell
  go_enter Tryd.func25, Tryd.ntmps25
  go_wp2_with fail
  go_loopw [3, 5, 8, 9, 10, 11, 12, 13, 14, 15, 16, 17, 18] (fun r _ i _ _ _ _ _ _ _ _ _ _ W => ∃ k : Nat, k ≤ n ∧ i = .int .i64 k ∧ Hid (W.ownsRow w.heap.size 26 7 r (okV (l.take k)).length (flatV (okV (l.take k)))) ∧ Hid (okV (l.take k) = [] → r = .slice none 0 0) ∧ Hid (Below w.heap.size w W)) (fun _ _ i _ _ _ _ _ _ _ _ _ _ _ => n - (Lib.intOf i).toNat)
  case atStart => exact ⟨0, Nat.zero_le _, rfl, Lib.hid (World.ownsRow_nil _ _ _ _), Lib.hid (fun _ => rfl), Lib.hid (Below.refl _ _)⟩
  case round =>
    obtain ⟨k, hk, rfl, HR, HNIL, HB⟩ := hrel
    obtain ⟨wq, hwq⟩ : ∃ q, q = wr := ⟨_, rfl⟩
    rw [← hwq] at HR HB ⊢
    clear hwq
    by_cases hlt : k < n
    · obtain ⟨v, hv⟩ : ∃ v, l[k]? = some v := ⟨_, List.getElem?_eq_getElem (by have := HN.out; omega)⟩
      obtain ⟨g, o, rfl, hg, hc⟩ := HC.out (by omega)
      obtain ⟨q0, q1, q2, q3, q4, q5, q6⟩ := hc k v hv
      have r0 := (HB.out.cell (p := ⟨g, _, none⟩) hg).trans q0
      have r1 := (HB.out.cell (p := ⟨g, _, none⟩) hg).trans q1
      have r2 := (HB.out.cell (p := ⟨g, _, none⟩) hg).trans q2
      have r3 := (HB.out.cell (p := ⟨g, _, none⟩) hg).trans q3
      have r4 := (HB.out.cell (p := ⟨g, _, none⟩) hg).trans q4
      have r5 := (HB.out.cell (p := ⟨g, _, none⟩) hg).trans q5
      have r6 := (HB.out.cell (p := ⟨g, _, none⟩) hg).trans q6
      have k1 : (k : Int) < (n : Int) := by omega
      have k2 : (0 : Int) ≤ (k : Int) := by omega
      have k4 : IntKind.i64.wrap ((k : Int) + 1) = (k : Int) + 1 := IntWalk.i64_in _ (by omega)
      have HS := Lib.hid (okV_snoc hv)
      have hml := okV_len l k
      clear q0 q1 q2 q3 q4 q5 q6 hc hv
      have X0 : Hid (Box (wq.alloc (.cells Ver.zero.arr 26)) wq.heap.size 26 Ver.zero.arr) := Lib.hid box_new
      obtain ⟨w2, hw2⟩ : ∃ q, q = (wq.alloc (.cells Ver.zero.arr 26)).setRow wq.heap.size v.arr := ⟨_, rfl⟩
      have X2 : Hid (Box w2 wq.heap.size 26 v.arr) := Lib.hid (by rw [hw2]; exact X0.out.row _)
      have b2 : Below wq.heap.size wq w2 := by rw [hw2]; exact below_row ((Below.refl _ _).alloc (Nat.le_refl _) _) (Nat.le_refl _) _
      have B2 : Hid (Below w.heap.size w w2) := Lib.hid (bch HB.out b2)
      have R2 := Lib.hid (owns_below HR.out b2)
      obtain ⟨ok, hok⟩ : ∃ ok, ok = v.ok := ⟨_, rfl⟩
      have HT := Lib.hid (tells_of hok)
      have HOK := Lib.hid hok
      have hgq := HB.out.size
      clear b2 hok
      go_upto_region 5 with (first
        | (with_reducible refine wpList_zero rfl 26 rfl Ver.zero.arr zero26 ?_)
        | (refine wpList_store_row rfl 26 (.tmp 5) (.tmp 11) rfl wq.heap.size v.arr rfl rfl 26 _ X0.out (info26 _) rfl (arr_one _) ?_))
      rw [← hw2]
      clear hw2 X0 r0 r1 r2 r3 r4 r5 r6 HR HB
      go_wp2_with (refine wpList_load_row rfl 26 (.tmp 5) rfl wq.heap.size rfl 26 v.arr (0, 0) _ X2.out Tryd.underlying26 rfl (info26 _) ?_)
      refine (HT.out _).mono ?_
      rintro e w3 ⟨rfl, hb⟩
      have X3 := Lib.hid (X2.out.on hb)
      have B3 := Lib.hid (bch B2.out hb)
      have R3 := Lib.hid (owns_below R2.out hb)
      clear X2 B2 R2 HT hb
      cases ok with
      | false =>
        have HS2 : Hid (okV (l.take (k + 1)) = okV (l.take k)) := Lib.hid (by rw [HS.out, ← HOK.out]; simp)
        clear HS HOK X3
        go_wp2_with fail
        go_roundw
        case rel => exact ⟨k + 1, hlt, by go_num, by rw [HS2.out]; exact R3, by rw [HS2.out]; exact HNIL, B3⟩
        case measure => simp [Lib.intOf]; omega
      | true =>
        have HS2 : Hid (okV (l.take (k + 1)) = okV (l.take k) ++ [v]) := Lib.hid (by rw [HS.out, ← HOK.out]; simp)
        obtain ⟨r, hr⟩ : ∃ r, r = okV (l.take k) := ⟨_, rfl⟩
        rw [← hr] at R3 hml HS2
        have hml12 : r.length ≤ 12 := by omega
        have hfl := flatV_len r
        obtain ⟨ao, cp, rfl⟩ := own_form R3.out
        have HLOW := Lib.hid (own_low R3.out)
        have HNW : Hid (∀ (j : Nat) (u : Value), v.cells[j]? = some u → (w3.alloc (.cells #[.int .i64 v.n0, .int .i64 v.n1, .int .i64 v.n2, .int .i64 v.n3, .int .i64 v.many, .string v.tag, .int .i64 v.step] 26)).cell? ((⟨w3.heap.size, 0, none⟩ : Addr).add j) = some u) := Lib.hid (fun j u hu => by
          rw [add_to, Nat.zero_add, World.cell?_alloc_new]
          show (Ver.arr v)[j]? = some u
          rw [← Array.getElem?_toList]
          exact hu)
        have c0 := X3.out.ver.c0
        have c1 := X3.out.ver.c1
        have c2 := X3.out.ver.c2
        have c3 := X3.out.ver.c3
        have c4 := X3.out.ver.c4
        have c5 := X3.out.ver.c5
        have c6 := X3.out.ver.c6
        have hsz3 := B3.out.size
        clear HS HOK hr X3
        go_wp2_with (at_builtin; refine wpList_append_own _ rfl _ _ 33 rfl w.heap.size 26 i0 (.agg Ver.zero.arr) 7 64 Tryd.underlying33 hi hz0 hz1 hz2 rfl (by decide) _ _ _ rfl (R3.out.alloc _) ⟨w3.heap.size, 0, none⟩ 1 1 v.cells rfl rfl HNW.out (ver_one v) (by unfold maxLen; omega) (by omega) (by simp; omega) ?_; intro v' w4 hown' hgrow _; have HO := Lib.hid hown'; have HG := Lib.hid hgrow; clear hown' hgrow)
        go_roundw
        case rel => exact ⟨k + 1, hlt, by go_num, by rw [HS2.out]; exact Lib.hid (grow_snoc HO.out rfl), Lib.hid (fun h => by rw [HS2.out] at h; simp at h), Lib.hid ((B3.out.alloc hsz3 _).grown HG.out (by simp; omega) HLOW.out)⟩
        case measure => simp [Lib.intOf]; omega
    · have hke : k = n := by omega
      have HF : Hid (okV (l.take k) = okV l) := Lib.hid (by rw [List.take_of_length_le (by have := HN.out; omega)])
      rw [HF.out] at HR
      have hlo : (okV l).length ≤ 12 := by
        have := List.length_filter_le (·.ok) l
        unfold okV
        have := HN.out
        omega
      have k1 : ¬ ((k : Int) < (n : Int)) := by omega
      obtain ⟨r, hr⟩ : ∃ r, r = okV l := ⟨_, rfl⟩
      rw [← hr] at HR hlo
      have HRR := Lib.hid hr
      clear hke hlt hr
      cases r with
      | nil =>
        have h0 : u3 = .slice none 0 0 := HNIL.out (by rw [HF.out, ← HRR.out])
        subst h0
        go_wp2_with (go_at_call 35; refine (sort_nil _).mono ?_; rintro e w' ⟨rfl, rfl⟩)
        go_ret
        exact ⟨_, [], rfl, by rw [← HRR.out], List.Pairwise.nil, World.ownsRow_nil _ _ _ _, HB.out⟩
      | cons v0 r0 =>
        obtain ⟨r, hr⟩ : ∃ r, r = v0 :: r0 := ⟨_, rfl⟩
        have hpos : 0 < r.length := by rw [hr]; simp
        rw [← hr] at HR HRR hlo
        obtain ⟨g, cap, rfl⟩ : ∃ g cap, u3 = .slice (some ⟨g, 0, none⟩) r.length cap := by
          rcases HR.out.2 with ⟨_, h0⟩ | ⟨g, cap, _, h1, _⟩
          · omega
          · exact ⟨g, cap, h1⟩
        have HSO := Lib.hid (sort_some w.heap.size g r.length cap r wq rfl hlo HR.out HB.out.size)
        clear hr hpos HNIL HF
        go_wp2_with (go_at_call 35; refine HSO.out.mono ?_; rintro e w' ⟨rfl, hl'⟩; have HX := Lib.hid hl'; clear hl')
        obtain ⟨q, h1, h2, h3, h4⟩ := HX.out
        go_ret
        refine ⟨_, q, rfl, ?_, h2, ?_, ?_⟩
        · rw [← HRR.out]; exact h1
        · have := h1.length_eq
          unfold RowV at h3
          rw [this] at h3 ⊢
          exact h3
        · exact HB.out.trans h4
end Go.Proofs.YtjekibhaabkecaaDoor
