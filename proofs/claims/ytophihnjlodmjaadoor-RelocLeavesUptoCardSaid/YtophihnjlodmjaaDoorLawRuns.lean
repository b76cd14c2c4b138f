/- Proved here: 'runs' of the laws of package reloc: the places of a prefix, in the bytes as they are, or between noughts. -/
import Derived.Test.YtophihnjlodmjaaDoorPieces
import Derived.Test.YtophihnjlodmjaaDoorPlaces
import Derived.Test.YtophihnjlodmjaaDoorRefM
namespace Go.Proofs.YtophihnjlodmjaaDoor
open Go.RowKit Go.Shelf
attribute [local go_sem] Oper.semAt_some

/-- The places that the law's runs tells. -/
def lrunsL (p l : Bs) : List Nat := if 0 ∈ l then splA p 0 (zpcs l) else plcs p l
/-- How long pieces are, a nought behind each. -/
def sumP : List Bs → Nat
  | [] => 0
  | r :: t => r.length + 1 + sumP t
theorem sumP_zpcs : ∀ l : Bs, sumP (zpcs l) = l.length + 1
  | [] => rfl
  | c :: l => by
    have ih := sumP_zpcs l
    rw [zpcs]
    by_cases h : c = 0
    · rw [if_pos h]; simp only [sumP, List.length_nil, List.length_cons]; omega
    · rw [if_neg h]
      obtain ⟨r, t, e⟩ := zpcs_ne l
      rw [e] at ih ⊢
      simp only [sumP, List.length_cons] at ih ⊢
      omega
theorem gaps_mem {n L : Nat} : ∀ {ps : List Nat} {d : Nat}, Gaps n L d ps → ∀ x ∈ ps, x ≤ L := by
  intro ps
  induction ps with
  | nil => intro d _ x hx; cases hx
  | cons i ps ih =>
    intro d h x hx
    obtain ⟨h1, h2, h3⟩ := h
    rcases List.mem_cons.1 hx with e | e
    · omega
    · exact ih h3 x e
def LRunsR (p l : Bs) (w : World) (e : Ending) (w' : World) : Prop := ∃ v, e = .returned v ∧ w'.ownsRow w.heap.size 3 1 v (lrunsL p l).length (natsV (lrunsL p l)) ∧ Below w.heap.size w w'

set_option maxRecDepth 100000 in
set_option maxHeartbeats 4000000 in
theorem lruns_any (l p : Bs) (hok : okB p = true) (hl : l.length ≤ 1000000) (m : Int) (w : World) (hm : w.cell? ⟨0, 0, none⟩ = some (.int .i64 m)) : Calls Tryd.prog 26 #[.string ⟨l.toArray⟩, .string ⟨p.toArray⟩] w (LRunsR p l w) := by
  have hpl : p.length ≤ 60 := ((okB_iff p).1 hok).2.1
  have hp1 : 1 ≤ p.length := ((okB_iff p).1 hok).1
  have HPP : Hid (∀ r, placesL p r = plcs p r) := Lib.hid (fun r => by unfold placesL; rw [if_pos hok])
  have HBI := Lib.hid (bin_any l w)
  by_cases h0 : 0 ∈ l
  · have HB : Hid (binB l = true) := Lib.hid (decide_eq_true h0)
    rw [HB.out] at HBI
    have HLR : Hid (lrunsL p l = splA p 0 (zpcs l)) := Lib.hid (by unfold lrunsL; rw [if_pos h0])
    obtain ⟨ps, hps⟩ : ∃ ps, ps = zpcs l := ⟨_, rfl⟩
    have HS0 : Hid (sumP ps = l.length + 1) := Lib.hid (by rw [hps]; exact sumP_zpcs l)
    obtain ⟨N, hN⟩ : ∃ N, N = ps.length := ⟨_, rfl⟩
    have hpieces := pieces_of l
    have hcnt : Lib.countB ⟨l.toArray⟩ ⟨#[0]⟩ + 1 = N := by
      have := congrArg List.length hpieces
      rw [Lib.splitB_all ⟨#[0]⟩ (by decide) 0 _ _ rfl, List.length_map, ← hps, ← hN] at this
      exact this
    obtain ⟨w1, hw1⟩ : ∃ z, z = w.alloc (.cells ((ps.map fun r => Value.string ⟨r.toArray⟩)).toArray 9) := ⟨_, rfl⟩
    have HSP : Hid (Calls Tryd.prog 42 #[.string ⟨l.toArray⟩, .string ⟨#[0]⟩] w fun e w' => e = .returned (.slice (some ⟨w.heap.size, 0, none⟩) N N) ∧ w1 = w') := Lib.hid ((Tryd.strings_Split ⟨l.toArray⟩ ⟨#[0]⟩ m w (by show l.length < _; omega) hm (by decide)).mono (by
      rintro e w' ⟨h1, h2⟩
      rw [hcnt] at h1
      refine ⟨h1, ?_⟩
      rw [h2, hpieces, hw1, ← hps, List.map_map]
      rfl))
    have hb1 : Below w.heap.size w w1 := by rw [hw1]; exact below_new _ _
    have hbx : Box w1 w.heap.size 9 ((ps.map fun r => Value.string ⟨r.toArray⟩)).toArray := by rw [hw1]; exact heap_alloc_new w _
    obtain ⟨g, hg⟩ : ∃ g, g = w.heap.size := ⟨_, rfl⟩
    rw [← hg] at hbx
    have HBX := Lib.hid hbx
    have HB1 := Lib.hid hb1
    have HG := Lib.hid hg
    have hg1 : g < w1.heap.size := (Array.getElem?_eq_some_iff.1 hbx).1
    have HPS := Lib.hid hps
    have HN := Lib.hid hN
    have hNb : N ≤ 1000001 := by
      have h9 : ∀ t : List Bs, t.length ≤ sumP t := by
        intro t
        induction t with
        | nil => exact Nat.le_refl _
        | cons r t ih => simp only [sumP, List.length_cons]; omega
      have := h9 ps
      have := HS0.out
      omega
    clear hw1 hb1 hbx hps hN hpieces hcnt h0 hok HB hg
    go_enter Tryd.func26, Tryd.ntmps26
    go_wp2_with (first
      | (go_at_call 14; refine HBI.out.mono ?_; rintro e w' ⟨rfl, rfl⟩)
      | (go_at_call 42; refine HSP.out.mono ?_; rintro e w' ⟨rfl, rfl⟩; rw [← HG.out]))
    clear HBI HSP hm
    go_loopw [5, 6, 20] (fun v at6 i wr => ∃ (k a : Nat) (L : List Nat), i = .int .i64 (k : Int) ∧ at6 = .int .i64 (a : Int) ∧ k ≤ N ∧ a ≤ 1000001 ∧ Hid (wr.ownsRow w1.heap.size 3 1 v L.length (natsV L)) ∧ Hid (Below w1.heap.size w1 wr) ∧ Hid (splA p 0 ps = L ++ splA p a (ps.drop k)) ∧ Hid (a + sumP (ps.drop k) = l.length + 1) ∧ Hid (L.length ≤ a)) (fun _ _ i _ => N - (Lib.intOf i).toNat)
    case atStart => exact ⟨0, 0, [], rfl, rfl, Nat.zero_le _, by omega, Lib.hid (World.ownsRow_nil _ _ _ _), Lib.hid (Below.refl _ _), Lib.hid (by rw [List.nil_append, List.drop_zero]), Lib.hid (by rw [List.drop_zero, HS0.out]; omega), Lib.hid (Nat.le_refl _)⟩
    case round =>
      obtain ⟨k, a, L, rfl, rfl, hk, hab, HO, HB, HE, HS, HLA⟩ := hrel
      by_cases hlt : k < N
      · have hkp : k < ps.length := by rw [← HN.out]; exact hlt
        obtain ⟨r, hr⟩ : ∃ r, r = ps[k] := ⟨_, rfl⟩
        have hdr : ps.drop k = r :: ps.drop (k + 1) := by rw [hr]; exact List.drop_eq_getElem_cons hkp
        have hs := HS.out
        rw [hdr] at hs
        simp only [sumP] at hs
        have he := HE.out
        rw [hdr, splA] at he
        obtain ⟨ls, hls⟩ : ∃ ls, ls = plcs p r := ⟨_, rfl⟩
        rw [← hls] at he
        have c0 : wr.cell? ⟨g, k, none⟩ = some (.string ⟨r.toArray⟩) := (HB.out.cell (p := ⟨g, k, none⟩) hg1).trans (HBX.out.cell (k := k) (by rw [hr]; simp [hkp]))
        have HP := Lib.hid (places_any r p (by omega) (by omega) wr)
        have hlsl : ls.length ≤ r.length := by rw [hls]; exact plcs_count p r hp1
        have hlsx : ∀ x ∈ ls, x ≤ r.length := fun x hx => by
          rw [hls] at hx
          exact gaps_mem (plcs_gaps p r) x hx
        have HLX := Lib.hid hlsx
        have HLS := Lib.hid hls
        obtain ⟨q0, hq0⟩ : ∃ q, q = r.length := ⟨_, rfl⟩
        rw [← hq0] at hs hlsl HLX
        have HQ0 := Lib.hid hq0
        have HSN : Hid (a + q0 + 1 + sumP (ps.drop (k + 1)) = l.length + 1) := Lib.hid (by omega)
        have HEN : Hid (splA p 0 ps = (L ++ ls.map (a + ·)) ++ splA p (a + q0 + 1) (ps.drop (k + 1))) := Lib.hid (by rw [he, List.append_assoc, hq0])
        have haq : a + q0 + 1 ≤ 1000001 := by omega
        obtain ⟨a5, c5, rfl⟩ := own_slice HO.out
        obtain ⟨mm, hmm⟩ : ∃ mm, mm = ls.length := ⟨_, rfl⟩
        have HMM := Lib.hid hmm
        clear hkp hr hdr hs he hls hlsx hq0
        go_wp2_with (go_at_call 17; refine HP.out.mono ?_; rintro e w2 ⟨v26, rfl, ho, hb⟩; rw [HPP.out, ← HLS.out] at ho; have HO2 := Lib.hid ho; have HB2 := Lib.hid hb; obtain ⟨a26, c26, rfl⟩ := own_slice ho; rw [← HMM.out] at HO2 ⊢; clear ho hb)
        have HL0 : Hid (L6 w1 wr [] L (.slice none 0 0) (.slice a5 L.length c5) (.slice a26 mm c26) ls w2) := Lib.hid ⟨World.ownsRow_nil _ _ _ _, owns_on HO.out HB2.out, by have := HO2.out; rw [HMM.out] at this ⊢; exact this, fun g' e e2 => by have := (own_in HO.out e).2; have := (own_in HO2.out e2).1; omega, bch HB.out HB2.out⟩
        clear HO2 HP c0
        go_loopw [5, 28] (fun v5 i wq => ∃ q : Nat, i = .int .i64 (q : Int) ∧ q ≤ mm ∧ Hid (L6 w1 wr [] (L ++ (ls.take q).map (a + ·)) (.slice none 0 0) v5 (.slice a26 mm c26) ls wq)) (fun _ i _ => mm - (Lib.intOf i).toNat)
        case atStart => exact ⟨0, rfl, Nat.zero_le _, by simpa using HL0⟩
        case round =>
          obtain ⟨q, rfl, hqm, HL⟩ := hrel
          by_cases hq : q < mm
          · have hqp : q < ls.length := by rw [← HMM.out]; exact hq
            obtain ⟨x, hx⟩ : ∃ x, x = ls[q] := ⟨_, rfl⟩
            have hxb : x ≤ 1000001 := by
              have := HLX.out x (by rw [hx]; exact List.getElem_mem hqp)
              omega
            obtain ⟨g1, o1, hg17, hg1', e1⟩ := (Rd.of_own HL.out.row).numAt hqp
            cases hg17
            rw [← hx] at e1
            obtain ⟨y, hy⟩ : ∃ y, y = a + x := ⟨_, rfl⟩
            have w6 : IntKind.i64.wrap ((a : Int) + (x : Int)) = (y : Int) := by rw [hy]; exact IntWalk.i64_in _ (by omega)
            have HTK : Hid ((ls.take (q + 1)).map (a + ·) = (ls.take q).map (a + ·) ++ [y]) := Lib.hid (by
              rw [List.take_succ_eq_append_getElem hqp, List.map_append, hy, hx]; rfl)
            obtain ⟨L', hL⟩ : ∃ L', L' = L ++ (ls.take q).map (a + ·) := ⟨_, rfl⟩
            have HLE : Hid (L' = L ++ (ls.take q).map (a + ·)) := Lib.hid hL
            rw [← hL] at HL
            obtain ⟨nL, hnL⟩ : ∃ nL, nL = L'.length := ⟨_, rfl⟩
            have HNL := Lib.hid hnL
            have HNB : Hid (nL ≤ 3000000) := Lib.hid (by
              rw [hnL, hL, List.length_append, List.length_map, List.length_take]
              have := HLA.out
              omega)
            obtain ⟨a12, c12, rfl⟩ := own_slice HL.out.all
            rw [← hnL] at HL ⊢
            have HSZ : Hid (w1.heap.size ≤ (wr.alloc (.cells #[.int .i64 (y : Int)] 3)).heap.size) := Lib.hid (by have := HL.out.low.size; simp; omega)
            have HLW := Lib.hid (HL.out.on (below_new wr (.cells #[.int .i64 (y : Int)] 3)))
            have HRD : Hid (Rd (wr.alloc (.cells #[.int .i64 (y : Int)] 3)) (.slice (some ⟨wr.heap.size, 0, none⟩) 1 1) [i64 y]) := Lib.hid (rd_one wr 3 _)
            clear hx hxb hy hL hnL hqp
            go_wp2_with (at_builtin; go_loud (refine wpList_append_at rfl (.tmp 32) (.tmp 36) 27 3 (.int .i64 0) 8 rfl Tryd.underlying27 info3 rfl w1.heap.size _ _ (natsV L') [i64 y] rfl (own_len HLW.out.all) rfl HRD.out (by simp [Value.oneCell']) HSZ.out (by rw [natsV_len, ← HNL.out]; have := HNB.out; simp only [List.length_cons, List.length_nil]; omega) (by decide) ?_; intro v' w' hown' hg' hat'; have HL2 := Lib.hid (HLW.out.more (al' := L' ++ [y]) (by rw [natsV_app, List.length_append]; rw [List.length_append, natsV_len] at hown'; exact hown') hg' hat'); clear hown' hg' hat'; refine Hid.out ?_))
            refine Lib.hid ?_
            go_wp2
            go_roundw
            case rel => exact ⟨q + 1, by go_num, hq, by rw [HTK.out, ← List.append_assoc, ← HLE.out]; exact HL2⟩
            case measure => simp [Lib.intOf]; omega
          · obtain rfl : q = mm := by omega
            have HTA : Hid (L ++ (ls.take q).map (a + ·) = L ++ ls.map (a + ·)) := Lib.hid (by rw [HMM.out, List.take_length])
            rw [HTA.out] at HL
            clear HTA
            obtain ⟨a12, c12, rfl⟩ := own_slice HL.out.all
            obtain ⟨q1, hq1⟩ : ∃ q1, q1 = q0 + 1 := ⟨_, rfl⟩
            obtain ⟨a1, ha1⟩ : ∃ a1, a1 = a + q1 := ⟨_, rfl⟩
            have w7 : IntKind.i64.wrap ((r.length : Int) + 1) = (q1 : Int) := by rw [← HQ0.out, IntWalk.i64_in _ (by omega)]; omega
            have w8 : IntKind.i64.wrap ((a : Int) + (q1 : Int)) = (a1 : Int) := by rw [IntWalk.i64_in _ (by omega)]; omega
            have HA1 : Hid (a1 = a + q0 + 1) := Lib.hid (by omega)
            clear hq1 ha1
            go_wp2
            go_roundw
            case rel => exact ⟨k + 1, a1, _, by go_num, rfl, hlt, by rw [HA1.out]; exact haq, Lib.hid HL.out.all, Lib.hid HL.out.low, by rw [HA1.out]; exact HEN, by rw [HA1.out]; exact HSN, Lib.hid (by rw [HA1.out, List.length_append, List.length_map]; have := HLA.out; omega)⟩
            case measure => simp [Lib.intOf]; omega
      · obtain rfl : k = N := by omega
        have HF : Hid (lrunsL p l = L) := Lib.hid (by rw [HLR.out, ← HPS.out, HE.out, List.drop_eq_nil_of_le (by rw [← HN.out]; exact Nat.le_refl _), splA, List.append_nil])
        obtain ⟨a5, c5, rfl⟩ := own_slice HO.out
        go_wp2
        go_ret
        exact ⟨_, rfl, by rw [HF.out]; exact own_mono HO.out HB1.out.size, bch HB1.out HB.out⟩
  · have HB : Hid (binB l = false) := Lib.hid (decide_eq_false h0)
    rw [HB.out] at HBI
    have HLR : Hid (lrunsL p l = placesL p l) := Lib.hid (by rw [HPP.out]; unfold lrunsL; rw [if_neg h0])
    have HP := Lib.hid (places_any l p (by omega) (by omega) w)
    clear h0 HB hok
    go_enter Tryd.func26, Tryd.ntmps26
    go_wp2_with (first
      | (go_at_call 14; refine HBI.out.mono ?_; rintro e w' ⟨rfl, rfl⟩)
      | (go_at_call 17; refine HP.out.mono ?_; rintro e w' ⟨v, rfl, ho, hb⟩; have HO := Lib.hid ho; have HB := Lib.hid hb; clear ho hb))
    go_ret
    exact ⟨_, rfl, by rw [HLR.out]; exact HO.out, HB.out⟩
end Go.Proofs.YtophihnjlodmjaaDoor
