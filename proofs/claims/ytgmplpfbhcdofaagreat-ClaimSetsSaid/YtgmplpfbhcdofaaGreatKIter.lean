/- Proved here: claims of package claim: an iterator that hands the claims of rows over, in order. -/
import Derived.Test.YtgmplpfbhcdofaaGreatKKeys
import Derived.Test.YtgmplpfbhcdofaaGreatSeqS
import Derived.Test.YtgmplpfbhcdofaaGreatRound
import Derived.Sort.CutIn
import Derived.Maps.OwnIn
namespace Go.Proofs.YtgmplpfbhcdofaaGreat
open Go.RowKit Go.Shelf Go.Lib
attribute [local go_sem] Oper.semAt_some

theorem own_same {w X : World} {B n sz : Nat} {e : TypeId} {v : Value} {xs : List Value} (h : w.ownsRow B e sz v n xs) (hk : ∀ g, v.ownBlock = some g → X.heap[g]? = w.heap[g]?) : X.ownsRow B e sz v n xs := by
  refine ⟨h.1, ?_⟩
  rcases h.2 with h' | ⟨g, cap, cur, rfl, h1, h2, h3⟩
  · exact .inl h'
  · exact .inr ⟨g, cap, cur, rfl, h1, (hk g rfl).trans h2, h3⟩
/-- What was made of rows: the places of each path's owners, up to S. -/
def GC (s : List Pl) (W : World) (z : Nat × (Bs → Value)) (X : World) : Prop :=
  Below W.heap.size W X ∧ z.1 = X.heap.size ∧ (∀ p, X.ownsRow W.heap.size 3 1 (z.2 p) (ownS s p).length (natsV (ownS s p))) ∧ ∀ p q, p ≠ q → ∀ g, (z.2 p).ownBlock = some g → (z.2 q).ownBlock ≠ some g
def RC (W : World) (z : Nat × (Bs → Value)) (k : Nat) : Prop := W.heap.size ≤ k ∧ k < z.1
def EC (_ : World) (z : Nat × (Bs → Value)) (x : Cl) (args : Array Value) : Prop := ∃ a c, z.2 x.p = .slice a x.own.length c ∧ args = #[clV x.p x.dir (.slice a x.own.length c)]
theorem clsS_at {s : List Pl} {k : Nat} {p : Bs} (h : (pathsS s)[k]? = some p) : (clsS s)[k]? = some (clS s p) := by
  unfold clsS
  rw [List.getElem?_map, h]
  rfl
theorem take_pre {α : Type} {l : List α} {k : Nat} {x : α} (h : l[k]? = some x) : l.take k ++ [x] <+: l := by
  have e : l.take (k + 1) = l.take k ++ [x] := by rw [List.take_add_one, h]; rfl
  rw [← e]
  exact List.take_prefix _ _
theorem okRs_len {l : List (List Lf)} (h : okRs l) : (plsL l).length ≤ 256 := by
  have h1 := pls_len 0 l (fun r hr => okLs_short (h.2 r hr))
  have := h.1
  show (plsFrom 0 l).length ≤ 256
  omega
theorem okRs_path {l : List (List Lf)} (h : okRs l) {p : Bs} (hp : p ∈ pathsS (plsL l)) : p.length ≤ 60 := by
  rw [pathsS_mem, hasS_iff] at hp
  obtain ⟨⟨i, x⟩, he, rfl⟩ := hp
  obtain ⟨k, r, h1, h2, _⟩ := mem_plsFrom.1 he
  exact okLs_path (h.2 r (List.mem_of_getElem? h1)) h2

set_option maxRecDepth 100000 in
set_option maxHeartbeats 4000000 in
theorem claims_hands (n : Nat) (_ : 1 ≤ n) (bl : Nat) (l : List (List Lf)) (v : Value) (w : World) (hok : okRs l) (hbl : Box w bl 29 #[v]) (hv : RdRs w v l) :
    HandsS Fence.wide n Tryz.prog 64 #[.pointer (some ⟨bl, 0, none⟩)] (GC (plsL l)) RC EC (clsL l) w := fun lp J Jx W hW hG hB hY => by
  have HV := Lib.hid (hv.on hW)
  have HK := Lib.hid hok
  have c0 : W.cell? ⟨bl, 0, none⟩ = some v := ((hbl.on hW).cell (k := 0) rfl)
  have HG := Lib.hid hG
  have HB := Lib.hid hB
  have HY := Lib.hid hY
  have HOW := Lib.hid (owned_any l v W HV.out hok)
  have HPL := Lib.hid (okRs_len hok)
  have HPP : Hid (∀ p ∈ pathsS (plsL l), p.length ≤ 60) := Lib.hid (fun p hp => okRs_path hok hp)
  obtain ⟨a, c, rfl, _⟩ := hv
  obtain ⟨s, hs⟩ : ∃ z, z = plsL l := ⟨_, rfl⟩
  have HCL : Hid (clsL l = clsS s) := Lib.hid (by rw [hs]; rfl)
  rw [← hs] at HG HPL HPP
  have HOW2 : Hid (Calls Tryz.prog 65 #[.slice a l.length c] W fun e w' => ∃ b V, e = .returned (.map (some b)) ∧ Owned w' W.heap.size b s V ∧ Below W.heap.size W w') := Lib.hid (by rw [hs]; exact HOW.out)
  obtain ⟨m, hm⟩ : ∃ m, m = l.length := ⟨_, rfl⟩
  rw [← hm] at c0 HOW2
  clear hok hbl hW hG hB hY hs HOW hm HV
  refine callsIn_of_wp Tryz.func64 rfl trivial ?_ rfl
  simp only [Tryz.ntmps64, List.size_toArray, List.length_cons, List.length_nil, Nat.reduceAdd, Nat.reduceSub, Array.replicate_succ, Array.replicate_zero, List.push_toArray, List.append_toArray, List.nil_append, List.cons_append]
  gi_upto_region 1 with (refine ⟨trivial, ?_⟩; gi_at_call 65; refine (callsIn_wide.2 HOW2.out).mono ?_; rintro e w1 ⟨b, V, rfl, ho, hb⟩; have HO1 := Lib.hid ho; have HB1 := Lib.hid hb; clear ho hb)
  obtain ⟨w2, hw2⟩ : ∃ z, z = w1.alloc (.cells #[.map (some b)] 91) := ⟨_, rfl⟩
  have hb2 : Below w1.heap.size w1 w2 := by rw [hw2]; exact below_new _ _
  have X2 : Box w2 w1.heap.size 91 #[.map (some b)] := by rw [hw2]; exact box_new
  have HO2 := Lib.hid (HO1.out.on hb2)
  have HB2 := Lib.hid (bch HB1.out hb2)
  have HW2 := Lib.hid hw2
  have HSO := Lib.hid (sorted_any w1.heap.size W.heap.size b s V w2 X2 HO2.out (by have := HPL.out; omega) (fun p hp => by have := HPP.out p hp; omega))
  clear hw2 hb2 X2 c0
  gi_upto_region 2 with (refine ⟨trivial, ?_⟩; first | (gi_at_call 67; refine (callsIn_wide.2 (keysmake_any (some b) w1)).mono ?_; rintro e w' ⟨rfl, rfl⟩; rw [← HW2.out]) | (gi_at_call 66; refine (callsIn_wide.2 HSO.out).mono ?_; rintro e w3 ⟨v3, rfl, ho, hb⟩; have HO3 := Lib.hid ho; have HB3 := Lib.hid hb; obtain ⟨a3, c3, rfl⟩ := own_slice ho; clear ho hb))
  have HB03 : Hid (Below W.heap.size W w3) := Lib.hid (bch HB2.out HB3.out)
  have HO33 := Lib.hid (HO2.out.on HB3.out)
  have HGC : Hid (GC s W (w3.heap.size, V) w3) := Lib.hid ⟨HB03.out, rfl, HO33.out.row, HO33.out.apart⟩
  obtain ⟨z, hz⟩ : ∃ z : Nat × (Bs → Value), z = (w3.heap.size, V) := ⟨_, rfl⟩
  rw [← hz] at HGC
  have HZ := Lib.hid hz
  obtain ⟨nn, hnn⟩ : ∃ z, z = (pathsS s).length := ⟨_, rfl⟩
  rw [← hnn] at HO3 ⊢
  have HNN := Lib.hid hnn
  have hn16 : nn ≤ 1000 := by rw [hnn]; have := pathsS_len s; have := HPL.out; omega
  have HWS : Hid (W.heap.size ≤ w2.heap.size) := Lib.hid HB2.out.size
  -- what stays readable in each later world
  have HRO : Hid (∀ X, Fix (RC W z) w3 X → X.ownsRow w2.heap.size 9 1 (.slice a3 nn c3) nn ((pathsS s).map encStr)) := Lib.hid (fun X hX => own_same HO3.out (fun g hg => hX g (by
    have h1 := own_in HO3.out hg
    have h2 := HWS.out
    rw [HZ.out]
    exact ⟨by omega, h1.2⟩)))
  obtain ⟨D, hD, hS⟩ := HO33.out.map
  have HMX : Hid (∀ X, Fix (RC W z) w3 X → X.ownsMap Tryz.prog 9 RV b s.length D) := Lib.hid (fun X hX => by
    have hl := hD.lt
    obtain ⟨es, clock, h1, h2⟩ := hD
    exact ⟨es, clock, (hX b (by rw [HZ.out]; exact ⟨HO33.out.low, hl⟩)).trans h1, h2⟩)
  have HMS := Lib.hid hS
  have HNIL := Lib.hid HO33.out.nil
  clear hz hnn hD hS HO1 HB1 HO2 HB2 HB3 HSO HW2 HOW2 HO33
  gi_loopw [12] (fun i X => ∃ k : Nat, k ≤ nn ∧ i = .int .i64 (k : Int) ∧ Hid (J z ((clsS s).take k) X) ∧ Hid (Fix (RC W z) w3 X)) (fun i _ => nn - (Lib.intOf i).toNat)
  case atStart => exact ⟨0, Nat.zero_le _, rfl, Lib.hid (by simpa using HG.out z w3 HGC.out), Lib.hid (Fix.refl _ _)⟩
  case round =>
    obtain ⟨k, hk, rfl, HJ, HF⟩ := hrel
    obtain ⟨wq, hwq⟩ : ∃ q, q = wr := ⟨_, rfl⟩
    rw [← hwq] at HJ HF ⊢
    clear hwq
    by_cases hlt : k < nn
    · obtain ⟨p, hp⟩ : ∃ p, (pathsS s)[k]? = some p := ⟨_, List.getElem?_eq_getElem (by rw [← HNN.out]; exact hlt)⟩
      have ho := HRO.out wq HF.out
      rcases own_addr ho with ⟨_, h0, _⟩ | ⟨g, rfl, hg1, hg2⟩
      · omega
      have q0 : wq.cell? ⟨g, k, none⟩ = some (.string ⟨p.toArray⟩) := by
        have := ho.cells (g := g) rfl k (.string ⟨p.toArray⟩) (by rw [List.getElem?_map, hp]; rfl)
        rw [addr_add, Nat.zero_add] at this
        exact this
      have HP := Lib.hid hp
      have hpm : p ∈ pathsS s := List.mem_of_getElem? hp
      have hxk : keyOf Tryz.prog 9 (.string ⟨p.toArray⟩) = some (.string p) := WideMaps.keyOf_string_mk (s := ⟨p.toArray⟩) Tryz.underlying9 (by have := HPP.out p hpm; unfold maxLen; show p.length ≤ _; omega)
      obtain ⟨av, cv, hav⟩ := own_slice (HGC.out.2.2.1 p)
      rw [HZ.out] at hav
      have hav : V p = .slice av (ownS s p).length cv := hav
      have hlk : (Instr.lookup 91 (.map (some b)) (.string ⟨p.toArray⟩) false).run Tryz.prog wq = .ok (clV p (dirS s p) (.slice av (ownS s p).length cv)) wq := by
        obtain ⟨v, ps, h1, h2⟩ := (HMX.out wq HF.out).lookup law9 Tryz.underlying91 (zv43 wq) (zd := .held (clV [] false (.slice none 0 0))) (zp := []) rfl hxk
        rw [h1, look_val HMS.out HNIL.out p h2, hav]
        have hh : hasS s p = true := (pathsS_mem s p).1 hpm
        rw [cpS, cdS, if_pos hh, hh]
        rfl
      have k1 : (k : Int) < (nn : Int) := by omega
      have k2 : (0 : Int) ≤ (k : Int) := by omega
      have k4 : IntKind.i64.wrap ((k : Int) + 1) = (k : Int) + 1 := IntWalk.i64_in _ (by omega)
      have HYK := Lib.hid (HY.out z ((clsS s).take k) (clS s p) #[clV p (dirS s p) (.slice av (ownS s p).length cv)] wq (by rw [HCL.out]; exact take_pre (clsS_at hp)) (by rw [HZ.out]; exact ⟨av, cv, hav, rfl⟩) HJ.out)
      have HCS : Hid ((clsS s).take (k + 1) = (clsS s).take k ++ [clS s p]) := Lib.hid (by rw [List.take_add_one, clsS_at hp]; rfl)
      clear ho hp hpm hxk hav
      obtain ⟨fn, tmps, assign, body, hy, hR⟩ := HYK.out
      gi_wp2
      refine hR.mono ?_
      rintro e2 W3 (⟨rfl, hJ3, hk3, hs3⟩ | ⟨rfl, hJx3⟩)
      · have HJ3 := Lib.hid hJ3
        have HF3 := Lib.hid (HF.out.trans hk3)
        clear hJ3 hk3 hs3
        gi_wp2
        go_roundw
        case rel => exact ⟨k + 1, hlt, by go_num, by rw [HCS.out]; exact HJ3, HF3⟩
        case measure => simp [Lib.intOf]; omega
      · gi_wp2
        (try simp only [Exit.inBlock, Exit.then])
        refine bodyPost_ret (results_none rfl _ _ _) rfl ?_
        exact ⟨⟨_, rfl⟩, Or.inr (Exists.intro z (Exists.intro _ hJx3))⟩
    · have k1 : ¬ ((k : Int) < (nn : Int)) := by omega
      have HJ2 : Hid (J z (clsL l) wq) := Lib.hid (by
        have := HJ.out
        rw [List.take_of_length_le (by unfold clsS; rw [List.length_map, ← HNN.out]; omega)] at this
        rw [HCL.out]
        exact this)
      gi_wp2
      go_end0
      exact ⟨⟨_, rfl⟩, Or.inl ⟨z.1, z.2, HJ2.out⟩⟩
end Go.Proofs.YtgmplpfbhcdofaaGreat
