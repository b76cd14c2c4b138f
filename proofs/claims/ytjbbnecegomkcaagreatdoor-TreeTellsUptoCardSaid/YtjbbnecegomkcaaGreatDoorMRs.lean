/- Proved here: Do of puncheonref06, for every operation: its ways put together. | Proved here: Same and Run of puncheonref06. | What the last steps of the Tree laws share: what the rows' list gives (the root, and the shapes of operations), a world for the witnesses, and how trees and operations that came in are opened. -/
import Derived.Test.YtjbbnecegomkcaaGreatDoorMRe
import Derived.Test.YtjbbnecegomkcaaGreatDoorMRf
import Derived.Test.YtjbbnecegomkcaaGreatDoorCards
import Derived.Test.YtjbbnecegomkcaaGreatDoorTie
import Derived.Test.YtjbbnecegomkcaaGreatDoorMRb
import Derived.ProofKit
import Derived.OpenShut
import Derived.ShutString
import Derived.SizedLaws
import Derived.Lib.SmallJoins
import Derived.Lib.LaidTab
import Derived.Deep.DeepHandedRow
import Derived.LaidMore
import Derived.Lib.LaidU8
import Derived.Shelf.Vars
import Derived.Deep.Slices
import Derived.Deep.Strs
namespace Go.Proofs.YtjbbnecegomkcaaGreatDoor
open Go.RowKit Go.Shelf

theorem rdo_any (l : List It) (v : Value) (o : Opn) (w : World) (hv : RdI w v l) (h : TreeOk l) (hso : o.path.length ≤ 2000000 ∧ o.to.length ≤ 2000000) (r : Except Int (List It)) (hr : doR l o = r) :
    Calls Tryz.prog 30 #[.agg #[v], .agg #[.int .i64 o.kind, .string ⟨o.path.toArray⟩, .string ⟨o.to.toArray⟩, .string ⟨o.data.toArray⟩]] w (TreeE r w) := by
  by_cases k6 : o.kind = 6
  · exact rdo_k6 l v o w hv h k6 hso r hr
  · by_cases k7 : o.kind = 7
    · exact rdo_k7 l v o w hv h k7 hso r hr
    · by_cases k3 : o.kind = 3
      · exact rdo_k3 l v o w hv h k3 hso r hr
      · exact rdo_k1245 l v o w hv h ⟨k3, k6, k7⟩ hso r hr
end Go.Proofs.YtjbbnecegomkcaaGreatDoor

namespace Go.Proofs.YtjbbnecegomkcaaGreatDoor
open Go.RowKit Go.Shelf

set_option maxRecDepth 100000 in
set_option maxHeartbeats 4000000 in
theorem rsame6_any (l m : List It) (v1 v2 : Value) (w : World) (h1 : RdI w v1 l) (h2 : RdI w v2 m) : Calls Tryz.prog 16 #[.agg #[v1], .agg #[v2]] w (EqR (decide (l = m)) w) := by
  obtain ⟨w1, hw1⟩ : ∃ z, z = (w.alloc (.cells #[v1] 24)).alloc (.cells #[v2] 24) := ⟨_, rfl⟩
  have X : Hid (Box w1 w.heap.size 24 #[v1]) := Lib.hid (by rw [hw1]; exact box_new.alloc _)
  have Y : Hid (Box w1 (w.heap.size + 1) 24 #[v2]) := Lib.hid (by rw [hw1, show w.heap.size + 1 = (w.alloc (.cells #[v1] 24)).heap.size from by simp]; exact box_new)
  have HB : Hid (Below w.heap.size w w1) := Lib.hid (by rw [hw1]; exact bch (below_new _ _) (below_new _ _))
  have H1 := Lib.hid (h1.on HB.out)
  have H2 := Lib.hid (h2.on HB.out)
  obtain ⟨a1, cap1, rfl, hlc1, hcm1, _⟩ := h1.open
  obtain ⟨a2, cap2, rfl, hlc2, hcm2, _⟩ := h2.open
  unfold maxLen at hcm1 hcm2
  by_cases hlen : l.length = m.length
  · obtain ⟨n, hn⟩ : ∃ n, n = l.length := ⟨_, rfl⟩
    have HNM : Hid (n = m.length) := Lib.hid (hn.trans hlen)
    rw [← hlen, ← hn] at hlc2 Y H2 hw1
    rw [← hn] at hlc1 X H1
    rw [← hlen, ← hn]
    have HN := Lib.hid hn
    clear hn hlen h1 h2
    have c0 := X.out.cell (k := 0) rfl
    have d0 := Y.out.cell (k := 0) rfl
    have t0 : ((n : Int) != (n : Int)) = false := by simp
    go_enter Tryz.func16, Tryz.ntmps16
    go_upto_region 1 with fail
    rw [← hw1]
    clear hw1
    go_wp2_with fail
    clear c0 d0 t0
    go_loopw [17] (fun i W => ∃ k : Nat, k ≤ n ∧ i = .int .i64 k ∧ Hid (∀ j, j < k → l[j]? = m[j]?) ∧ Hid (Below w1.heap.size w1 W)) (fun i _ => n - (Lib.intOf i).toNat)
    case atStart => exact ⟨0, Nat.zero_le _, rfl, Lib.hid (fun j h => by omega), Lib.hid (Below.refl _ _)⟩
    case round =>
      obtain ⟨k, hk, rfl, HE, HBk⟩ := hrel
      obtain ⟨wq, hwq⟩ : ∃ q, q = wr := ⟨_, rfl⟩
      rw [← hwq] at HBk ⊢
      clear hwq
      by_cases hlt : k < n
      · obtain ⟨p, hp⟩ : ∃ p, l[k]? = some p := ⟨_, List.getElem?_eq_getElem (by have := HN.out; omega)⟩
        obtain ⟨q, hq⟩ : ∃ q, m[k]? = some q := ⟨_, List.getElem?_eq_getElem (by have := HNM.out; omega)⟩
        obtain ⟨a', c', e, _, _, hc1⟩ := (H1.out.on HBk.out).open
        rw [← HN.out] at e
        cases e
        obtain ⟨g1, o1, rfl, hg1, hc1⟩ := hc1 (by have := HN.out; omega)
        obtain ⟨a', c', e, _, _, hc2⟩ := (H2.out.on HBk.out).open
        rw [← HNM.out] at e
        cases e
        obtain ⟨g2, o2, rfl, hg2, hc2⟩ := hc2 (by have := HNM.out; omega)
        obtain ⟨q0, q1, q2⟩ := hc1 k p hp
        have k1 : (k : Int) < (n : Int) := by omega
        have k2 : (0 : Int) ≤ (k : Int) := by omega
        have k4 : IntKind.i64.wrap ((k : Int) + 1) = (k : Int) + 1 := IntWalk.i64_in _ (by omega)
        obtain ⟨w5, hw5⟩ : ∃ q, q = wq.alloc (.cells #[.string ⟨p.path.toArray⟩, .int .i64 p.kind, .string ⟨p.data.toArray⟩] 33) := ⟨_, rfl⟩
        have hb5 : Below wq.heap.size wq w5 := by rw [hw5]; exact below_new _ _
        have HX5 : Hid (Box w5 wq.heap.size 33 p.arr) := Lib.hid (by rw [hw5]; exact box_new)
        have HB5 : Hid (Below w1.heap.size w1 w5) := Lib.hid (bch HBk.out hb5)
        have HQ2 := Lib.hid ((hc2 k q hq).on hg2 hb5)
        have HP := Lib.hid hp
        have HQ := Lib.hid hq
        clear hc1 hc2 hp hq hg1 hg2 hb5
        go_upto_region 6 with fail
        obtain ⟨b7, hb7⟩ : ∃ q, q = wq.heap.size := ⟨_, rfl⟩
        rw [← hb7] at HX5 ⊢
        rw [← hw5]
        clear hw5 hb7 q0 q1 q2
        obtain ⟨d0, d1, d2⟩ := HX5.out.it
        obtain ⟨s0, s1, s2⟩ := HQ2.out
        have y0 := (Y.out.on HB5.out).cell (k := 0) rfl
        have hgd := guard35
        by_cases hpq : p = q
        · have hne := neq35 p q false (by simp [hpq])
          have HE' : Hid (∀ j, j < k + 1 → l[j]? = m[j]?) := Lib.hid (fun j hj => by
            by_cases e : j = k
            · subst e; rw [HP.out, HQ.out, hpq]
            · exact HE.out j (by omega))
          clear hpq
          go_region
          go_wp2
          go_roundw
          case rel => exact ⟨k + 1, hlt, by go_num, HE', Lib.hid HB5.out.drew⟩
          case measure => simp [Lib.intOf]; omega
        · have hne := neq35 p q true (by simp [hpq])
          have HD : Hid (decide (l = m) = false) := Lib.hid (decide_eq_false (list_ne HP.out HQ.out hpq))
          clear hpq
          go_region
          go_wp2
          go_ret
          exact ⟨by rw [HD.out]; rfl, (bch HB.out HB5.out).drew⟩
      · have k1 : ¬ ((k : Int) < (n : Int)) := by omega
        have HD : Hid (decide (l = m) = true) := Lib.hid (decide_eq_true (List.ext_getElem? fun j => by
          by_cases h : j < k
          · exact HE.out j h
          · rw [List.getElem?_eq_none (by have := HN.out; omega), List.getElem?_eq_none (by have := HNM.out; omega)]))
        go_wp2_with fail
        go_ret
        exact ⟨by rw [HD.out]; rfl, bch HB.out HBk.out⟩
  · have HD : decide (l = m) = false := decide_eq_false fun e => hlen (by rw [e])
    obtain ⟨n1, hn1⟩ : ∃ n, n = l.length := ⟨_, rfl⟩
    obtain ⟨n2, hn2⟩ : ∃ n, n = m.length := ⟨_, rfl⟩
    rw [← hn1, ← hn2] at hlen
    rw [← hn1] at X hw1
    rw [← hn2] at Y hw1
    rw [← hn1, ← hn2]
    rw [HD]
    have c0 := X.out.cell (k := 0) rfl
    have d0 := Y.out.cell (k := 0) rfl
    have t0 : ((n1 : Int) != (n2 : Int)) = true := by simp; omega
    have t1 : ¬ (n1 : Int) = (n2 : Int) := by omega
    have t2 : ((n1 : Int) == (n2 : Int)) = false := by simp; omega
    clear h1 h2 hlen HD hlc1 hlc2 hn1 hn2 H1 H2
    go_enter Tryz.func16, Tryz.ntmps16
    go_upto_region 1 with fail
    rw [← hw1]
    clear hw1
    go_wp2_with fail
    go_ret
    exact ⟨rfl, HB.out⟩

/-! ### Run -/
theorem runR_app (l : List It) (a b : List Opn) (h : (runM l a).2.2 = 0) : runM l (a ++ b) = ((runM (runM l a).1 b).1, a.length + (runM (runM l a).1 b).2.1, (runM (runM l a).1 b).2.2) := by
  induction a generalizing l with
  | nil => simp [runM]
  | cons o a ih =>
    cases e : actM l o with
    | error k =>
      rw [run_no e] at h
      exact absurd h (act_err e)
    | ok l' =>
      rw [run_yes e] at h
      rw [List.cons_append, run_yes e, run_yes e, ih l' h]
      refine Prod.ext rfl (Prod.ext ?_ rfl)
      simp only [List.length_cons]; omega
theorem run_take_yes {l cur l' : List It} {ops : List Opn} {k : Nat} {o : Opn} (ho : ops[k]? = some o) (h : runM l (ops.take k) = (cur, k, 0)) (e : actM cur o = .ok l') : runM l (ops.take (k + 1)) = (l', k + 1, 0) := by
  have hk : k < ops.length := (List.getElem?_eq_some_iff.1 ho).1
  rw [List.take_add_one, ho, Option.toList_some, runR_app l _ _ (by rw [h]), h]
  simp only
  rw [run_yes e]
  simp [runM]; omega
theorem run_take_no {l cur : List It} {ops : List Opn} {k : Nat} {o : Opn} {z : Int} (ho : ops[k]? = some o) (h : runM l (ops.take k) = (cur, k, 0)) (e : actM cur o = .error z) : runM l ops = (cur, k, z) := by
  have hk : k < ops.length := (List.getElem?_eq_some_iff.1 ho).1
  have hd : ops = ops.take k ++ o :: ops.drop (k + 1) := by
    have e2 := List.drop_eq_getElem_cons hk
    rw [(List.getElem?_eq_some_iff.1 ho).2] at e2
    rw [← e2, List.take_append_drop]
  rw [hd, runR_app l _ _ (by rw [h]), h]
  simp only
  rw [run_no e]
  simp; omega
theorem rd_row {W : World} {b : Nat} {v : Value} {l : List It} {a : Option Addr} {m c : Nat} {cs : Array Value} (h : RdI W v l) (X : Box W b 24 #[.slice a m c]) : RdI (W.setRow b cs) v l := by
  obtain ⟨a', c', h1, h2, h3, h4⟩ := h
  refine ⟨a', c', h1, h2, h3, fun h0 => ?_⟩
  obtain ⟨g, o, e, hg, hc⟩ := h4 h0
  obtain ⟨x, r, hl⟩ : ∃ x r, l = x :: r := by cases l with | nil => exact absurd h0 (by simp) | cons x r => exact ⟨x, r, rfl⟩
  have hne : g ≠ b := fun e2 => by
    subst e2
    have q := hc 0 (.string ⟨x.path.toArray⟩) (by rw [hl, flatI_cons]; rfl)
    have q2 := cell_of_row W g (o + 0) #[.slice a m c] 24 (0, 0) X
    rw [q2] at q
    cases ho : o + 0 with
    | zero => rw [ho] at q; simp at q
    | succ j => rw [ho] at q; simp at q
  refine ⟨g, o, e, by rw [setRow_size]; exact hg, fun j u hu => ?_⟩
  have := hc j u hu
  unfold World.cell? at this ⊢
  rw [setRow_other W b g cs hne]
  exact this
def ROpR (l : List It) (ops : List Opn) (w : World) (e : Ending) (w' : World) : Prop := ∃ v', e = .returned (.tuple #[.agg #[v'], .int .i64 ((runM l ops).2.1 : Nat), .int .i64 (runM l ops).2.2]) ∧ RdI w' v' (runM l ops).1 ∧ Below w.heap.size w w'
set_option maxRecDepth 100000 in
set_option maxHeartbeats 16000000 in
theorem rrun_any (l : List It) (v vo : Value) (ops : List Opn) (w : World) (hv : RdI w v l) (h : TreeOk l) (ho : RdO w vo ops) (hso : ∀ o ∈ ops, o.path.length ≤ 2000000 ∧ o.to.length ≤ 2000000) :
    Calls Tryz.prog 32 #[.agg #[v], vo] w (ROpR l ops w) := by
  obtain ⟨w1, hw1⟩ : ∃ z, z = (w.alloc (.cells #[v] 24)).alloc (.cells #[.slice none 0 0] 24) := ⟨_, rfl⟩
  obtain ⟨b2, hb2⟩ : ∃ z, z = w.heap.size := ⟨_, rfl⟩
  have X2 : Hid (Box w1 b2 24 #[v]) := Lib.hid (by rw [hw1, hb2]; exact box_new.alloc _)
  have X4 : Hid (Box w1 (b2 + 1) 24 #[.slice none 0 0]) := Lib.hid (by rw [hw1, hb2, show w.heap.size + 1 = (w.alloc (.cells #[v] 24)).heap.size from by simp]; exact box_new)
  have HB : Hid (Below w.heap.size w w1) := Lib.hid (by rw [hw1]; exact bch (below_new _ _) (below_new _ _))
  have H2 : Hid (w.heap.size ≤ b2) := Lib.hid (by omega)
  have H4 : Hid (w.heap.size ≤ b2 + 1) := Lib.hid (by omega)
  have HV := Lib.hid (hv.on HB.out)
  have HO : Hid (RdO w vo ops) := Lib.hid ho
  have HOK := Lib.hid h
  have HSO := Lib.hid hso
  have HBE := Lib.hid hb2
  obtain ⟨a, c, rfl, hlc, hcm, _⟩ := hv.open
  obtain ⟨ao, co, rfl, hlo, hcmo, _⟩ := ho.open
  obtain ⟨m, hm⟩ : ∃ m, m = l.length := ⟨_, rfl⟩
  rw [← hm] at HV X2 hw1 ⊢
  obtain ⟨n, hn⟩ : ∃ n, n = ops.length := ⟨_, rfl⟩
  rw [← hn] at HO hlo ⊢
  have HN := Lib.hid hn
  unfold maxLen at hcmo
  clear hv h ho hso hb2 hm hn hlc
  go_enter Tryz.func32, Tryz.ntmps32
  go_upto_region 1 with fail
  rw [← HBE.out, ← hw1]
  clear hw1
  go_wp2_with fail
  go_loopw [13] (fun i W => ∃ (k : Nat) (cur : List It) (a3 : Option Addr) (m3 c3 : Nat), k ≤ n ∧ i = .int .i64 k ∧ Hid (runM l (ops.take k) = (cur, k, 0)) ∧ Hid (TreeOk cur) ∧ Hid (Box W b2 24 #[.slice a3 m3 c3]) ∧ Hid (RdI W (.slice a3 m3 c3) cur) ∧ Hid (Below w.heap.size w W) ∧ Hid (Box W (b2 + 1) 24 #[.slice none 0 0])) (fun i _ => n - (Lib.intOf i).toNat)
  case atStart => exact ⟨0, l, a, m, c, Nat.zero_le _, rfl, Lib.hid (by simp [runM]), HOK, X2, HV, HB, X4⟩
  case round =>
    clear X2 X4 HV HB
    obtain ⟨k, cur, a3, m3, c3, hk, rfl, HR, HCK, X2, HV, HB, X4⟩ := hrel
    obtain ⟨wq, hwq⟩ : ∃ q, q = wr := ⟨_, rfl⟩
    rw [← hwq] at X2 HV HB X4 ⊢
    clear hwq
    by_cases hlt : k < n
    · obtain ⟨o, ho⟩ : ∃ x, ops[k]? = some x := ⟨_, List.getElem?_eq_getElem (by rw [← HN.out]; exact hlt)⟩
      obtain ⟨a', c', e, _, _, hc⟩ := RdO.open (l := ops) (RdF.on HO.out HB.out)
      rw [← HN.out] at e
      cases e
      obtain ⟨g, q, rfl, hg, hc⟩ := hc (by rw [← HN.out]; omega)
      obtain ⟨q0, q1, q2, q3⟩ := hc k o ho
      have k1 : (k : Int) < (n : Int) := by omega
      have k2 : (0 : Int) ≤ (k : Int) := by omega
      have k4 : IntKind.i64.wrap ((k : Int) + 1) = (k : Int) + 1 := IntWalk.i64_in _ (by omega)
      obtain ⟨w5, hw5⟩ : ∃ q, q = wq.alloc (.cells #[.int .i64 o.kind, .string ⟨o.path.toArray⟩, .string ⟨o.to.toArray⟩, .string ⟨o.data.toArray⟩] 51) := ⟨_, rfl⟩
      have hb5 : Below wq.heap.size wq w5 := by rw [hw5]; exact below_new _ _
      have HO5 : Hid (Box w5 wq.heap.size 51 o.arr) := Lib.hid (by rw [hw5]; exact box_new)
      have X25 := Lib.hid (X2.out.on hb5)
      have X45 := Lib.hid (X4.out.on hb5)
      have HV5 := Lib.hid (HV.out.on hb5)
      have HB5 := Lib.hid (bch HB.out hb5)
      obtain ⟨r, hr⟩ : ∃ r, r = doR cur o := ⟨_, rfl⟩
      have HRA : Hid (r = actM cur o) := Lib.hid (by rw [hr]; exact do_is HCK.out o)
      have HDO : Hid (Calls Tryz.prog 30 #[.agg #[.slice a3 m3 c3], .agg #[.int .i64 o.kind, .string ⟨o.path.toArray⟩, .string ⟨o.to.toArray⟩, .string ⟨o.data.toArray⟩]] w5 (TreeE r w5)) := Lib.hid (rdo_any cur (.slice a3 m3 c3) o w5 HV5.out HCK.out (HSO.out o (List.mem_of_getElem? ho)) r hr.symm)
      have HOO := Lib.hid ho
      clear hc hg ho hb5 hr
      go_upto_region 4 with fail
      obtain ⟨b8, hb8⟩ : ∃ q, q = wq.heap.size := ⟨_, rfl⟩
      rw [← hb8] at HO5 ⊢
      rw [← hw5]
      clear hw5 hb8 q0 q1 q2 q3
      have m0 : w5.cell? ⟨b8, 0, none⟩ = some (.int .i64 o.kind) := HO5.out.cell (k := 0) rfl
      have m1 : w5.cell? ⟨b8, 1, none⟩ = some (.string ⟨o.path.toArray⟩) := HO5.out.cell (k := 1) rfl
      have m2 : w5.cell? ⟨b8, 2, none⟩ = some (.string ⟨o.to.toArray⟩) := HO5.out.cell (k := 2) rfl
      have m3' : w5.cell? ⟨b8, 3, none⟩ = some (.string ⟨o.data.toArray⟩) := HO5.out.cell (k := 3) rfl
      have p0 := X25.out.cell (k := 0) rfl
      go_wp2_with fail
      clear m0 m1 m2 m3' p0
      refine HDO.out.mono ?_
      rintro e w6 ⟨hb, hcs⟩
      have X26 := Lib.hid (X25.out.on hb)
      have X46 := Lib.hid (X45.out.on hb)
      have HV6 := Lib.hid (HV5.out.on hb)
      have HB6 := Lib.hid (bch HB5.out hb)
      clear hb HDO
      rcases hcs with ⟨z, hz, rfl⟩ | ⟨l', v5, hz, rfl, hown⟩
      · have HAE : Hid (actM cur o = .error z) := Lib.hid (by rw [← HRA.out]; exact hz)
        have hzn : z ≠ 0 := act_err HAE.out
        have t1 : (z == 0) = false := by simpa using hzn
        have t2 : (z != 0) = true := by simpa using hzn
        have HF := Lib.hid (run_take_no HOO.out HR.out HAE.out)
        clear hz hzn
        obtain ⟨VE, hVE⟩ : ∃ z, z = (w6.alloc (.cells #[.slice none 0 0] 24)).setRow w6.heap.size #[.slice none 0 0] := ⟨_, rfl⟩
        obtain ⟨bE, hbE⟩ : ∃ z, z = w6.heap.size := ⟨_, rfl⟩
        have hnE : Below w6.heap.size w6 VE := by rw [hVE]; exact below_row (below_new _ _) (Nat.le_refl _) _
        have HVE := Lib.hid hVE
        have HWE := Lib.hid hbE
        have X27 := Lib.hid (X26.out.on hnE)
        have X47 := Lib.hid (X46.out.on hnE)
        have HV7 := Lib.hid (HV6.out.on hnE)
        have HB7 := Lib.hid (bch HB6.out hnE)
        have p0 := X27.out.cell (k := 0) rfl
        clear hVE hbE hnE
        go_wp2_with (first
          | (refine wpList_store_row rfl 24 (.tmp 9) (.tmp 22) rfl w6.heap.size #[.slice none 0 0] rfl rfl 24 #[.slice none 0 0] box_new (info24 _) rfl (slice_one _ _ _) ?_; rw [← HVE.out, ← HWE.out])
          | (refine wpList_store_row rfl 24 (.tmp 4) (.tmp 26) rfl (b2 + 1) #[.slice a3 m3 c3] rfl rfl 24 _ X47.out (info24 _) rfl (slice_one _ _ _) ?_)
          | fail)
        exact bodyPost_ret (end_tree rfl _ (X47.out.row _) rfl rfl rfl) rfl ⟨_, by rw [HF.out]; rfl, by rw [HF.out]; exact rd_row HV7.out X47.out, below_row HB7.out H4.out _⟩
      · have HAE : Hid (actM cur o = .ok l') := Lib.hid (by rw [← HRA.out]; exact hz)
        have HF := Lib.hid (run_take_yes HOO.out HR.out HAE.out)
        have HOK' : Hid (TreeOk l') := Lib.hid (act_goes HCK.out HAE.out).2.ok
        obtain ⟨a5, n5, c5, rfl⟩ := own_any hown
        have HW6 := Lib.hid hown.rd
        clear hz hown
        obtain ⟨VE, hVE⟩ : ∃ z, z = (w6.alloc (.cells #[.slice none 0 0] 24)).setRow w6.heap.size #[.slice a5 n5 c5] := ⟨_, rfl⟩
        obtain ⟨bE, hbE⟩ : ∃ z, z = w6.heap.size := ⟨_, rfl⟩
        have hnE : Below w6.heap.size w6 VE := by rw [hVE]; exact below_row (below_new _ _) (Nat.le_refl _) _
        have XE : Hid (Box VE bE 24 #[.slice a5 n5 c5]) := Lib.hid (by rw [hVE, hbE]; exact Box.row (box_new (w := w6) (t := 24) (cs := #[.slice none 0 0])) _)
        have HVE := Lib.hid hVE
        have HWE := Lib.hid hbE
        have X27 := Lib.hid (X26.out.on hnE)
        have X47 := Lib.hid (X46.out.on hnE)
        have HV7 := Lib.hid (HW6.out.on hnE)
        have HB7 := Lib.hid (bch HB6.out hnE)
        have p0 := XE.out.cell (k := 0) rfl
        clear hVE hbE hnE
        go_wp2_with (first
          | (refine wpList_store_row rfl 24 (.tmp 9) (.tmp 22) rfl w6.heap.size #[.slice a5 n5 c5] rfl rfl 24 #[.slice none 0 0] box_new (info24 _) rfl (slice_one _ _ _) ?_; rw [← HVE.out, ← HWE.out])
          | (refine wpList_store_row rfl 24 (.tmp 2) (.tmp 29) rfl b2 #[.slice a5 n5 c5] rfl rfl 24 _ X27.out (info24 _) rfl (slice_one _ _ _) ?_)
          | fail)
        go_roundw
        case rel => exact ⟨k + 1, l', a5, n5, c5, hlt, by go_num, HF, HOK', Lib.hid (X27.out.row _), Lib.hid (rd_row HV7.out X27.out), Lib.hid (below_row HB7.out H2.out _), Lib.hid (X47.out.far_row (by omega) _)⟩
        case measure => simp [Lib.intOf]; omega
    · have k1 : ¬ ((k : Int) < (n : Int)) := by omega
      have hkn : k = n := by omega
      have HF : Hid (runM l ops = (cur, n, 0)) := Lib.hid (by
        have := HR.out
        rw [List.take_of_length_le (by have := HN.out; omega), hkn] at this
        exact this)
      clear hkn
      have p0 := X2.out.cell (k := 0) rfl
      go_wp2_with (first
        | (refine wpList_store_row rfl 24 (.tmp 4) (.tmp 31) rfl (b2 + 1) #[.slice a3 m3 c3] rfl rfl 24 _ X4.out (info24 _) rfl (slice_one _ _ _) ?_)
        | fail)
      exact bodyPost_ret (end_tree rfl _ (X4.out.row _) rfl rfl rfl) rfl ⟨_, by rw [HF.out]; rfl, by rw [HF.out]; exact rd_row HV.out X4.out, below_row HB.out H4.out _⟩
end Go.Proofs.YtjbbnecegomkcaaGreatDoor

namespace Go.Proofs.YtjbbnecegomkcaaGreatDoor
open Go.ChangeShapes Go.WideShapes Go.ChangeAt Go.RowKit Go.Joins
open Go.ChangeMaps (open_string shut_string)

theorem own0 : ownKnob Tryz.prog.godebug = none := by kernel_rfl
theorem laidOut : laidOutB Tryz.prog = true := by kernel_rfl
theorem cells35 : Tryz.prog.cellsOf 33 = 3 := by kernel_rfl
theorem cells22 : Tryz.prog.cellsOf 22 = 1 := by kernel_rfl
theorem cells24 : Tryz.prog.cellsOf 24 = 1 := by kernel_rfl
theorem cells3 : Tryz.prog.cellsOf 3 = 1 := by kernel_rfl
theorem cells9 : Tryz.prog.cellsOf 9 = 1 := by kernel_rfl
theorem cells4 : Tryz.prog.cellsOf 4 = 1 := by kernel_rfl
theorem cells26 : Tryz.prog.cellsOf 51 = 4 := by kernel_rfl
theorem cells41 : Tryz.prog.cellsOf 49 = 1 := by kernel_rfl
theorem cells106 : Tryz.prog.cellsOf 75 = 3 := by kernel_rfl
theorem gTRoot : Tryz.prog.globalNamed "puncheon/tree.root" = some 1 := by kernel_rfl
theorem gShapes : Tryz.prog.globalNamed "puncheon/tree.shapes" = some 0 := by kernel_rfl
theorem gTRootType : (Tryz.prog.globals[1]?).map (·.type) = some 33 := by kernel_rfl
theorem gShapesType : (Tryz.prog.globals[0]?).map (·.type) = some 76 := by kernel_rfl
theorem root_read {H : Type} {b : It} (h : (.agg [.lit (.string [47]), .lit (.int .i64 1), .lit (.string [])] : DataW H) = .agg [.lit (.string b.path), .lit (.int .i64 b.kind), .lit (.string b.data)]) : b = ⟨[47], 1, []⟩ := by
  obtain ⟨p, k, d⟩ := b
  simp at h
  obtain ⟨rfl, rfl, rfl⟩ := h
  rfl
theorem var_lt {P : Program} {W : World} {n : String} {g : Nat} {cs : Array Value} (hg : P.globalNamed n = some g) (h : W.var? P n = some cs) : g < W.heap.size := by
  unfold World.var? at h
  rw [hg, Option.bind_some] at h
  cases e : W.heap[g]? with
  | none => rw [e] at h; cases h
  | some o => exact (Array.getElem?_eq_some_iff.1 e).1
theorem list3 {α : Type} {l : List α} (h : l.length = 3) : ∃ a b c, l = [a, b, c] := by
  match l, h with
  | [a, b, c], _ => exact ⟨a, b, c, rfl⟩
theorem ba_toArray (s : ByteArray) : (⟨s.data.toList.toArray⟩ : ByteArray) = s := by cases s; rfl
set_option maxRecDepth 100000 in
/-- An item's cells, and its datum. -/
theorem it_of {H : Type} {enc : TypeId × Value → H} {W : World} {base fuel : Nat} {hd : Bool} {cs : List Value} {d : DataW H} {p : List MemPlace} (h : DataW.trod enc Tryz.prog W base (fun _ => true) hd fuel 33 cs = some (d, p)) :
    ∃ b : It, cs = b.cells ∧ d = .agg [.lit (.string b.path), .lit (.int .i64 b.kind), .lit (.string b.data)] := by
  obtain ⟨y0, y1, y2, n, hx, hl, t0, t1, t2⟩ := Go.Deep.trod_struct3 Tryz.underlying33 h
  rw [cells35] at hl
  rw [cells9] at t0 t2
  rw [cells3] at t1
  obtain ⟨s, e0, hy0, _⟩ := DataW.trod_string Tryz.underlying9 t0
  obtain ⟨m, e1, hy1, _⟩ := DataW.trod_int Tryz.underlying3 t1
  obtain ⟨z, e2, hy2, _⟩ := DataW.trod_string Tryz.underlying9 t2
  obtain ⟨q0, q1, q2, rfl⟩ := list3 hl
  simp at e0 e1 e2
  simp only [Prod.mk.injEq] at hx
  refine ⟨⟨s.data.toList, m, z.data.toList⟩, ?_, ?_⟩
  · rw [e0, e1, e2]
    show _ = [Value.string ⟨s.data.toList.toArray⟩, _, Value.string ⟨z.data.toList.toArray⟩]
    rw [ba_toArray, ba_toArray]
  · rw [hx.1, hy0, hy1, hy2]
theorem list4 {α : Type} {l : List α} (h : l.length = 4) : ∃ a b c d, l = [a, b, c, d] := by
  match l, h with
  | [a, b, c, d], _ => exact ⟨a, b, c, d, rfl⟩
set_option maxRecDepth 100000 in
/-- One shape's cells. -/
theorem sh_of {H : Type} {enc : TypeId × Value → H} {W : World} {base fuel : Nat} {hd : Bool} {cs : List Value} {b : Bool} {x y : Int} {p : List MemPlace} (h : DataW.trod enc Tryz.prog W base (fun _ => true) hd fuel 75 cs = some (.agg [.lit (.bool b), .lit (.int .i64 x), .lit (.int .i64 y)], p)) :
    cs = [.bool b, .int .i64 x, .int .i64 y] := by
  obtain ⟨y0, y1, y2, n, hx, hl, t0, t1, t2⟩ := Go.Deep.trod_struct3 Tryz.underlying75 h
  rw [cells106] at hl
  rw [cells4] at t0
  rw [cells3] at t1 t2
  obtain ⟨s, e0, hy0⟩ := DataW.trod_bool Tryz.underlying4 t0
  obtain ⟨m, e1, hy1, _⟩ := DataW.trod_int Tryz.underlying3 t1
  obtain ⟨z, e2, hy2, _⟩ := DataW.trod_int Tryz.underlying3 t2
  obtain ⟨q0, q1, q2, rfl⟩ := list3 hl
  simp at e0 e1 e2
  simp only [Prod.mk.injEq] at hx
  obtain ⟨hd0, _⟩ := hx
  rw [hy0, hy1, hy2] at hd0
  simp at hd0
  obtain ⟨rfl, rfl, rfl⟩ := hd0
  rw [e0, e1, e2]
theorem mid_at {α : Type} (l : List α) (i r : Nat) (hr : r < 3) : ((l.drop (i * 3)).take 3)[r]? = l[i * 3 + r]? := by
  rw [List.getElem?_take, if_pos hr, List.getElem?_drop]
set_option maxRecDepth 100000 in
theorem shapes_of {H : Type} {enc : TypeId × Value → H} {W : World} {base fuel : Nat} {hd : Bool} {cs : List Value} {p : List MemPlace} (h : DataW.trod enc Tryz.prog W base (fun _ => true) hd fuel 76 cs = some (Rows.laid_puncheon_tree_shapes, p)) (j : Nat) (v : Value) (hj : shapesL[j]? = some v) : cs[j]? = some v := by
  have hj24 : j < 24 := (List.getElem?_eq_some_iff.1 hj).1
  obtain ⟨i, r, hr, rfl⟩ : ∃ i r, r < 3 ∧ j = i * 3 + r := ⟨j / 3, j % 3, by omega, by omega⟩
  have hi : i < 8 := by omega
  obtain ⟨f', d, q, hd', ht⟩ := Lib.array_elem Tryz.underlying76 h i hi
  rw [cells106] at ht
  have key : (cs.drop (i * 3)).take 3 = (shapesL.drop (i * 3)).take 3 := by
    have h8 : i = 0 ∨ i = 1 ∨ i = 2 ∨ i = 3 ∨ i = 4 ∨ i = 5 ∨ i = 6 ∨ i = 7 := by omega
    clear hj hj24 hi h
    rcases h8 with rfl | rfl | rfl | rfl | rfl | rfl | rfl | rfl
    all_goals
      obtain rfl := Option.some.inj hd'
      exact (sh_of ht).trans rfl
  rw [← mid_at _ _ _ hr, key, mid_at _ _ _ hr]
  exact hj
/-- WHAT THE ROWS' LIST GIVES, and the shape of the first world. -/
theorem tabs {W : World} (h : laidMetH Tryz.prog Rows.treeRunsUptoRow.laid W) (hsh : W.ShapedOpen Tryz.prog) : TabS W := by
  obtain ⟨ps, ⟨g1, t1, cs1, f1, p1, q1, hg1, ht1, hv1, hd1, ⟨g2, t2, cs2, f2, p2, q2, hg2, ht2, hv2, hd2, _⟩, _⟩, _⟩ := h
  obtain rfl := Option.some.inj (gTRoot.symm.trans hg1)
  obtain rfl := Option.some.inj (gTRootType.symm.trans ht1)
  obtain rfl := Option.some.inj (gShapes.symm.trans hg2)
  obtain rfl := Option.some.inj (gShapesType.symm.trans ht2)
  have e1 : ∀ i, W.cell? ⟨1, i, none⟩ = cs1[i]? := fun i => World.var?_cell gTRoot hv1 i
  have e2 : ∀ i, W.cell? ⟨0, i, none⟩ = cs2[i]? := fun i => World.var?_cell gShapes hv2 i
  obtain ⟨b1, hc1, hb1⟩ := it_of hd1
  have r1 : b1 = ⟨[47], 1, []⟩ := root_read hb1
  subst r1
  have f1 : ∀ i, cs1[i]? = (It.cells ⟨[47], 1, []⟩)[i]? := fun i => by rw [← Array.getElem?_toList, hc1]
  have l5 : 2 < W.heap.size := by
    have hs : (((begin Tryz.prog (fun _ _ => 0) default).world.heap[2]?).bind Obj.row?).isSome = true := by kernel_rfl
    obtain ⟨⟨zero, t⟩, hz⟩ := Option.isSome_iff_exists.1 hs
    obtain ⟨cs, hc, _⟩ := hsh.1 2 zero t (of_decide_eq_true (by kernel_rfl)) hz
    exact (Array.getElem?_eq_some_iff.1 hc).1
  exact ⟨⟨by rw [e1, f1]; rfl, by rw [e1, f1]; rfl, by rw [e1, f1]; rfl, Go.Proofs.cell_of_shapedOpen_int (zero := #[.int .i64 0]) (t := 3) hsh (of_decide_eq_true (by kernel_rfl)) (by kernel_rfl) rfl (by kernel_rfl) (by kernel_rfl) Tryz.underlying3, by omega⟩, fun j v hj => by
    rw [e2, ← Array.getElem?_toList]
    exact shapes_of hd2 j v hj⟩

theorem reach_len {n : Nat} (h : n ≤ reachBytes) : n ≤ 140737488355328 := by
  have h2 := reachBytes_lt
  have e3 : (2 : Nat) ^ 47 = 140737488355328 := by decide
  omega
theorem reach_size (s : ByteArray) (h : s.data.toList.length ≤ reachBytes) : s.size ≤ 140737488355328 := reach_len h
theorem weights_all {H : Type} {P : Program} {e : TypeId} {d : DataW H} : ∀ {l : List (DataW H)}, d ∈ l → ∀ n ∈ d.weights P e, n ∈ DataW.weightsAll P e l
  | d0 :: l, h, n, hn => by
    simp only [DataW.weightsAll, List.mem_append]
    rcases List.mem_cons.1 h with rfl | h
    · exact .inl hn
    · exact .inr (weights_all h n hn)
  | [], h, _, _ => by cases h
theorem bulk_part {H : Type} {d : DataW H} {l : List (DataW H)} (h : d ∈ l) : Rows.uptoBulk d ≤ Rows.uptoBulkAll l := by
  induction l with
  | nil => cases h
  | cons x r ih =>
    simp only [Rows.uptoBulkAll]
    rcases List.mem_cons.1 h with rfl | h
    · omega
    · have := ih h; omega
set_option maxRecDepth 100000 in
/-- An argument that is a slice of items. -/
theorem argI_of {H : Type} {enc : TypeId × Value → H} {W : World} {base fuel : Nat} {hd : Bool} {v : Value} {d : DataW H} {p : List MemPlace}
    (hf : DataW.trod enc Tryz.prog W base (fun _ => true) hd fuel 22 [v] = some (d, p)) (hlt : ∀ x ∈ p, x.block < W.heap.size) : ∃ l, RdI W v l ∧ ∀ x ∈ l, x.path.length ∈ d.weights Tryz.prog 22 ∧ x.path.length ≤ Rows.uptoBulk d := by
  rcases Go.Deep.open_slice Tryz.underlying22 hf with ⟨hcs, _⟩ | ⟨a, len, cap, m, n, D, Pl, hcs, _, hl, hm, hmm, hx, hi⟩
  · simp at hcs
    subst hcs
    exact ⟨[], RdF.nil W, fun x hx => by cases hx⟩
  · simp at hcs
    subst hcs
    simp only [if_true] at hmm
    subst hmm
    simp only [Prod.mk.injEq] at hx
    obtain ⟨hd0, rfl⟩ := hx
    have key : ∀ i : Nat, ∃ b : It, i < m → (∀ (j : Nat), j < 3 → W.cell? ((a.add (i * 3)).add j) = b.cells[j]?) ∧ D i = .agg [.lit (.string b.path), .lit (.int .i64 b.kind), .lit (.string b.data)] := by
      intro i
      by_cases him : i < m
      · obtain ⟨cs', hc, ht⟩ := hi i him
        rw [cells35] at hc
        obtain ⟨_, hcl, hat⟩ := World.cells?_some hc
        obtain ⟨b, rfl, hD⟩ := it_of ht
        exact ⟨b, fun _ => ⟨fun j hj => hat j (by omega), hD⟩⟩
      · exact ⟨It.nil, fun h => absurd h him⟩
    obtain ⟨F, hF⟩ := Classical.axiomOfChoice key
    refine ⟨(List.range len).map F, ⟨some a, m, by simp, by simpa using hl, hm, fun h0 => ?_⟩, fun x hx => ?_⟩
    · have h0' : 0 < len := by simpa using h0
      obtain ⟨g, o, spot⟩ := a
      have hspot : spot = none := by
        have e := (hF 0 (by omega)).1 0 (by omega)
        have := World.cell?_spot (v := .string ⟨(F 0).path.toArray⟩) (e.trans rfl)
        simpa [Addr.add] using this
      subst hspot
      refine ⟨g, o, rfl, hlt (.cell g o) (List.mem_append_left _ (MemPlace.mem_row.2 ⟨0, by rw [cells35]; omega, by simp⟩)), fun j u hu => ?_⟩
      obtain ⟨q, r, hr, rfl⟩ : ∃ q r, r < 3 ∧ j = q * 3 + r := ⟨j / 3, j % 3, by omega, by omega⟩
      rw [flat3 _ q r hr, List.getElem?_map] at hu
      obtain ⟨b, hb, hbu⟩ := Option.bind_eq_some_iff.1 hu
      obtain ⟨i, hi1, rfl⟩ := Option.map_eq_some_iff.1 hb
      have hql : q < len := by simpa using (List.getElem?_eq_some_iff.1 hi1).1
      have e : i = q := by
        have := (List.getElem?_eq_some_iff.1 hi1).2
        simpa using this.symm
      subst e
      have hk := (hF i (by omega)).1 r hr
      rw [addr_add, addr_add, Nat.add_assoc] at hk
      rw [hk]
      exact hbu
    · obtain ⟨i, hi1, rfl⟩ := List.mem_map.1 hx
      have hil : i < len := List.mem_range.1 hi1
      have hD := (hF i (by omega)).2
      refine ⟨?_, ?_⟩
      rotate_left
      · have h1 := bulk_part (d := D i) (List.mem_map.2 ⟨i, hi1, rfl⟩ : D i ∈ (List.range len).map D)
        rw [hD] at h1
        rw [hd0]
        simp only [Rows.uptoBulk, Rows.uptoBulkAll] at h1 ⊢
        omega
      rw [hd0]
      simp only [DataW.weights, Tryz.underlying22, List.mem_cons, List.mem_append]
      refine .inr (.inl (weights_all (d := D i) (List.mem_map.2 ⟨i, hi1, rfl⟩) _ ?_))
      rw [hD]
      simp [DataW.weights, Tryz.underlying33, DataW.weightsEach]
set_option maxRecDepth 100000 in
/-- An argument that is a tree. -/
theorem argT_of {H : Type} {enc : TypeId × Value → H} {W : World} {base fuel : Nat} {hd : Bool} {cs : Array Value} {d : DataW H} {p : List MemPlace}
    (hf : DataW.trod enc Tryz.prog W base (fun _ => true) hd fuel 24 cs.toList = some (d, p)) (hlt : ∀ x ∈ p, x.block < W.heap.size) : ∃ x l, cs = #[x] ∧ RdI W x l ∧ ∀ y ∈ l, y.path.length ∈ d.weights Tryz.prog 24 ∧ y.path.length ≤ Rows.uptoBulk d := by
  obtain ⟨y0, n, hx, hl, t0⟩ := trod_struct1 Tryz.underlying24 hf
  rw [cells24] at hl
  rw [cells22] at t0
  obtain ⟨x, hcx⟩ : ∃ x, cs.toList = [x] := by
    match h : cs.toList, hl with
    | [x], _ => exact ⟨x, rfl⟩
  rw [hcx] at t0
  simp at t0
  simp only [Prod.mk.injEq] at hx
  obtain ⟨hd0, rfl⟩ := hx
  obtain ⟨l, h, hw⟩ := argI_of (d := y0.1) (p := y0.2) t0 hlt
  refine ⟨x, l, Array.ext' hcx, h, fun y hy => ?_⟩
  rw [hd0]
  refine ⟨?_, ?_⟩
  · simp only [DataW.weights, Tryz.underlying24]
    simp only [List.map, DataW.weightsEach, List.append_nil]
    exact (hw y hy).1
  · have := (hw y hy).2
    simp only [Rows.uptoBulk, Rows.uptoBulkAll]
    omega
set_option maxRecDepth 100000 in
theorem okWide_tree {r : Reach} {W : World} {b0 : Nat} {v : Value} (h : Value.okWide Tryz.prog W r b0 24 v) : ∃ cs : Array Value, v = .agg cs := by
  simp only [Value.okWide, Tryz.underlying24] at h
  obtain ⟨cs, h1, _⟩ := h
  exact ⟨cs, h1⟩

set_option maxRecDepth 100000 in
/-- An operation's cells, and its datum. -/
theorem op_of {H : Type} {enc : TypeId × Value → H} {W : World} {base fuel : Nat} {hd : Bool} {cs : List Value} {d : DataW H} {p : List MemPlace} (h : DataW.trod enc Tryz.prog W base (fun _ => true) hd fuel 51 cs = some (d, p)) :
    ∃ b : Opn, cs = b.cells ∧ d = .agg [.lit (.int .i64 b.kind), .lit (.string b.path), .lit (.string b.to), .lit (.string b.data)] := by
  obtain ⟨y0, y1, y2, y3, n, hx, hl, t0, t1, t2, t3⟩ := trod_struct4 Tryz.underlying51 h
  rw [cells26] at hl
  rw [cells3] at t0
  rw [cells9] at t1 t2 t3
  obtain ⟨m, e0, hy0, _⟩ := DataW.trod_int Tryz.underlying3 t0
  obtain ⟨s, e1, hy1, _⟩ := DataW.trod_string Tryz.underlying9 t1
  obtain ⟨z, e2, hy2, _⟩ := DataW.trod_string Tryz.underlying9 t2
  obtain ⟨u, e3, hy3, _⟩ := DataW.trod_string Tryz.underlying9 t3
  obtain ⟨q0, q1, q2, q3, rfl⟩ := list4 hl
  simp at e0 e1 e2 e3
  simp only [Prod.mk.injEq] at hx
  refine ⟨⟨m, s.data.toList, z.data.toList, u.data.toList⟩, ?_, ?_⟩
  · rw [e0, e1, e2, e3]
    show _ = [_, Value.string ⟨s.data.toList.toArray⟩, Value.string ⟨z.data.toList.toArray⟩, Value.string ⟨u.data.toList.toArray⟩]
    rw [ba_toArray, ba_toArray, ba_toArray]
  · rw [hx.1, hy0, hy1, hy2, hy3]
set_option maxRecDepth 100000 in
/-- An argument that is a slice of operations. -/
theorem argO_of {H : Type} {enc : TypeId × Value → H} {W : World} {base fuel : Nat} {hd : Bool} {v : Value} {d : DataW H} {p : List MemPlace}
    (hf : DataW.trod enc Tryz.prog W base (fun _ => true) hd fuel 49 [v] = some (d, p)) (hlt : ∀ x ∈ p, x.block < W.heap.size) : ∃ l, RdO W v l ∧ ∀ x ∈ l, x.path.length ∈ d.weights Tryz.prog 49 ∧ x.to.length ∈ d.weights Tryz.prog 49 ∧ x.path.length ≤ Rows.uptoBulk d ∧ x.to.length ≤ Rows.uptoBulk d := by
  rcases Go.Deep.open_slice Tryz.underlying49 hf with ⟨hcs, _⟩ | ⟨a, len, cap, m, n, D, Pl, hcs, _, hl, hm, hmm, hx, hi⟩
  · simp at hcs
    subst hcs
    exact ⟨[], RdF.nil W, fun x hx => by cases hx⟩
  · simp at hcs
    subst hcs
    simp only [if_true] at hmm
    subst hmm
    simp only [Prod.mk.injEq] at hx
    obtain ⟨hd0, rfl⟩ := hx
    have key : ∀ i : Nat, ∃ b : Opn, i < m → (∀ (j : Nat), j < 4 → W.cell? ((a.add (i * 4)).add j) = b.cells[j]?) ∧ D i = .agg [.lit (.int .i64 b.kind), .lit (.string b.path), .lit (.string b.to), .lit (.string b.data)] := by
      intro i
      by_cases him : i < m
      · obtain ⟨cs', hc, ht⟩ := hi i him
        rw [cells26] at hc
        obtain ⟨_, hcl, hat⟩ := World.cells?_some hc
        obtain ⟨b, rfl, hD⟩ := op_of ht
        exact ⟨b, fun _ => ⟨fun j hj => hat j (by omega), hD⟩⟩
      · exact ⟨⟨0, [], [], []⟩, fun h => absurd h him⟩
    obtain ⟨F, hF⟩ := Classical.axiomOfChoice key
    refine ⟨(List.range len).map F, ⟨some a, m, by simp, by simpa using hl, hm, fun h0 => ?_⟩, fun x hx => ?_⟩
    · have h0' : 0 < len := by simpa using h0
      obtain ⟨g, o, spot⟩ := a
      have hspot : spot = none := by
        have e := (hF 0 (by omega)).1 0 (by omega)
        have := World.cell?_spot (v := .int .i64 (F 0).kind) (e.trans rfl)
        simpa [Addr.add] using this
      subst hspot
      refine ⟨g, o, rfl, hlt (.cell g o) (List.mem_append_left _ (MemPlace.mem_row.2 ⟨0, by rw [cells26]; omega, by simp⟩)), fun j u hu => ?_⟩
      obtain ⟨q, r, hr, rfl⟩ : ∃ q r, r < 4 ∧ j = q * 4 + r := ⟨j / 4, j % 4, by omega, by omega⟩
      rw [flat4 _ q r hr, List.getElem?_map] at hu
      obtain ⟨b, hb, hbu⟩ := Option.bind_eq_some_iff.1 hu
      obtain ⟨i, hi1, rfl⟩ := Option.map_eq_some_iff.1 hb
      have hql : q < len := by simpa using (List.getElem?_eq_some_iff.1 hi1).1
      have e : i = q := by
        have := (List.getElem?_eq_some_iff.1 hi1).2
        simpa using this.symm
      subst e
      have hk := (hF i (by omega)).1 r hr
      rw [addr_add, addr_add, Nat.add_assoc] at hk
      rw [hk]
      exact hbu
    · obtain ⟨i, hi1, rfl⟩ := List.mem_map.1 hx
      have hil : i < len := List.mem_range.1 hi1
      have hD := (hF i (by omega)).2
      have hbk : (F i).path.length ≤ Rows.uptoBulk d ∧ (F i).to.length ≤ Rows.uptoBulk d := by
        have h1 := bulk_part (d := D i) (List.mem_map.2 ⟨i, hi1, rfl⟩ : D i ∈ (List.range len).map D)
        rw [hD] at h1
        rw [hd0]
        simp only [Rows.uptoBulk, Rows.uptoBulkAll] at h1 ⊢
        constructor <;> omega
      rw [hd0] at hbk ⊢
      simp only [DataW.weights, Tryz.underlying49, List.mem_cons, List.mem_append]
      refine ⟨.inr (.inl (weights_all (d := D i) (List.mem_map.2 ⟨i, hi1, rfl⟩) _ ?_)), .inr (.inl (weights_all (d := D i) (List.mem_map.2 ⟨i, hi1, rfl⟩) _ ?_)), hbk.1, hbk.2⟩
      · rw [hD]
        simp [DataW.weights, Tryz.underlying51, DataW.weightsEach]
      · rw [hD]
        simp [DataW.weights, Tryz.underlying51, DataW.weightsEach]

/-- The cells of a plain table's datum. -/
def litV : DataW Unit → Value
  | .lit (.int k z) => .int k z
  | .lit (.bool b) => .bool b
  | .lit (.string s) => .string ⟨s.toArray⟩
  | _ => .nilFunc
def rowV : DataW Unit → List Value
  | .agg l => l.map litV
  | d => [litV d]
def tabV : DataW Unit → List Value
  | .agg l => l.flatMap rowV
  | _ => []
/-- A WORLD FOR THE WITNESSES: the settled one, the tables laid into their variables. -/
noncomputable def laidWorld (os : Os) : World :=
  let w0 := World.holding Tryz.prog os ⟨#[], #[], []⟩
  let put (h : Array Obj) (g : Nat) (cs : List Value) : Array Obj := h.modify g fun
    | .cells _ t frozen => .cells cs.toArray t frozen
    | o => o
  { w0 with heap := put (put w0.heap 1 (tabV Rows.laid_puncheon_tree_root)) 0 (tabV Rows.laid_puncheon_tree_shapes) }
theorem laid_met (os : Os) (args : Array Value) : laidMet Tryz.prog Rows.treeRunsUptoRow.laid ((laidWorld os).forCall (fun _ _ => 0) ⟨#[], args, []⟩).memory :=
  laidMet_of_run' 8 (by kernel_rfl) (by kernel_rfl)
noncomputable abbrev zeroTree : Value := .agg #[.slice none 0 0]
abbrev zeroTreeD {H : Type} : DataW H := .agg [.nil]
end Go.Proofs.YtjbbnecegomkcaaGreatDoor
