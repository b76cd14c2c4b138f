/- Proved here: Do of puncheonref06, for every operation: its ways put together. | Proved here: Same and Run of puncheonref06. | What the last steps of the Tree laws share: what the rows' list gives (the root, and the shapes of operations), a world for the witnesses, and how trees and operations that came in are opened. | Proved here: TreeRuns of puncheonlaw06 returns true, for every tree and row of operations whose paths have at most two million letters each, wherever the tables stand. | Proved: whatever tree and operations TreeRuns of puncheonlaw06 is called with, the call returns true, and all read behind it as they read before (the statement Rows.TreeRunsUptoCardSaid). Condition: what came in holds at most 1048576 values and letters (the statement's own); the tables stand as the program's text lays them (the card ties them). -/
import Derived.Test.YtjbbnecegomkcaaGreatDoorMRe
import Derived.Test.YtjbbnecegomkcaaGreatDoorMRf
import Derived.Test.YtjbbnecegomkcaaGreatDoorCards
import Derived.Test.YtjbbnecegomkcaaGreatDoorTie
import Derived.Test.YtjbbnecegomkcaaGreatDoorMRb
import Derived.ProofKit
import Derived.OpenShut
import Derived.ShutString
import Derived.SizedLaws
import Derived.Lib.SmallJoins
import Derived.Lib.LaidTab
import Derived.Deep.DeepHandedRow
import Derived.LaidMore
import Derived.Lib.LaidU8
import Derived.Shelf.Vars
import Derived.Deep.Slices
import Derived.Deep.Strs
namespace Go.Proofs.YtjbbnecegomkcaaGreatDoor
open Go.RowKit Go.Shelf

theorem rdo_any (l : List It) (v : Value) (o : Opn) (w : World) (hv : RdI w v l) (h : TreeOk l) (hso : o.path.length ≤ 2000000 ∧ o.to.length ≤ 2000000) (r : Except Int (List It)) (hr : doR l o = r) :
    Calls Tryz.prog 30 #[.agg #[v], .agg #[.int .i64 o.kind, .string ⟨o.path.toArray⟩, .string ⟨o.to.toArray⟩, .string ⟨o.data.toArray⟩]] w (TreeE r w) := by
  by_cases k6 : o.kind = 6
  · exact rdo_k6 l v o w hv h k6 hso r hr
  · by_cases k7 : o.kind = 7
    · exact rdo_k7 l v o w hv h k7 hso r hr
    · by_cases k3 : o.kind = 3
      · exact rdo_k3 l v o w hv h k3 hso r hr
      · exact rdo_k1245 l v o w hv h ⟨k3, k6, k7⟩ hso r hr
end Go.Proofs.YtjbbnecegomkcaaGreatDoor

namespace Go.Proofs.YtjbbnecegomkcaaGreatDoor
open Go.RowKit Go.Shelf

set_option maxRecDepth 100000 in
set_option maxHeartbeats 4000000 in
theorem rsame6_any (l m : List It) (v1 v2 : Value) (w : World) (h1 : RdI w v1 l) (h2 : RdI w v2 m) : Calls Tryz.prog 16 #[.agg #[v1], .agg #[v2]] w (EqR (decide (l = m)) w) := by
  obtain ⟨w1, hw1⟩ : ∃ z, z = (w.alloc (.cells #[v1] 24)).alloc (.cells #[v2] 24) := ⟨_, rfl⟩
  have X : Hid (Box w1 w.heap.size 24 #[v1]) := Lib.hid (by rw [hw1]; exact box_new.alloc _)
  have Y : Hid (Box w1 (w.heap.size + 1) 24 #[v2]) := Lib.hid (by rw [hw1, show w.heap.size + 1 = (w.alloc (.cells #[v1] 24)).heap.size from by simp]; exact box_new)
  have HB : Hid (Below w.heap.size w w1) := Lib.hid (by rw [hw1]; exact bch (below_new _ _) (below_new _ _))
  have H1 := Lib.hid (h1.on HB.out)
  have H2 := Lib.hid (h2.on HB.out)
  obtain ⟨a1, cap1, rfl, hlc1, hcm1, _⟩ := h1.open
  obtain ⟨a2, cap2, rfl, hlc2, hcm2, _⟩ := h2.open
  unfold maxLen at hcm1 hcm2
  by_cases hlen : l.length = m.length
  · obtain ⟨n, hn⟩ : ∃ n, n = l.length := ⟨_, rfl⟩
    have HNM : Hid (n = m.length) := Lib.hid (hn.trans hlen)
    rw [← hlen, ← hn] at hlc2 Y H2 hw1
    rw [← hn] at hlc1 X H1
    rw [← hlen, ← hn]
    have HN := Lib.hid hn
    clear hn hlen h1 h2
    have c0 := X.out.cell (k := 0) rfl
    have d0 := Y.out.cell (k := 0) rfl
    have t0 : ((n : Int) != (n : Int)) = false := by simp
    go_enter Tryz.func16, Tryz.ntmps16
    go_upto_region 1 with fail
    rw [← hw1]
    clear hw1
    go_wp2_with fail
    clear c0 d0 t0
    go_loopw [17] (fun i W => ∃ k : Nat, k ≤ n ∧ i = .int .i64 k ∧ Hid (∀ j, j < k → l[j]? = m[j]?) ∧ Hid (Below w1.heap.size w1 W)) (fun i _ => n - (Lib.intOf i).toNat)
    case atStart => exact ⟨0, Nat.zero_le _, rfl, Lib.hid (fun j h => by omega), Lib.hid (Below.refl _ _)⟩
    case round =>
      obtain ⟨k, hk, rfl, HE, HBk⟩ := hrel
      obtain ⟨wq, hwq⟩ : ∃ q, q = wr := ⟨_, rfl⟩
      rw [← hwq] at HBk ⊢
      clear hwq
      by_cases hlt : k < n
      · obtain ⟨p, hp⟩ : ∃ p, l[k]? = some p := ⟨_, List.getElem?_eq_getElem (by have := HN.out; omega)⟩
        obtain ⟨q, hq⟩ : ∃ q, m[k]? = some q := ⟨_, List.getElem?_eq_getElem (by have := HNM.out; omega)⟩
        obtain ⟨a', c', e, _, _, hc1⟩ := (H1.out.on HBk.out).open
        rw [← HN.out] at e
        cases e
        obtain ⟨g1, o1, rfl, hg1, hc1⟩ := hc1 (by have := HN.out; omega)
        obtain ⟨a', c', e, _, _, hc2⟩ := (H2.out.on HBk.out).open
        rw [← HNM.out] at e
        cases e
        obtain ⟨g2, o2, rfl, hg2, hc2⟩ := hc2 (by have := HNM.out; omega)
        obtain ⟨q0, q1, q2⟩ := hc1 k p hp
        have k1 : (k : Int) < (n : Int) := by omega
        have k2 : (0 : Int) ≤ (k : Int) := by omega
        have k4 : IntKind.i64.wrap ((k : Int) + 1) = (k : Int) + 1 := IntWalk.i64_in _ (by omega)
        obtain ⟨w5, hw5⟩ : ∃ q, q = wq.alloc (.cells #[.string ⟨p.path.toArray⟩, .int .i64 p.kind, .string ⟨p.data.toArray⟩] 33) := ⟨_, rfl⟩
        have hb5 : Below wq.heap.size wq w5 := by rw [hw5]; exact below_new _ _
        have HX5 : Hid (Box w5 wq.heap.size 33 p.arr) := Lib.hid (by rw [hw5]; exact box_new)
        have HB5 : Hid (Below w1.heap.size w1 w5) := Lib.hid (bch HBk.out hb5)
        have HQ2 := Lib.hid ((hc2 k q hq).on hg2 hb5)
        have HP := Lib.hid hp
        have HQ := Lib.hid hq
        clear hc1 hc2 hp hq hg1 hg2 hb5
        go_upto_region 6 with fail
        obtain ⟨b7, hb7⟩ : ∃ q, q = wq.heap.size := ⟨_, rfl⟩
        rw [← hb7] at HX5 ⊢
        rw [← hw5]
        clear hw5 hb7 q0 q1 q2
        obtain ⟨d0, d1, d2⟩ := HX5.out.it
        obtain ⟨s0, s1, s2⟩ := HQ2.out
        have y0 := (Y.out.on HB5.out).cell (k := 0) rfl
        have hgd := guard35
        by_cases hpq : p = q
        · have hne := neq35 p q false (by simp [hpq])
          have HE' : Hid (∀ j, j < k + 1 → l[j]? = m[j]?) := Lib.hid (fun j hj => by
            by_cases e : j = k
            · subst e; rw [HP.out, HQ.out, hpq]
            · exact HE.out j (by omega))
          clear hpq
          go_region
          go_wp2
          go_roundw
          case rel => exact ⟨k + 1, hlt, by go_num, HE', Lib.hid HB5.out.drew⟩
          case measure => simp [Lib.intOf]; omega
        · have hne := neq35 p q true (by simp [hpq])
          have HD : Hid (decide (l = m) = false) := Lib.hid (decide_eq_false (list_ne HP.out HQ.out hpq))
          clear hpq
          go_region
          go_wp2
          go_ret
          exact ⟨by rw [HD.out]; rfl, (bch HB.out HB5.out).drew⟩
      · have k1 : ¬ ((k : Int) < (n : Int)) := by omega
        have HD : Hid (decide (l = m) = true) := Lib.hid (decide_eq_true (List.ext_getElem? fun j => by
          by_cases h : j < k
          · exact HE.out j h
          · rw [List.getElem?_eq_none (by have := HN.out; omega), List.getElem?_eq_none (by have := HNM.out; omega)]))
        go_wp2_with fail
        go_ret
        exact ⟨by rw [HD.out]; rfl, bch HB.out HBk.out⟩
  · have HD : decide (l = m) = false := decide_eq_false fun e => hlen (by rw [e])
    obtain ⟨n1, hn1⟩ : ∃ n, n = l.length := ⟨_, rfl⟩
    obtain ⟨n2, hn2⟩ : ∃ n, n = m.length := ⟨_, rfl⟩
    rw [← hn1, ← hn2] at hlen
    rw [← hn1] at X hw1
    rw [← hn2] at Y hw1
    rw [← hn1, ← hn2]
    rw [HD]
    have c0 := X.out.cell (k := 0) rfl
    have d0 := Y.out.cell (k := 0) rfl
    have t0 : ((n1 : Int) != (n2 : Int)) = true := by simp; omega
    have t1 : ¬ (n1 : Int) = (n2 : Int) := by omega
    have t2 : ((n1 : Int) == (n2 : Int)) = false := by simp; omega
    clear h1 h2 hlen HD hlc1 hlc2 hn1 hn2 H1 H2
    go_enter Tryz.func16, Tryz.ntmps16
    go_upto_region 1 with fail
    rw [← hw1]
    clear hw1
    go_wp2_with fail
    go_ret
    exact ⟨rfl, HB.out⟩

/-! ### Run -/
theorem runR_app (l : List It) (a b : List Opn) (h : (runM l a).2.2 = 0) : runM l (a ++ b) = ((runM (runM l a).1 b).1, a.length + (runM (runM l a).1 b).2.1, (runM (runM l a).1 b).2.2) := by
  induction a generalizing l with
  | nil => simp [runM]
  | cons o a ih =>
    cases e : actM l o with
    | error k =>
      rw [run_no e] at h
      exact absurd h (act_err e)
    | ok l' =>
      rw [run_yes e] at h
      rw [List.cons_append, run_yes e, run_yes e, ih l' h]
      refine Prod.ext rfl (Prod.ext ?_ rfl)
      simp only [List.length_cons]; omega
theorem run_take_yes {l cur l' : List It} {ops : List Opn} {k : Nat} {o : Opn} (ho : ops[k]? = some o) (h : runM l (ops.take k) = (cur, k, 0)) (e : actM cur o = .ok l') : runM l (ops.take (k + 1)) = (l', k + 1, 0) := by
  have hk : k < ops.length := (List.getElem?_eq_some_iff.1 ho).1
  rw [List.take_add_one, ho, Option.toList_some, runR_app l _ _ (by rw [h]), h]
  simp only
  rw [run_yes e]
  simp [runM]; omega
theorem run_take_no {l cur : List It} {ops : List Opn} {k : Nat} {o : Opn} {z : Int} (ho : ops[k]? = some o) (h : runM l (ops.take k) = (cur, k, 0)) (e : actM cur o = .error z) : runM l ops = (cur, k, z) := by
  have hk : k < ops.length := (List.getElem?_eq_some_iff.1 ho).1
  have hd : ops = ops.take k ++ o :: ops.drop (k + 1) := by
    have e2 := List.drop_eq_getElem_cons hk
    rw [(List.getElem?_eq_some_iff.1 ho).2] at e2
    rw [← e2, List.take_append_drop]
  rw [hd, runR_app l _ _ (by rw [h]), h]
  simp only
  rw [run_no e]
  simp; omega
theorem rd_row {W : World} {b : Nat} {v : Value} {l : List It} {a : Option Addr} {m c : Nat} {cs : Array Value} (h : RdI W v l) (X : Box W b 24 #[.slice a m c]) : RdI (W.setRow b cs) v l := by
  obtain ⟨a', c', h1, h2, h3, h4⟩ := h
  refine ⟨a', c', h1, h2, h3, fun h0 => ?_⟩
  obtain ⟨g, o, e, hg, hc⟩ := h4 h0
  obtain ⟨x, r, hl⟩ : ∃ x r, l = x :: r := by cases l with | nil => exact absurd h0 (by simp) | cons x r => exact ⟨x, r, rfl⟩
  have hne : g ≠ b := fun e2 => by
    subst e2
    have q := hc 0 (.string ⟨x.path.toArray⟩) (by rw [hl, flatI_cons]; rfl)
    have q2 := cell_of_row W g (o + 0) #[.slice a m c] 24 (0, 0) X
    rw [q2] at q
    cases ho : o + 0 with
    | zero => rw [ho] at q; simp at q
    | succ j => rw [ho] at q; simp at q
  refine ⟨g, o, e, by rw [setRow_size]; exact hg, fun j u hu => ?_⟩
  have := hc j u hu
  unfold World.cell? at this ⊢
  rw [setRow_other W b g cs hne]
  exact this
def ROpR (l : List It) (ops : List Opn) (w : World) (e : Ending) (w' : World) : Prop := ∃ v', e = .returned (.tuple #[.agg #[v'], .int .i64 ((runM l ops).2.1 : Nat), .int .i64 (runM l ops).2.2]) ∧ RdI w' v' (runM l ops).1 ∧ Below w.heap.size w w'
set_option maxRecDepth 100000 in
set_option maxHeartbeats 16000000 in
theorem rrun_any (l : List It) (v vo : Value) (ops : List Opn) (w : World) (hv : RdI w v l) (h : TreeOk l) (ho : RdO w vo ops) (hso : ∀ o ∈ ops, o.path.length ≤ 2000000 ∧ o.to.length ≤ 2000000) :
    Calls Tryz.prog 32 #[.agg #[v], vo] w (ROpR l ops w) := by
  obtain ⟨w1, hw1⟩ : ∃ z, z = (w.alloc (.cells #[v] 24)).alloc (.cells #[.slice none 0 0] 24) := ⟨_, rfl⟩
  obtain ⟨b2, hb2⟩ : ∃ z, z = w.heap.size := ⟨_, rfl⟩
  have X2 : Hid (Box w1 b2 24 #[v]) := Lib.hid (by rw [hw1, hb2]; exact box_new.alloc _)
  have X4 : Hid (Box w1 (b2 + 1) 24 #[.slice none 0 0]) := Lib.hid (by rw [hw1, hb2, show w.heap.size + 1 = (w.alloc (.cells #[v] 24)).heap.size from by simp]; exact box_new)
  have HB : Hid (Below w.heap.size w w1) := Lib.hid (by rw [hw1]; exact bch (below_new _ _) (below_new _ _))
  have H2 : Hid (w.heap.size ≤ b2) := Lib.hid (by omega)
  have H4 : Hid (w.heap.size ≤ b2 + 1) := Lib.hid (by omega)
  have HV := Lib.hid (hv.on HB.out)
  have HO : Hid (RdO w vo ops) := Lib.hid ho
  have HOK := Lib.hid h
  have HSO := Lib.hid hso
  have HBE := Lib.hid hb2
  obtain ⟨a, c, rfl, hlc, hcm, _⟩ := hv.open
  obtain ⟨ao, co, rfl, hlo, hcmo, _⟩ := ho.open
  obtain ⟨m, hm⟩ : ∃ m, m = l.length := ⟨_, rfl⟩
  rw [← hm] at HV X2 hw1 ⊢
  obtain ⟨n, hn⟩ : ∃ n, n = ops.length := ⟨_, rfl⟩
  rw [← hn] at HO hlo ⊢
  have HN := Lib.hid hn
  unfold maxLen at hcmo
  clear hv h ho hso hb2 hm hn hlc
  go_enter Tryz.func32, Tryz.ntmps32
  go_upto_region 1 with fail
  rw [← HBE.out, ← hw1]
  clear hw1
  go_wp2_with fail
  go_loopw [13] (fun i W => ∃ (k : Nat) (cur : List It) (a3 : Option Addr) (m3 c3 : Nat), k ≤ n ∧ i = .int .i64 k ∧ Hid (runM l (ops.take k) = (cur, k, 0)) ∧ Hid (TreeOk cur) ∧ Hid (Box W b2 24 #[.slice a3 m3 c3]) ∧ Hid (RdI W (.slice a3 m3 c3) cur) ∧ Hid (Below w.heap.size w W) ∧ Hid (Box W (b2 + 1) 24 #[.slice none 0 0])) (fun i _ => n - (Lib.intOf i).toNat)
  case atStart => exact ⟨0, l, a, m, c, Nat.zero_le _, rfl, Lib.hid (by simp [runM]), HOK, X2, HV, HB, X4⟩
  case round =>
    clear X2 X4 HV HB
    obtain ⟨k, cur, a3, m3, c3, hk, rfl, HR, HCK, X2, HV, HB, X4⟩ := hrel
    obtain ⟨wq, hwq⟩ : ∃ q, q = wr := ⟨_, rfl⟩
    rw [← hwq] at X2 HV HB X4 ⊢
    clear hwq
    by_cases hlt : k < n
    · obtain ⟨o, ho⟩ : ∃ x, ops[k]? = some x := ⟨_, List.getElem?_eq_getElem (by rw [← HN.out]; exact hlt)⟩
      obtain ⟨a', c', e, _, _, hc⟩ := RdO.open (l := ops) (RdF.on HO.out HB.out)
      rw [← HN.out] at e
      cases e
      obtain ⟨g, q, rfl, hg, hc⟩ := hc (by rw [← HN.out]; omega)
      obtain ⟨q0, q1, q2, q3⟩ := hc k o ho
      have k1 : (k : Int) < (n : Int) := by omega
      have k2 : (0 : Int) ≤ (k : Int) := by omega
      have k4 : IntKind.i64.wrap ((k : Int) + 1) = (k : Int) + 1 := IntWalk.i64_in _ (by omega)
      obtain ⟨w5, hw5⟩ : ∃ q, q = wq.alloc (.cells #[.int .i64 o.kind, .string ⟨o.path.toArray⟩, .string ⟨o.to.toArray⟩, .string ⟨o.data.toArray⟩] 51) := ⟨_, rfl⟩
      have hb5 : Below wq.heap.size wq w5 := by rw [hw5]; exact below_new _ _
      have HO5 : Hid (Box w5 wq.heap.size 51 o.arr) := Lib.hid (by rw [hw5]; exact box_new)
      have X25 := Lib.hid (X2.out.on hb5)
      have X45 := Lib.hid (X4.out.on hb5)
      have HV5 := Lib.hid (HV.out.on hb5)
      have HB5 := Lib.hid (bch HB.out hb5)
      obtain ⟨r, hr⟩ : ∃ r, r = doR cur o := ⟨_, rfl⟩
      have HRA : Hid (r = actM cur o) := Lib.hid (by rw [hr]; exact do_is HCK.out o)
      have HDO : Hid (Calls Tryz.prog 30 #[.agg #[.slice a3 m3 c3], .agg #[.int .i64 o.kind, .string ⟨o.path.toArray⟩, .string ⟨o.to.toArray⟩, .string ⟨o.data.toArray⟩]] w5 (TreeE r w5)) := Lib.hid (rdo_any cur (.slice a3 m3 c3) o w5 HV5.out HCK.out (HSO.out o (List.mem_of_getElem? ho)) r hr.symm)
      have HOO := Lib.hid ho
      clear hc hg ho hb5 hr
      go_upto_region 4 with fail
      obtain ⟨b8, hb8⟩ : ∃ q, q = wq.heap.size := ⟨_, rfl⟩
      rw [← hb8] at HO5 ⊢
      rw [← hw5]
      clear hw5 hb8 q0 q1 q2 q3
      have m0 : w5.cell? ⟨b8, 0, none⟩ = some (.int .i64 o.kind) := HO5.out.cell (k := 0) rfl
      have m1 : w5.cell? ⟨b8, 1, none⟩ = some (.string ⟨o.path.toArray⟩) := HO5.out.cell (k := 1) rfl
      have m2 : w5.cell? ⟨b8, 2, none⟩ = some (.string ⟨o.to.toArray⟩) := HO5.out.cell (k := 2) rfl
      have m3' : w5.cell? ⟨b8, 3, none⟩ = some (.string ⟨o.data.toArray⟩) := HO5.out.cell (k := 3) rfl
      have p0 := X25.out.cell (k := 0) rfl
      go_wp2_with fail
      clear m0 m1 m2 m3' p0
      refine HDO.out.mono ?_
      rintro e w6 ⟨hb, hcs⟩
      have X26 := Lib.hid (X25.out.on hb)
      have X46 := Lib.hid (X45.out.on hb)
      have HV6 := Lib.hid (HV5.out.on hb)
      have HB6 := Lib.hid (bch HB5.out hb)
      clear hb HDO
      rcases hcs with ⟨z, hz, rfl⟩ | ⟨l', v5, hz, rfl, hown⟩
      · have HAE : Hid (actM cur o = .error z) := Lib.hid (by rw [← HRA.out]; exact hz)
        have hzn : z ≠ 0 := act_err HAE.out
        have t1 : (z == 0) = false := by simpa using hzn
        have t2 : (z != 0) = true := by simpa using hzn
        have HF := Lib.hid (run_take_no HOO.out HR.out HAE.out)
        clear hz hzn
        obtain ⟨VE, hVE⟩ : ∃ z, z = (w6.alloc (.cells #[.slice none 0 0] 24)).setRow w6.heap.size #[.slice none 0 0] := ⟨_, rfl⟩
        obtain ⟨bE, hbE⟩ : ∃ z, z = w6.heap.size := ⟨_, rfl⟩
        have hnE : Below w6.heap.size w6 VE := by rw [hVE]; exact below_row (below_new _ _) (Nat.le_refl _) _
        have HVE := Lib.hid hVE
        have HWE := Lib.hid hbE
        have X27 := Lib.hid (X26.out.on hnE)
        have X47 := Lib.hid (X46.out.on hnE)
        have HV7 := Lib.hid (HV6.out.on hnE)
        have HB7 := Lib.hid (bch HB6.out hnE)
        have p0 := X27.out.cell (k := 0) rfl
        clear hVE hbE hnE
        go_wp2_with (first
          | (refine wpList_store_row rfl 24 (.tmp 9) (.tmp 22) rfl w6.heap.size #[.slice none 0 0] rfl rfl 24 #[.slice none 0 0] box_new (info24 _) rfl (slice_one _ _ _) ?_; rw [← HVE.out, ← HWE.out])
          | (refine wpList_store_row rfl 24 (.tmp 4) (.tmp 26) rfl (b2 + 1) #[.slice a3 m3 c3] rfl rfl 24 _ X47.out (info24 _) rfl (slice_one _ _ _) ?_)
          | fail)
        exact bodyPost_ret (end_tree rfl _ (X47.out.row _) rfl rfl rfl) rfl ⟨_, by rw [HF.out]; rfl, by rw [HF.out]; exact rd_row HV7.out X47.out, below_row HB7.out H4.out _⟩
      · have HAE : Hid (actM cur o = .ok l') := Lib.hid (by rw [← HRA.out]; exact hz)
        have HF := Lib.hid (run_take_yes HOO.out HR.out HAE.out)
        have HOK' : Hid (TreeOk l') := Lib.hid (act_goes HCK.out HAE.out).2.ok
        obtain ⟨a5, n5, c5, rfl⟩ := own_any hown
        have HW6 := Lib.hid hown.rd
        clear hz hown
        obtain ⟨VE, hVE⟩ : ∃ z, z = (w6.alloc (.cells #[.slice none 0 0] 24)).setRow w6.heap.size #[.slice a5 n5 c5] := ⟨_, rfl⟩
        obtain ⟨bE, hbE⟩ : ∃ z, z = w6.heap.size := ⟨_, rfl⟩
        have hnE : Below w6.heap.size w6 VE := by rw [hVE]; exact below_row (below_new _ _) (Nat.le_refl _) _
        have XE : Hid (Box VE bE 24 #[.slice a5 n5 c5]) := Lib.hid (by rw [hVE, hbE]; exact Box.row (box_new (w := w6) (t := 24) (cs := #[.slice none 0 0])) _)
        have HVE := Lib.hid hVE
        have HWE := Lib.hid hbE
        have X27 := Lib.hid (X26.out.on hnE)
        have X47 := Lib.hid (X46.out.on hnE)
        have HV7 := Lib.hid (HW6.out.on hnE)
        have HB7 := Lib.hid (bch HB6.out hnE)
        have p0 := XE.out.cell (k := 0) rfl
        clear hVE hbE hnE
        go_wp2_with (first
          | (refine wpList_store_row rfl 24 (.tmp 9) (.tmp 22) rfl w6.heap.size #[.slice a5 n5 c5] rfl rfl 24 #[.slice none 0 0] box_new (info24 _) rfl (slice_one _ _ _) ?_; rw [← HVE.out, ← HWE.out])
          | (refine wpList_store_row rfl 24 (.tmp 2) (.tmp 29) rfl b2 #[.slice a5 n5 c5] rfl rfl 24 _ X27.out (info24 _) rfl (slice_one _ _ _) ?_)
          | fail)
        go_roundw
        case rel => exact ⟨k + 1, l', a5, n5, c5, hlt, by go_num, HF, HOK', Lib.hid (X27.out.row _), Lib.hid (rd_row HV7.out X27.out), Lib.hid (below_row HB7.out H2.out _), Lib.hid (X47.out.far_row (by omega) _)⟩
        case measure => simp [Lib.intOf]; omega
    · have k1 : ¬ ((k : Int) < (n : Int)) := by omega
      have hkn : k = n := by omega
      have HF : Hid (runM l ops = (cur, n, 0)) := Lib.hid (by
        have := HR.out
        rw [List.take_of_length_le (by have := HN.out; omega), hkn] at this
        exact this)
      clear hkn
      have p0 := X2.out.cell (k := 0) rfl
      go_wp2_with (first
        | (refine wpList_store_row rfl 24 (.tmp 4) (.tmp 31) rfl (b2 + 1) #[.slice a3 m3 c3] rfl rfl 24 _ X4.out (info24 _) rfl (slice_one _ _ _) ?_)
        | fail)
      exact bodyPost_ret (end_tree rfl _ (X4.out.row _) rfl rfl rfl) rfl ⟨_, by rw [HF.out]; rfl, by rw [HF.out]; exact rd_row HV.out X4.out, below_row HB.out H4.out _⟩
end Go.Proofs.YtjbbnecegomkcaaGreatDoor

namespace Go.Proofs.YtjbbnecegomkcaaGreatDoor
open Go.ChangeShapes Go.WideShapes Go.ChangeAt Go.RowKit Go.Joins
open Go.ChangeMaps (open_string shut_string)

theorem own0 : ownKnob Tryz.prog.godebug = none := by kernel_rfl
theorem laidOut : laidOutB Tryz.prog = true := by kernel_rfl
theorem cells35 : Tryz.prog.cellsOf 33 = 3 := by kernel_rfl
theorem cells22 : Tryz.prog.cellsOf 22 = 1 := by kernel_rfl
theorem cells24 : Tryz.prog.cellsOf 24 = 1 := by kernel_rfl
theorem cells3 : Tryz.prog.cellsOf 3 = 1 := by kernel_rfl
theorem cells9 : Tryz.prog.cellsOf 9 = 1 := by kernel_rfl
theorem cells4 : Tryz.prog.cellsOf 4 = 1 := by kernel_rfl
theorem cells26 : Tryz.prog.cellsOf 51 = 4 := by kernel_rfl
theorem cells41 : Tryz.prog.cellsOf 49 = 1 := by kernel_rfl
theorem cells106 : Tryz.prog.cellsOf 75 = 3 := by kernel_rfl
theorem gTRoot : Tryz.prog.globalNamed "puncheon/tree.root" = some 1 := by kernel_rfl
theorem gShapes : Tryz.prog.globalNamed "puncheon/tree.shapes" = some 0 := by kernel_rfl
theorem gTRootType : (Tryz.prog.globals[1]?).map (·.type) = some 33 := by kernel_rfl
theorem gShapesType : (Tryz.prog.globals[0]?).map (·.type) = some 76 := by kernel_rfl
theorem root_read {H : Type} {b : It} (h : (.agg [.lit (.string [47]), .lit (.int .i64 1), .lit (.string [])] : DataW H) = .agg [.lit (.string b.path), .lit (.int .i64 b.kind), .lit (.string b.data)]) : b = ⟨[47], 1, []⟩ := by
  obtain ⟨p, k, d⟩ := b
  simp at h
  obtain ⟨rfl, rfl, rfl⟩ := h
  rfl
theorem var_lt {P : Program} {W : World} {n : String} {g : Nat} {cs : Array Value} (hg : P.globalNamed n = some g) (h : W.var? P n = some cs) : g < W.heap.size := by
  unfold World.var? at h
  rw [hg, Option.bind_some] at h
  cases e : W.heap[g]? with
  | none => rw [e] at h; cases h
  | some o => exact (Array.getElem?_eq_some_iff.1 e).1
theorem list3 {α : Type} {l : List α} (h : l.length = 3) : ∃ a b c, l = [a, b, c] := by
  match l, h with
  | [a, b, c], _ => exact ⟨a, b, c, rfl⟩
theorem ba_toArray (s : ByteArray) : (⟨s.data.toList.toArray⟩ : ByteArray) = s := by cases s; rfl
set_option maxRecDepth 100000 in
/-- An item's cells, and its datum. -/
theorem it_of {H : Type} {enc : TypeId × Value → H} {W : World} {base fuel : Nat} {hd : Bool} {cs : List Value} {d : DataW H} {p : List MemPlace} (h : DataW.trod enc Tryz.prog W base (fun _ => true) hd fuel 33 cs = some (d, p)) :
    ∃ b : It, cs = b.cells ∧ d = .agg [.lit (.string b.path), .lit (.int .i64 b.kind), .lit (.string b.data)] := by
  obtain ⟨y0, y1, y2, n, hx, hl, t0, t1, t2⟩ := Go.Deep.trod_struct3 Tryz.underlying33 h
  rw [cells35] at hl
  rw [cells9] at t0 t2
  rw [cells3] at t1
  obtain ⟨s, e0, hy0, _⟩ := DataW.trod_string Tryz.underlying9 t0
  obtain ⟨m, e1, hy1, _⟩ := DataW.trod_int Tryz.underlying3 t1
  obtain ⟨z, e2, hy2, _⟩ := DataW.trod_string Tryz.underlying9 t2
  obtain ⟨q0, q1, q2, rfl⟩ := list3 hl
  simp at e0 e1 e2
  simp only [Prod.mk.injEq] at hx
  refine ⟨⟨s.data.toList, m, z.data.toList⟩, ?_, ?_⟩
  · rw [e0, e1, e2]
    show _ = [Value.string ⟨s.data.toList.toArray⟩, _, Value.string ⟨z.data.toList.toArray⟩]
    rw [ba_toArray, ba_toArray]
  · rw [hx.1, hy0, hy1, hy2]
theorem list4 {α : Type} {l : List α} (h : l.length = 4) : ∃ a b c d, l = [a, b, c, d] := by
  match l, h with
  | [a, b, c, d], _ => exact ⟨a, b, c, d, rfl⟩
set_option maxRecDepth 100000 in
/-- One shape's cells. -/
theorem sh_of {H : Type} {enc : TypeId × Value → H} {W : World} {base fuel : Nat} {hd : Bool} {cs : List Value} {b : Bool} {x y : Int} {p : List MemPlace} (h : DataW.trod enc Tryz.prog W base (fun _ => true) hd fuel 75 cs = some (.agg [.lit (.bool b), .lit (.int .i64 x), .lit (.int .i64 y)], p)) :
    cs = [.bool b, .int .i64 x, .int .i64 y] := by
  obtain ⟨y0, y1, y2, n, hx, hl, t0, t1, t2⟩ := Go.Deep.trod_struct3 Tryz.underlying75 h
  rw [cells106] at hl
  rw [cells4] at t0
  rw [cells3] at t1 t2
  obtain ⟨s, e0, hy0⟩ := DataW.trod_bool Tryz.underlying4 t0
  obtain ⟨m, e1, hy1, _⟩ := DataW.trod_int Tryz.underlying3 t1
  obtain ⟨z, e2, hy2, _⟩ := DataW.trod_int Tryz.underlying3 t2
  obtain ⟨q0, q1, q2, rfl⟩ := list3 hl
  simp at e0 e1 e2
  simp only [Prod.mk.injEq] at hx
  obtain ⟨hd0, _⟩ := hx
  rw [hy0, hy1, hy2] at hd0
  simp at hd0
  obtain ⟨rfl, rfl, rfl⟩ := hd0
  rw [e0, e1, e2]
theorem mid_at {α : Type} (l : List α) (i r : Nat) (hr : r < 3) : ((l.drop (i * 3)).take 3)[r]? = l[i * 3 + r]? := by
  rw [List.getElem?_take, if_pos hr, List.getElem?_drop]
set_option maxRecDepth 100000 in
theorem shapes_of {H : Type} {enc : TypeId × Value → H} {W : World} {base fuel : Nat} {hd : Bool} {cs : List Value} {p : List MemPlace} (h : DataW.trod enc Tryz.prog W base (fun _ => true) hd fuel 76 cs = some (Rows.laid_puncheon_tree_shapes, p)) (j : Nat) (v : Value) (hj : shapesL[j]? = some v) : cs[j]? = some v := by
  have hj24 : j < 24 := (List.getElem?_eq_some_iff.1 hj).1
  obtain ⟨i, r, hr, rfl⟩ : ∃ i r, r < 3 ∧ j = i * 3 + r := ⟨j / 3, j % 3, by omega, by omega⟩
  have hi : i < 8 := by omega
  obtain ⟨f', d, q, hd', ht⟩ := Lib.array_elem Tryz.underlying76 h i hi
  rw [cells106] at ht
  have key : (cs.drop (i * 3)).take 3 = (shapesL.drop (i * 3)).take 3 := by
    have h8 : i = 0 ∨ i = 1 ∨ i = 2 ∨ i = 3 ∨ i = 4 ∨ i = 5 ∨ i = 6 ∨ i = 7 := by omega
    clear hj hj24 hi h
    rcases h8 with rfl | rfl | rfl | rfl | rfl | rfl | rfl | rfl
    all_goals
      obtain rfl := Option.some.inj hd'
      exact (sh_of ht).trans rfl
  rw [← mid_at _ _ _ hr, key, mid_at _ _ _ hr]
  exact hj
/-- WHAT THE ROWS' LIST GIVES, and the shape of the first world. -/
theorem tabs {W : World} (h : laidMetH Tryz.prog Rows.treeRunsUptoRow.laid W) (hsh : W.ShapedOpen Tryz.prog) : TabS W := by
  obtain ⟨ps, ⟨g1, t1, cs1, f1, p1, q1, hg1, ht1, hv1, hd1, ⟨g2, t2, cs2, f2, p2, q2, hg2, ht2, hv2, hd2, _⟩, _⟩, _⟩ := h
  obtain rfl := Option.some.inj (gTRoot.symm.trans hg1)
  obtain rfl := Option.some.inj (gTRootType.symm.trans ht1)
  obtain rfl := Option.some.inj (gShapes.symm.trans hg2)
  obtain rfl := Option.some.inj (gShapesType.symm.trans ht2)
  have e1 : ∀ i, W.cell? ⟨1, i, none⟩ = cs1[i]? := fun i => World.var?_cell gTRoot hv1 i
  have e2 : ∀ i, W.cell? ⟨0, i, none⟩ = cs2[i]? := fun i => World.var?_cell gShapes hv2 i
  obtain ⟨b1, hc1, hb1⟩ := it_of hd1
  have r1 : b1 = ⟨[47], 1, []⟩ := root_read hb1
  subst r1
  have f1 : ∀ i, cs1[i]? = (It.cells ⟨[47], 1, []⟩)[i]? := fun i => by rw [← Array.getElem?_toList, hc1]
  have l5 : 2 < W.heap.size := by
    have hs : (((begin Tryz.prog (fun _ _ => 0) default).world.heap[2]?).bind Obj.row?).isSome = true := by kernel_rfl
    obtain ⟨⟨zero, t⟩, hz⟩ := Option.isSome_iff_exists.1 hs
    obtain ⟨cs, hc, _⟩ := hsh.1 2 zero t (of_decide_eq_true (by kernel_rfl)) hz
    exact (Array.getElem?_eq_some_iff.1 hc).1
  exact ⟨⟨by rw [e1, f1]; rfl, by rw [e1, f1]; rfl, by rw [e1, f1]; rfl, Go.Proofs.cell_of_shapedOpen_int (zero := #[.int .i64 0]) (t := 3) hsh (of_decide_eq_true (by kernel_rfl)) (by kernel_rfl) rfl (by kernel_rfl) (by kernel_rfl) Tryz.underlying3, by omega⟩, fun j v hj => by
    rw [e2, ← Array.getElem?_toList]
    exact shapes_of hd2 j v hj⟩

theorem reach_len {n : Nat} (h : n ≤ reachBytes) : n ≤ 140737488355328 := by
  have h2 := reachBytes_lt
  have e3 : (2 : Nat) ^ 47 = 140737488355328 := by decide
  omega
theorem reach_size (s : ByteArray) (h : s.data.toList.length ≤ reachBytes) : s.size ≤ 140737488355328 := reach_len h
theorem weights_all {H : Type} {P : Program} {e : TypeId} {d : DataW H} : ∀ {l : List (DataW H)}, d ∈ l → ∀ n ∈ d.weights P e, n ∈ DataW.weightsAll P e l
  | d0 :: l, h, n, hn => by
    simp only [DataW.weightsAll, List.mem_append]
    rcases List.mem_cons.1 h with rfl | h
    · exact .inl hn
    · exact .inr (weights_all h n hn)
  | [], h, _, _ => by cases h
theorem bulk_part {H : Type} {d : DataW H} {l : List (DataW H)} (h : d ∈ l) : Rows.uptoBulk d ≤ Rows.uptoBulkAll l := by
  induction l with
  | nil => cases h
  | cons x r ih =>
    simp only [Rows.uptoBulkAll]
    rcases List.mem_cons.1 h with rfl | h
    · omega
    · have := ih h; omega
set_option maxRecDepth 100000 in
/-- An argument that is a slice of items. -/
theorem argI_of {H : Type} {enc : TypeId × Value → H} {W : World} {base fuel : Nat} {hd : Bool} {v : Value} {d : DataW H} {p : List MemPlace}
    (hf : DataW.trod enc Tryz.prog W base (fun _ => true) hd fuel 22 [v] = some (d, p)) (hlt : ∀ x ∈ p, x.block < W.heap.size) : ∃ l, RdI W v l ∧ ∀ x ∈ l, x.path.length ∈ d.weights Tryz.prog 22 ∧ x.path.length ≤ Rows.uptoBulk d := by
  rcases Go.Deep.open_slice Tryz.underlying22 hf with ⟨hcs, _⟩ | ⟨a, len, cap, m, n, D, Pl, hcs, _, hl, hm, hmm, hx, hi⟩
  · simp at hcs
    subst hcs
    exact ⟨[], RdF.nil W, fun x hx => by cases hx⟩
  · simp at hcs
    subst hcs
    simp only [if_true] at hmm
    subst hmm
    simp only [Prod.mk.injEq] at hx
    obtain ⟨hd0, rfl⟩ := hx
    have key : ∀ i : Nat, ∃ b : It, i < m → (∀ (j : Nat), j < 3 → W.cell? ((a.add (i * 3)).add j) = b.cells[j]?) ∧ D i = .agg [.lit (.string b.path), .lit (.int .i64 b.kind), .lit (.string b.data)] := by
      intro i
      by_cases him : i < m
      · obtain ⟨cs', hc, ht⟩ := hi i him
        rw [cells35] at hc
        obtain ⟨_, hcl, hat⟩ := World.cells?_some hc
        obtain ⟨b, rfl, hD⟩ := it_of ht
        exact ⟨b, fun _ => ⟨fun j hj => hat j (by omega), hD⟩⟩
      · exact ⟨It.nil, fun h => absurd h him⟩
    obtain ⟨F, hF⟩ := Classical.axiomOfChoice key
    refine ⟨(List.range len).map F, ⟨some a, m, by simp, by simpa using hl, hm, fun h0 => ?_⟩, fun x hx => ?_⟩
    · have h0' : 0 < len := by simpa using h0
      obtain ⟨g, o, spot⟩ := a
      have hspot : spot = none := by
        have e := (hF 0 (by omega)).1 0 (by omega)
        have := World.cell?_spot (v := .string ⟨(F 0).path.toArray⟩) (e.trans rfl)
        simpa [Addr.add] using this
      subst hspot
      refine ⟨g, o, rfl, hlt (.cell g o) (List.mem_append_left _ (MemPlace.mem_row.2 ⟨0, by rw [cells35]; omega, by simp⟩)), fun j u hu => ?_⟩
      obtain ⟨q, r, hr, rfl⟩ : ∃ q r, r < 3 ∧ j = q * 3 + r := ⟨j / 3, j % 3, by omega, by omega⟩
      rw [flat3 _ q r hr, List.getElem?_map] at hu
      obtain ⟨b, hb, hbu⟩ := Option.bind_eq_some_iff.1 hu
      obtain ⟨i, hi1, rfl⟩ := Option.map_eq_some_iff.1 hb
      have hql : q < len := by simpa using (List.getElem?_eq_some_iff.1 hi1).1
      have e : i = q := by
        have := (List.getElem?_eq_some_iff.1 hi1).2
        simpa using this.symm
      subst e
      have hk := (hF i (by omega)).1 r hr
      rw [addr_add, addr_add, Nat.add_assoc] at hk
      rw [hk]
      exact hbu
    · obtain ⟨i, hi1, rfl⟩ := List.mem_map.1 hx
      have hil : i < len := List.mem_range.1 hi1
      have hD := (hF i (by omega)).2
      refine ⟨?_, ?_⟩
      rotate_left
      · have h1 := bulk_part (d := D i) (List.mem_map.2 ⟨i, hi1, rfl⟩ : D i ∈ (List.range len).map D)
        rw [hD] at h1
        rw [hd0]
        simp only [Rows.uptoBulk, Rows.uptoBulkAll] at h1 ⊢
        omega
      rw [hd0]
      simp only [DataW.weights, Tryz.underlying22, List.mem_cons, List.mem_append]
      refine .inr (.inl (weights_all (d := D i) (List.mem_map.2 ⟨i, hi1, rfl⟩) _ ?_))
      rw [hD]
      simp [DataW.weights, Tryz.underlying33, DataW.weightsEach]
set_option maxRecDepth 100000 in
/-- An argument that is a tree. -/
theorem argT_of {H : Type} {enc : TypeId × Value → H} {W : World} {base fuel : Nat} {hd : Bool} {cs : Array Value} {d : DataW H} {p : List MemPlace}
    (hf : DataW.trod enc Tryz.prog W base (fun _ => true) hd fuel 24 cs.toList = some (d, p)) (hlt : ∀ x ∈ p, x.block < W.heap.size) : ∃ x l, cs = #[x] ∧ RdI W x l ∧ ∀ y ∈ l, y.path.length ∈ d.weights Tryz.prog 24 ∧ y.path.length ≤ Rows.uptoBulk d := by
  obtain ⟨y0, n, hx, hl, t0⟩ := trod_struct1 Tryz.underlying24 hf
  rw [cells24] at hl
  rw [cells22] at t0
  obtain ⟨x, hcx⟩ : ∃ x, cs.toList = [x] := by
    match h : cs.toList, hl with
    | [x], _ => exact ⟨x, rfl⟩
  rw [hcx] at t0
  simp at t0
  simp only [Prod.mk.injEq] at hx
  obtain ⟨hd0, rfl⟩ := hx
  obtain ⟨l, h, hw⟩ := argI_of (d := y0.1) (p := y0.2) t0 hlt
  refine ⟨x, l, Array.ext' hcx, h, fun y hy => ?_⟩
  rw [hd0]
  refine ⟨?_, ?_⟩
  · simp only [DataW.weights, Tryz.underlying24]
    simp only [List.map, DataW.weightsEach, List.append_nil]
    exact (hw y hy).1
  · have := (hw y hy).2
    simp only [Rows.uptoBulk, Rows.uptoBulkAll]
    omega
set_option maxRecDepth 100000 in
theorem okWide_tree {r : Reach} {W : World} {b0 : Nat} {v : Value} (h : Value.okWide Tryz.prog W r b0 24 v) : ∃ cs : Array Value, v = .agg cs := by
  simp only [Value.okWide, Tryz.underlying24] at h
  obtain ⟨cs, h1, _⟩ := h
  exact ⟨cs, h1⟩

set_option maxRecDepth 100000 in
/-- An operation's cells, and its datum. -/
theorem op_of {H : Type} {enc : TypeId × Value → H} {W : World} {base fuel : Nat} {hd : Bool} {cs : List Value} {d : DataW H} {p : List MemPlace} (h : DataW.trod enc Tryz.prog W base (fun _ => true) hd fuel 51 cs = some (d, p)) :
    ∃ b : Opn, cs = b.cells ∧ d = .agg [.lit (.int .i64 b.kind), .lit (.string b.path), .lit (.string b.to), .lit (.string b.data)] := by
  obtain ⟨y0, y1, y2, y3, n, hx, hl, t0, t1, t2, t3⟩ := trod_struct4 Tryz.underlying51 h
  rw [cells26] at hl
  rw [cells3] at t0
  rw [cells9] at t1 t2 t3
  obtain ⟨m, e0, hy0, _⟩ := DataW.trod_int Tryz.underlying3 t0
  obtain ⟨s, e1, hy1, _⟩ := DataW.trod_string Tryz.underlying9 t1
  obtain ⟨z, e2, hy2, _⟩ := DataW.trod_string Tryz.underlying9 t2
  obtain ⟨u, e3, hy3, _⟩ := DataW.trod_string Tryz.underlying9 t3
  obtain ⟨q0, q1, q2, q3, rfl⟩ := list4 hl
  simp at e0 e1 e2 e3
  simp only [Prod.mk.injEq] at hx
  refine ⟨⟨m, s.data.toList, z.data.toList, u.data.toList⟩, ?_, ?_⟩
  · rw [e0, e1, e2, e3]
    show _ = [_, Value.string ⟨s.data.toList.toArray⟩, Value.string ⟨z.data.toList.toArray⟩, Value.string ⟨u.data.toList.toArray⟩]
    rw [ba_toArray, ba_toArray, ba_toArray]
  · rw [hx.1, hy0, hy1, hy2, hy3]
set_option maxRecDepth 100000 in
/-- An argument that is a slice of operations. -/
theorem argO_of {H : Type} {enc : TypeId × Value → H} {W : World} {base fuel : Nat} {hd : Bool} {v : Value} {d : DataW H} {p : List MemPlace}
    (hf : DataW.trod enc Tryz.prog W base (fun _ => true) hd fuel 49 [v] = some (d, p)) (hlt : ∀ x ∈ p, x.block < W.heap.size) : ∃ l, RdO W v l ∧ ∀ x ∈ l, x.path.length ∈ d.weights Tryz.prog 49 ∧ x.to.length ∈ d.weights Tryz.prog 49 ∧ x.path.length ≤ Rows.uptoBulk d ∧ x.to.length ≤ Rows.uptoBulk d := by
  rcases Go.Deep.open_slice Tryz.underlying49 hf with ⟨hcs, _⟩ | ⟨a, len, cap, m, n, D, Pl, hcs, _, hl, hm, hmm, hx, hi⟩
  · simp at hcs
    subst hcs
    exact ⟨[], RdF.nil W, fun x hx => by cases hx⟩
  · simp at hcs
    subst hcs
    simp only [if_true] at hmm
    subst hmm
    simp only [Prod.mk.injEq] at hx
    obtain ⟨hd0, rfl⟩ := hx
    have key : ∀ i : Nat, ∃ b : Opn, i < m → (∀ (j : Nat), j < 4 → W.cell? ((a.add (i * 4)).add j) = b.cells[j]?) ∧ D i = .agg [.lit (.int .i64 b.kind), .lit (.string b.path), .lit (.string b.to), .lit (.string b.data)] := by
      intro i
      by_cases him : i < m
      · obtain ⟨cs', hc, ht⟩ := hi i him
        rw [cells26] at hc
        obtain ⟨_, hcl, hat⟩ := World.cells?_some hc
        obtain ⟨b, rfl, hD⟩ := op_of ht
        exact ⟨b, fun _ => ⟨fun j hj => hat j (by omega), hD⟩⟩
      · exact ⟨⟨0, [], [], []⟩, fun h => absurd h him⟩
    obtain ⟨F, hF⟩ := Classical.axiomOfChoice key
    refine ⟨(List.range len).map F, ⟨some a, m, by simp, by simpa using hl, hm, fun h0 => ?_⟩, fun x hx => ?_⟩
    · have h0' : 0 < len := by simpa using h0
      obtain ⟨g, o, spot⟩ := a
      have hspot : spot = none := by
        have e := (hF 0 (by omega)).1 0 (by omega)
        have := World.cell?_spot (v := .int .i64 (F 0).kind) (e.trans rfl)
        simpa [Addr.add] using this
      subst hspot
      refine ⟨g, o, rfl, hlt (.cell g o) (List.mem_append_left _ (MemPlace.mem_row.2 ⟨0, by rw [cells26]; omega, by simp⟩)), fun j u hu => ?_⟩
      obtain ⟨q, r, hr, rfl⟩ : ∃ q r, r < 4 ∧ j = q * 4 + r := ⟨j / 4, j % 4, by omega, by omega⟩
      rw [flat4 _ q r hr, List.getElem?_map] at hu
      obtain ⟨b, hb, hbu⟩ := Option.bind_eq_some_iff.1 hu
      obtain ⟨i, hi1, rfl⟩ := Option.map_eq_some_iff.1 hb
      have hql : q < len := by simpa using (List.getElem?_eq_some_iff.1 hi1).1
      have e : i = q := by
        have := (List.getElem?_eq_some_iff.1 hi1).2
        simpa using this.symm
      subst e
      have hk := (hF i (by omega)).1 r hr
      rw [addr_add, addr_add, Nat.add_assoc] at hk
      rw [hk]
      exact hbu
    · obtain ⟨i, hi1, rfl⟩ := List.mem_map.1 hx
      have hil : i < len := List.mem_range.1 hi1
      have hD := (hF i (by omega)).2
      have hbk : (F i).path.length ≤ Rows.uptoBulk d ∧ (F i).to.length ≤ Rows.uptoBulk d := by
        have h1 := bulk_part (d := D i) (List.mem_map.2 ⟨i, hi1, rfl⟩ : D i ∈ (List.range len).map D)
        rw [hD] at h1
        rw [hd0]
        simp only [Rows.uptoBulk, Rows.uptoBulkAll] at h1 ⊢
        constructor <;> omega
      rw [hd0] at hbk ⊢
      simp only [DataW.weights, Tryz.underlying49, List.mem_cons, List.mem_append]
      refine ⟨.inr (.inl (weights_all (d := D i) (List.mem_map.2 ⟨i, hi1, rfl⟩) _ ?_)), .inr (.inl (weights_all (d := D i) (List.mem_map.2 ⟨i, hi1, rfl⟩) _ ?_)), hbk.1, hbk.2⟩
      · rw [hD]
        simp [DataW.weights, Tryz.underlying51, DataW.weightsEach]
      · rw [hD]
        simp [DataW.weights, Tryz.underlying51, DataW.weightsEach]

/-- The cells of a plain table's datum. -/
def litV : DataW Unit → Value
  | .lit (.int k z) => .int k z
  | .lit (.bool b) => .bool b
  | .lit (.string s) => .string ⟨s.toArray⟩
  | _ => .nilFunc
def rowV : DataW Unit → List Value
  | .agg l => l.map litV
  | d => [litV d]
def tabV : DataW Unit → List Value
  | .agg l => l.flatMap rowV
  | _ => []
/-- A WORLD FOR THE WITNESSES: the settled one, the tables laid into their variables. -/
noncomputable def laidWorld (os : Os) : World :=
  let w0 := World.holding Tryz.prog os ⟨#[], #[], []⟩
  let put (h : Array Obj) (g : Nat) (cs : List Value) : Array Obj := h.modify g fun
    | .cells _ t frozen => .cells cs.toArray t frozen
    | o => o
  { w0 with heap := put (put w0.heap 1 (tabV Rows.laid_puncheon_tree_root)) 0 (tabV Rows.laid_puncheon_tree_shapes) }
theorem laid_met (os : Os) (args : Array Value) : laidMet Tryz.prog Rows.treeRunsUptoRow.laid ((laidWorld os).forCall (fun _ _ => 0) ⟨#[], args, []⟩).memory :=
  laidMet_of_run' 8 (by kernel_rfl) (by kernel_rfl)
noncomputable abbrev zeroTree : Value := .agg #[.slice none 0 0]
abbrev zeroTreeD {H : Type} : DataW H := .agg [.nil]
end Go.Proofs.YtjbbnecegomkcaaGreatDoor

namespace Go.Proofs.YtjbbnecegomkcaaGreatDoor
open Go.RowKit Go.Shelf

theorem flatO6_take (l : List Opn) (k : Nat) : flatO (l.take k) = (flatO l).take (k * 4) := by
  induction l generalizing k with
  | nil => simp [flatO]
  | cons v l ih =>
    cases k with
    | zero => simp [flatO]
    | succ k =>
      show v.cells ++ flatO (l.take k) = (v.cells ++ flatO l).take ((k + 1) * 4)
      have hc : v.cells.length = 4 := rfl
      rw [ih, show (k + 1) * 4 = v.cells.length + k * 4 by rw [hc]; omega, List.take_append, Nat.add_sub_cancel_left, List.take_of_length_le (l := v.cells) (by omega)]
theorem rdo6_take {w : World} {a : Option Addr} {n c : Nat} {l : List Opn} (hn : n = l.length) (h : RdO w (.slice a n c) l) (q : Nat) (hq : q ≤ n) : RdO w (.slice a q c) (l.take q) := by
  obtain ⟨a', c', e, h1, h2, h3⟩ := h
  cases e
  have el : (l.take q).length = q := by rw [List.length_take]; omega
  unfold RdO
  rw [el]
  refine ⟨a, c, rfl, by omega, h2, fun h0 => ?_⟩
  obtain ⟨g, o, e, hg, hc⟩ := h3 (by omega)
  refine ⟨g, o, e, hg, fun j u hj => hc j u ?_⟩
  rw [flatO6_take, List.getElem?_take] at hj
  split at hj
  · exact hj
  · cases hj
set_option maxRecDepth 100000 in
set_option maxHeartbeats 16000000 in
theorem runs6_any (l : List It) (v vo : Value) (ops : List Opn) (w : World) (hv : RdI w v l) (hx : ∀ x ∈ l, x.path.length ≤ 2000000) (ho : RdO w vo ops) (hso : ∀ o ∈ ops, o.path.length ≤ 2000000 ∧ o.to.length ≤ 2000000) (hT : TabS w) :
    Calls Tryz.prog 6 #[.agg #[v], vo] w (EqR true w) := by
  obtain ⟨w1, hw1⟩ : ∃ z, z = w.alloc (.cells #[v] 24) := ⟨_, rfl⟩
  obtain ⟨bX, hbX⟩ : ∃ z, z = w.heap.size := ⟨_, rfl⟩
  have XX : Hid (Box w1 bX 24 #[v]) := Lib.hid (by rw [hw1, hbX]; exact box_new)
  have HB : Hid (Below w.heap.size w w1) := Lib.hid (by rw [hw1]; exact below_new _ _)
  have RX : Hid (RdI w1 v l) := Lib.hid (hv.on HB.out)
  obtain ⟨a, c, rfl, _⟩ := hv.open
  obtain ⟨ao, co, rfl, hlc, hcm, _⟩ := ho.open
  obtain ⟨n, hn⟩ : ∃ n, n = ops.length := ⟨_, rfl⟩
  have ho1 := ho
  rw [← hn] at hlc ho1 ⊢
  unfold maxLen at hcm
  obtain ⟨m, hm⟩ : ∃ m, m = min n 24 := ⟨_, rfl⟩
  have RO : Hid (RdO w1 (.slice ao m co) (ops.take 24)) := Lib.hid (by
    have := rdo6_take hn ho1 m (by omega)
    rw [show ops.take m = ops.take 24 by rw [List.take_eq_take_iff]; omega] at this
    exact RdF.on this HB.out)
  have k1 : (m : Int) ≤ (co : Int) := by omega
  have k0 : (0 : Int) ≤ (m : Int) := by omega
  have hmm : min (n : Int) 24 = (m : Int) := by omega
  have hcI : (co : Int) ≤ 9223372036854775807 := by omega
  obtain ⟨L, hL⟩ : ∃ z, z = fewL l := ⟨_, rfl⟩
  obtain ⟨O, hO⟩ : ∃ z, z = ops.take 24 := ⟨_, rfl⟩
  have HL := Lib.hid hL
  have HXL : Hid (∀ x ∈ L, x.path.length ≤ 2000000) := Lib.hid (fun x h => hx x (by
    rw [hL] at h
    unfold fewL at h
    split at h
    · exact List.mem_of_mem_take h
    · exact List.mem_of_mem_take h))
  have HSO : Hid (∀ o ∈ O, o.path.length ≤ 2000000 ∧ o.to.length ≤ 2000000) := Lib.hid (fun o h => hso o (by rw [hO] at h; exact List.mem_of_mem_take h))
  rw [← hO] at RO
  have HT := Lib.hid hT
  obtain ⟨ok, hok⟩ : ∃ b, b = validT L := ⟨_, rfl⟩
  have HOK := Lib.hid hok
  obtain ⟨q, hq⟩ : ∃ z, z = l.length := ⟨_, rfl⟩
  rw [← hq] at RX XX hw1 ⊢
  clear hv hx ho ho1 hso hT hn hm hL hO hok hlc hq
  go_enter Tryz.func6, Tryz.ntmps6
  go_upto_region 1 with fail
  rw [← hbX, ← hw1]
  clear hw1 hbX
  go_wp2_with fail
  refine (wakes6_any w1 (HT.out.on HB.out)).mono ?_
  rintro e w2 ⟨rfl, hb⟩
  have hcar : Below w1.heap.size w1 w2 := hb
  have XX := Lib.hid (XX.out.on hcar)
  have RX := Lib.hid (RX.out.on hcar)
  have RO := Lib.hid (RO.out.on hcar)
  have HB := Lib.hid (bch HB.out hcar)
  clear hcar
  have p0 := XX.out.cell (k := 0) rfl
  clear hb
  go_wp2_with fail
  clear p0
  refine (own6_any l _ w2 RX.out).mono ?_
  rintro e w3 ⟨xv, rfl, hI, hb⟩
  rw [← HL.out] at hI
  obtain ⟨a1, n1, c1, rfl⟩ := own_any hI
  obtain ⟨VT, hVT⟩ : ∃ z, z = (w3.alloc (.cells #[.slice none 0 0] 24)).setRow w3.heap.size #[.slice a1 n1 c1] := ⟨_, rfl⟩
  obtain ⟨bT, hbT⟩ : ∃ z, z = w3.heap.size := ⟨_, rfl⟩
  have hnT : Below w3.heap.size w3 VT := by rw [hVT]; exact below_row (below_new _ _) (Nat.le_refl _) _
  have XT : Hid (Box VT bT 24 #[.slice a1 n1 c1]) := Lib.hid (by rw [hVT, hbT]; exact box_new.row _)
  have HVT := Lib.hid hVT
  have HWT := Lib.hid hbT
  have hcar : Below w2.heap.size w2 VT := bch hb hnT
  have XX := Lib.hid (XX.out.on hcar)
  have RX := Lib.hid (RX.out.on hcar)
  have RO := Lib.hid (RO.out.on hcar)
  have HB := Lib.hid (bch HB.out hcar)
  clear hcar
  have RT : Hid (RdI VT (.slice a1 n1 c1) L) := Lib.hid (hI.rd.on hnT)
  have p0 := XT.out.cell (k := 0) rfl
  clear hI hb hnT
  clear hVT hbT
  go_wp2_with (first | (refine wpList_store_row rfl 24 (.tmp 5) (.tmp 15) rfl w3.heap.size #[.slice a1 n1 c1] rfl rfl 24 #[.slice none 0 0] box_new (info24 _) rfl (slice_one _ _ _) ?_; rw [← HVT.out, ← HWT.out]) | fail)
  clear p0
  refine (run_any L _ O _ VT RT.out (fun x h => Nat.le_trans (HXL.out x h) (by decide)) RO.out (fun o h => ⟨Nat.le_trans (HSO.out o h).1 (by decide), Nat.le_trans (HSO.out o h).2 (by decide)⟩) (HT.out.on HB.out)).mono ?_
  rintro e w4 ⟨hb, hc⟩
  obtain ⟨xa, xn, xc, many, er, rfl, hc2⟩ : ∃ xa xn xc many er, e = .returned (.tuple #[.agg #[.slice xa xn xc], .int .i64 many, .int .i64 er]) ∧ ((ok = false ∧ xa = none ∧ xn = 0 ∧ xc = 0 ∧ many = 0 ∧ er = 160) ∨ (ok = true ∧ many = ((runM L O).2.1 : Int) ∧ er = (runM L O).2.2 ∧ OwnI w4 VT.heap.size (.slice xa xn xc) (runM L O).1)) := by
    rcases hc with ⟨h1, rfl⟩ | ⟨h1, v', rfl, h2⟩
    · exact ⟨_, _, _, _, _, rfl, .inl ⟨by rw [HOK.out]; exact h1, rfl, rfl, rfl, rfl, rfl⟩⟩
    · obtain ⟨xa, xn, xc, rfl⟩ := own_any h2
      exact ⟨_, _, _, _, _, rfl, .inr ⟨by rw [HOK.out]; exact h1, rfl, rfl, h2⟩⟩
  have HC := Lib.hid hc2
  clear hc hc2
  obtain ⟨VN, hVN⟩ : ∃ z, z = (w4.alloc (.cells #[.slice none 0 0] 24)).setRow w4.heap.size #[.slice xa xn xc] := ⟨_, rfl⟩
  obtain ⟨bN, hbN⟩ : ∃ z, z = w4.heap.size := ⟨_, rfl⟩
  have hnN : Below w4.heap.size w4 VN := by rw [hVN]; exact below_row (below_new _ _) (Nat.le_refl _) _
  have XN : Hid (Box VN bN 24 #[.slice xa xn xc]) := Lib.hid (by rw [hVN, hbN]; exact box_new.row _)
  have HVN := Lib.hid hVN
  have HWN := Lib.hid hbN
  have hcar : Below VT.heap.size VT VN := bch hb hnN
  have XX := Lib.hid (XX.out.on hcar)
  have RX := Lib.hid (RX.out.on hcar)
  have RO := Lib.hid (RO.out.on hcar)
  have XT := Lib.hid (XT.out.on hcar)
  have RT := Lib.hid (RT.out.on hcar)
  have HB := Lib.hid (bch HB.out hcar)
  clear hcar
  have HCN : Hid ((ok = false ∧ xa = none ∧ xn = 0 ∧ xc = 0 ∧ many = 0 ∧ er = 160) ∨ (ok = true ∧ many = ((runM L O).2.1 : Int) ∧ er = (runM L O).2.2 ∧ RdI VN (.slice xa xn xc) (runM L O).1)) := Lib.hid (HC.out.imp id fun ⟨h1, h2, h3, h4⟩ => ⟨h1, h2, h3, h4.rd.on hnN⟩)
  have p0 := XT.out.cell (k := 0) rfl
  clear hb hnN HC
  clear hVN hbN
  go_wp2_with (first | (refine wpList_store_row rfl 24 (.tmp 6) (.tmp 25) rfl w4.heap.size #[.slice xa xn xc] rfl rfl 24 #[.slice none 0 0] box_new (info24 _) rfl (slice_one _ _ _) ?_; rw [← HVN.out, ← HWN.out]) | fail)
  clear p0
  refine (rtree_any L _ VN RT.out HXL.out).mono ?_
  rintro e w5 ⟨rfl, hb⟩
  rw [← HOK.out]
  have hcar : Below VN.heap.size VN w5 := hb
  have XX := Lib.hid (XX.out.on hcar)
  have RX := Lib.hid (RX.out.on hcar)
  have RO := Lib.hid (RO.out.on hcar)
  have XT := Lib.hid (XT.out.on hcar)
  have RT := Lib.hid (RT.out.on hcar)
  have XN := Lib.hid (XN.out.on hcar)
  have HB := Lib.hid (bch HB.out hcar)
  clear hcar
  have HCN5 := Lib.hid (show ((ok = false ∧ xa = none ∧ xn = 0 ∧ xc = 0 ∧ many = 0 ∧ er = 160) ∨ (ok = true ∧ many = ((runM L O).2.1 : Int) ∧ er = (runM L O).2.2 ∧ RdI w5 (.slice xa xn xc) (runM L O).1)) from HCN.out.imp id fun ⟨h1, h2, h3, h4⟩ => ⟨h1, h2, h3, h4.on hb⟩)
  clear hb HCN
  cases ok with
  | false =>
    obtain ⟨_, rfl, rfl, rfl, rfl, rfl⟩ : (false = false ∧ xa = none ∧ xn = 0 ∧ xc = 0 ∧ many = 0 ∧ er = 160) := HCN5.out.resolve_right (fun h => by cases h.1)
    have p0 := XN.out.cell (k := 0) rfl
    go_wp2_with fail
    go_ret
    exact ⟨rfl, HB.out⟩
  | true =>
    have hcc := HCN5.out.resolve_left (fun h => by cases h.1)
    obtain ⟨hmy, her, hrn⟩ := hcc.2
    have HTO : Hid (TreeOk L) := Lib.hid (tree_ok HOK.out.symm)
    have RN := Lib.hid hrn
    have HMY := Lib.hid hmy
    have HER := Lib.hid her
    clear hcc hmy her hrn HCN5
    have p0 := XX.out.cell (k := 0) rfl
    go_wp2_with fail
    clear p0
    refine (own6_any l _ w5 RX.out).mono ?_
    rintro e w6 ⟨xv, rfl, hI, hb⟩
    rw [← HL.out] at hI
    obtain ⟨a2, n2, c2, rfl⟩ := own_any hI
    have hcar : Below w5.heap.size w5 w6 := hb
    have XX := Lib.hid (XX.out.on hcar)
    have RX := Lib.hid (RX.out.on hcar)
    have RO := Lib.hid (RO.out.on hcar)
    have XT := Lib.hid (XT.out.on hcar)
    have RT := Lib.hid (RT.out.on hcar)
    have XN := Lib.hid (XN.out.on hcar)
    have RN := Lib.hid (RN.out.on hcar)
    have HB := Lib.hid (bch HB.out hcar)
    clear hcar
    have RI : Hid (RdI w6 (.slice a2 n2 c2) L) := Lib.hid hI.rd
    clear hb hI
    go_wp2_with fail
    refine (rrun_any L _ _ O w6 RI.out HTO.out RO.out HSO.out).mono ?_
    rintro e w7 ⟨v7, rfl, hr7, hb⟩
    obtain ⟨a7, c7, rfl, _⟩ := id hr7.open
    obtain ⟨n7, hn7⟩ : ∃ z, z = (runM L O).1.length := ⟨_, rfl⟩
    rw [← hn7] at hr7 ⊢
    clear hn7
    rw [← HMY.out, ← HER.out]
    obtain ⟨VW, hVW⟩ : ∃ z, z = (w7.alloc (.cells #[.slice none 0 0] 24)).setRow w7.heap.size #[.slice a7 n7 c7] := ⟨_, rfl⟩
    obtain ⟨bW, hbW⟩ : ∃ z, z = w7.heap.size := ⟨_, rfl⟩
    have hnW : Below w7.heap.size w7 VW := by rw [hVW]; exact below_row (below_new _ _) (Nat.le_refl _) _
    have XW : Hid (Box VW bW 24 #[.slice a7 n7 c7]) := Lib.hid (by rw [hVW, hbW]; exact box_new.row _)
    have HVW := Lib.hid hVW
    have HWW := Lib.hid hbW
    have hcar : Below w6.heap.size w6 VW := bch hb hnW
    have XX := Lib.hid (XX.out.on hcar)
    have RX := Lib.hid (RX.out.on hcar)
    have RO := Lib.hid (RO.out.on hcar)
    have XT := Lib.hid (XT.out.on hcar)
    have RT := Lib.hid (RT.out.on hcar)
    have XN := Lib.hid (XN.out.on hcar)
    have RN := Lib.hid (RN.out.on hcar)
    have HB := Lib.hid (bch HB.out hcar)
    clear hcar
    have RW : Hid (RdI VW (.slice a7 n7 c7) (runM L O).1) := Lib.hid (hr7.on hnW)
    clear hr7 hb hnW
    clear hVW hbW
    go_upto_region 9 with (first | (refine wpList_store_row rfl 24 (.tmp 9) (.tmp 48) rfl w7.heap.size #[.slice a7 n7 c7] rfl rfl 24 #[.slice none 0 0] box_new (info24 _) rfl (slice_one _ _ _) ?_; rw [← HVW.out, ← HWW.out]) | fail)
    have t1 : (er == er) = true := by simp
    have t2 : (many == many) = true := by simp
    have HS1 : Hid (∀ W, Below VW.heap.size VW W → Calls Tryz.prog 16 #[.agg #[.slice xa xn xc], .agg #[.slice a7 n7 c7]] W (EqR true W)) := Lib.hid (fun W hW => by have := rsame6_any _ _ _ _ W (RN.out.on hW) (RW.out.on hW); rwa [decide_eq_true rfl] at this)
    obtain ⟨v0, hv0⟩ : ∃ z, z = World.drew VW := ⟨_, rfl⟩
    refine wp_region_held_drew (S := fun w' => Below VW.heap.size VW w') (by kernel_rfl) (Below.refl _ _).drew (fun hHeld => ?_)
    rw [← hv0] at hHeld ⊢
    clear hv0
    refine wpAnyH_take (i := 0) (oi := { dst := some 51, op := Op.move (Operand.tmp 8), type := 28, pos := "law.go:139", after := #[], guard := none }) (v := ?_) rfl (by kernel_rfl) (by kernel_rfl) (by kernel_rfl) (fun _ _ _ h => h) (Or.inl ⟨by rfl, ?_⟩) hHeld ?_
    rotate_left
    · (intro w hSw; go_simp; try with_reducible rfl)
    (try simp only [Act.put, List.setIfInBounds_toArray, List.set_cons_zero, List.set_cons_succ])
    refine wpAnyH_take (i := 1) (oi := { dst := some 52, op := Op.move (Operand.tmp 11), type := 28, pos := "law.go:139", after := #[], guard := none }) (v := ?_) rfl (by kernel_rfl) (by kernel_rfl) (by kernel_rfl) (fun _ _ _ h => h) (Or.inl ⟨by rfl, ?_⟩) hHeld ?_
    rotate_left
    · (intro w hSw; go_simp; try with_reducible rfl)
    (try simp only [Act.put, List.setIfInBounds_toArray, List.set_cons_zero, List.set_cons_succ])
    refine wpAnyH_take (i := 2) (oi := { dst := some 53, op := Op.binOp BinOp.eql 28 (Operand.tmp 51) (Operand.tmp 52) 28, type := 4, pos := "law.go:139", after := #[{ on := 0, ground := Ground.data }, { on := 1, ground := Ground.data }], guard := none }) (v := ?_) rfl (by kernel_rfl) (by kernel_rfl) (by kernel_rfl) (fun _ _ _ h => h) (Or.inl ⟨by rfl, ?_⟩) hHeld ?_
    rotate_left
    · (intro w hSw; go_simp; try with_reducible rfl)
    (try simp only [Act.put, List.setIfInBounds_toArray, List.set_cons_zero, List.set_cons_succ])
    refine wpAnyH_take (i := 3) (oi := { dst := some 54, op := Op.move (Operand.tmp 53), type := 4, pos := "law.go:139", after := #[{ on := 2, ground := Ground.data }], guard := none }) (v := ?_) rfl (by kernel_rfl) (by kernel_rfl) (by kernel_rfl) (fun _ _ _ h => h) (Or.inl ⟨by rfl, ?_⟩) hHeld ?_
    rotate_left
    · (intro w hSw; go_simp; try with_reducible rfl)
    (try simp only [Act.put, List.setIfInBounds_toArray, List.set_cons_zero, List.set_cons_succ])
    refine wpAnyH_take (i := 4) (oi := { dst := some 55, op := Op.move (Operand.tmp 7), type := 3, pos := "law.go:139", after := #[{ on := 3, ground := Ground.guard }], guard := some (3, true) }) (v := ?_) rfl (by kernel_rfl) (by kernel_rfl) (by kernel_rfl) (fun _ _ _ h => h) (Or.inl ⟨by rfl, ?_⟩) hHeld ?_
    rotate_left
    · (intro w hSw; go_simp; try with_reducible rfl)
    (try simp only [Act.put, List.setIfInBounds_toArray, List.set_cons_zero, List.set_cons_succ])
    refine wpAnyH_take (i := 5) (oi := { dst := some 56, op := Op.move (Operand.tmp 10), type := 3, pos := "law.go:139", after := #[{ on := 3, ground := Ground.guard }], guard := some (3, true) }) (v := ?_) rfl (by kernel_rfl) (by kernel_rfl) (by kernel_rfl) (fun _ _ _ h => h) (Or.inl ⟨by rfl, ?_⟩) hHeld ?_
    rotate_left
    · (intro w hSw; go_simp; try with_reducible rfl)
    (try simp only [Act.put, List.setIfInBounds_toArray, List.set_cons_zero, List.set_cons_succ])
    refine wpAnyH_take (i := 6) (oi := { dst := some 57, op := Op.binOp BinOp.eql 3 (Operand.tmp 55) (Operand.tmp 56) 3, type := 4, pos := "law.go:139", after := #[{ on := 4, ground := Ground.data }, { on := 5, ground := Ground.data }, { on := 3, ground := Ground.guard }], guard := some (3, true) }) (v := ?_) rfl (by kernel_rfl) (by kernel_rfl) (by kernel_rfl) (fun _ _ _ h => h) (Or.inl ⟨by rfl, ?_⟩) hHeld ?_
    rotate_left
    · (intro w hSw; go_simp; try with_reducible rfl)
    (try simp only [Act.put, List.setIfInBounds_toArray, List.set_cons_zero, List.set_cons_succ])
    refine wpAnyH_take (i := 7) (oi := { dst := some 58, op := Op.pick (Operand.tmp 54) (Operand.tmp 57) (Operand.const (Value.bool false)), type := 4, pos := "law.go:139", after := #[{ on := 3, ground := Ground.data }, { on := 6, ground := Ground.data }], guard := none }) (v := ?_) rfl (by kernel_rfl) (by kernel_rfl) (by kernel_rfl) (fun _ _ _ h => h) (Or.inl ⟨by rfl, ?_⟩) hHeld ?_
    rotate_left
    · (intro w hSw; go_simp; try with_reducible rfl)
    (try simp only [Act.put, List.setIfInBounds_toArray, List.set_cons_zero, List.set_cons_succ])
    refine wpAnyH_take (i := 8) (oi := { dst := some 59, op := Op.move (Operand.tmp 58), type := 4, pos := "law.go:139", after := #[{ on := 7, ground := Ground.data }, { on := 3, ground := Ground.chain }], guard := none }) (v := ?_) rfl (by kernel_rfl) (by kernel_rfl) (by kernel_rfl) (fun _ _ _ h => h) (Or.inl ⟨by rfl, ?_⟩) hHeld ?_
    rotate_left
    · (intro w hSw; go_simp; try with_reducible rfl)
    (try simp only [Act.put, List.setIfInBounds_toArray, List.set_cons_zero, List.set_cons_succ])
    refine wpAnyH_take (i := 9) (oi := { dst := some 60, op := Op.load 24 (Operand.tmp 6), type := 24, pos := "law.go:139", after := #[{ on := 8, ground := Ground.guard }], guard := some (8, true) }) (v := ?_) rfl (by kernel_rfl) (by kernel_rfl) (by kernel_rfl) (fun _ _ _ h => h) (Or.inl ⟨by rfl, ?_⟩) hHeld ?_
    rotate_left
    · (intro w hSw; have p0 := (XN.out.on hSw).cell (k := 0) rfl; go_simp; try with_reducible rfl)
    (try simp only [Act.put, List.setIfInBounds_toArray, List.set_cons_zero, List.set_cons_succ])
    refine wpAnyH_take (i := 10) (oi := { dst := some 61, op := Op.load 24 (Operand.tmp 9), type := 24, pos := "law.go:139", after := #[{ on := 8, ground := Ground.guard }], guard := some (8, true) }) (v := ?_) rfl (by kernel_rfl) (by kernel_rfl) (by kernel_rfl) (fun _ _ _ h => h) (Or.inl ⟨by rfl, ?_⟩) hHeld ?_
    rotate_left
    · (intro w hSw; have p0 := (XW.out.on hSw).cell (k := 0) rfl; go_simp; try with_reducible rfl)
    (try simp only [Act.put, List.setIfInBounds_toArray, List.set_cons_zero, List.set_cons_succ])
    refine wpAnyH_ready (rs := [11]) (by kernel_rfl) (by simp) (AllReadyH.cons (o := { dst := some 62, op := Op.call { callee := Callee.value (Operand.func 16), args := #[Operand.tmp 60, Operand.tmp 61], argTypes := #[24, 24] }, type := 4, pos := "law.go:139", after := #[{ on := 9, ground := Ground.data }, { on := 10, ground := Ground.data }, { on := 8, ground := Ground.chain }, { on := 8, ground := Ground.guard }], guard := some (8, true) }) rfl (fun K hK => ?_) AllReadyH.nil)
    · go_simp
      refine (HS1.out _ hHeld).mono ?_
      rintro e v101 ⟨rfl, hba⟩
      refine hK.out _ _ (bch hHeld hba) (fun hHeld => ?_)
      clear hba
      (try simp only [Act.put, List.setIfInBounds_toArray, List.set_cons_zero, List.set_cons_succ])
      refine wpAnyH_take (i := 12) (oi := { dst := some 63, op := Op.pick (Operand.tmp 59) (Operand.tmp 62) (Operand.const (Value.bool false)), type := 4, pos := "law.go:139", after := #[{ on := 8, ground := Ground.data }, { on := 11, ground := Ground.data }], guard := none }) (v := ?_) rfl (by kernel_rfl) (by kernel_rfl) (by kernel_rfl) (fun _ _ _ h => h) (Or.inl ⟨by rfl, ?_⟩) hHeld ?_
      rotate_left
      · (intro w hSw; go_simp; try with_reducible rfl)
      (try simp only [Act.put, List.setIfInBounds_toArray, List.set_cons_zero, List.set_cons_succ])
      refine wpAnyH_take (i := 13) (oi := { dst := some 64, op := Op.move (Operand.tmp 63), type := 4, pos := "law.go:139", after := #[{ on := 12, ground := Ground.data }, { on := 11, ground := Ground.chain }], guard := none }) (v := ?_) rfl (by kernel_rfl) (by kernel_rfl) (by kernel_rfl) (fun _ _ _ h => h) (Or.inl ⟨by rfl, ?_⟩) hHeld ?_
      rotate_left
      · (intro w hSw; go_simp; try with_reducible rfl)
      (try simp only [Act.put, List.setIfInBounds_toArray, List.set_cons_zero, List.set_cons_succ])
      refine wpAnyH_take (i := 14) (oi := { dst := some 65, op := Op.load 24 (Operand.tmp 5), type := 24, pos := "law.go:139", after := #[{ on := 13, ground := Ground.guard }], guard := some (13, true) }) (v := ?_) rfl (by kernel_rfl) (by kernel_rfl) (by kernel_rfl) (fun _ _ _ h => h) (Or.inl ⟨by rfl, ?_⟩) hHeld ?_
      rotate_left
      · (intro w hSw; have p0 := (XT.out.on hSw).cell (k := 0) rfl; go_simp; try with_reducible rfl)
      (try simp only [Act.put, List.setIfInBounds_toArray, List.set_cons_zero, List.set_cons_succ])
      refine wpAnyH_take (i := 15) (oi := { dst := some 66, op := Op.load 24 (Operand.tmp 2), type := 24, pos := "law.go:139", after := #[{ on := 13, ground := Ground.guard }], guard := some (13, true) }) (v := ?_) rfl (by kernel_rfl) (by kernel_rfl) (by kernel_rfl) (fun _ _ _ h => h) (Or.inl ⟨by rfl, ?_⟩) hHeld ?_
      rotate_left
      · (intro w hSw; have p0 := (XX.out.on hSw).cell (k := 0) rfl; go_simp; try with_reducible rfl)
      (try simp only [Act.put, List.setIfInBounds_toArray, List.set_cons_zero, List.set_cons_succ])
      refine wpAnyH_ready (rs := [16]) (by kernel_rfl) (by simp) (AllReadyH.cons (o := { dst := some 67, op := Op.call { callee := Callee.value (Operand.func 9), args := #[Operand.tmp 66], argTypes := #[24] }, type := 24, pos := "law.go:139", after := #[{ on := 15, ground := Ground.data }, { on := 13, ground := Ground.chain }, { on := 13, ground := Ground.guard }], guard := some (13, true) }) rfl (fun K hK => ?_) AllReadyH.nil)
      · go_simp
        refine (own6_any l _ _ (RX.out.on hHeld)).mono ?_
        rintro e v102 ⟨xv, rfl, hI, hba⟩
        rw [← HL.out] at hI
        obtain ⟨a9, n9, c9, rfl⟩ := own_any hI
        have R9 : Hid (RdI v102 (.slice a9 n9 c9) L) := Lib.hid hI.rd
        refine hK.out _ _ (bch hHeld hba) (fun hHeld => ?_)
        clear hI hba
        (try simp only [Act.put, List.setIfInBounds_toArray, List.set_cons_zero, List.set_cons_succ])
        refine wpAnyH_ready (rs := [17]) (by kernel_rfl) (by simp) (AllReadyH.cons (o := { dst := some 68, op := Op.call { callee := Callee.value (Operand.func 16), args := #[Operand.tmp 65, Operand.tmp 67], argTypes := #[24, 24] }, type := 4, pos := "law.go:139", after := #[{ on := 14, ground := Ground.data }, { on := 16, ground := Ground.data }, { on := 16, ground := Ground.chain }, { on := 13, ground := Ground.guard }], guard := some (13, true) }) rfl (fun K hK => ?_) AllReadyH.nil)
        · go_simp
          refine (rsame6_any L L _ _ v102 (RT.out.on hHeld) R9.out).mono ?_
          rintro e v103 ⟨he, hba⟩
          rw [decide_eq_true rfl] at he
          subst he
          refine hK.out _ _ (bch hHeld hba) (fun hHeld => ?_)
          clear hba
          (try simp only [Act.put, List.setIfInBounds_toArray, List.set_cons_zero, List.set_cons_succ])
          refine wpAnyH_take (i := 18) (oi := { dst := some 69, op := Op.pick (Operand.tmp 64) (Operand.tmp 68) (Operand.const (Value.bool false)), type := 4, pos := "law.go:139", after := #[{ on := 13, ground := Ground.data }, { on := 17, ground := Ground.data }], guard := none }) (v := ?_) rfl (by kernel_rfl) (by kernel_rfl) (by kernel_rfl) (fun _ _ _ h => h) (Or.inl ⟨by rfl, ?_⟩) hHeld ?_
          rotate_left
          · (intro w hSw; go_simp; try with_reducible rfl)
          (try simp only [Act.put, List.setIfInBounds_toArray, List.set_cons_zero, List.set_cons_succ])
          refine wpAnyH_take (i := 19) (oi := { dst := some 4, op := Op.assign (Operand.tmp 69), type := 4, pos := "law.go:139", after := #[{ on := 18, ground := Ground.data }, { on := 17, ground := Ground.chain }, { on := 0, ground := Ground.phase }, { on := 1, ground := Ground.phase }, { on := 2, ground := Ground.phase }, { on := 3, ground := Ground.phase }, { on := 4, ground := Ground.phase }, { on := 5, ground := Ground.phase }, { on := 6, ground := Ground.phase }, { on := 7, ground := Ground.phase }, { on := 8, ground := Ground.phase }, { on := 9, ground := Ground.phase }, { on := 10, ground := Ground.phase }, { on := 11, ground := Ground.phase }, { on := 12, ground := Ground.phase }, { on := 13, ground := Ground.phase }, { on := 14, ground := Ground.phase }, { on := 15, ground := Ground.phase }, { on := 16, ground := Ground.phase }, { on := 17, ground := Ground.phase }, { on := 18, ground := Ground.phase }], guard := none }) (v := ?_) rfl (by kernel_rfl) (by kernel_rfl) (by kernel_rfl) (fun _ _ _ h => h) (Or.inl ⟨by rfl, ?_⟩) hHeld ?_
          rotate_left
          · (intro w hSw; go_simp; try with_reducible rfl)
          (try simp only [Act.put, List.setIfInBounds_toArray, List.set_cons_zero, List.set_cons_succ])
          refine wpAnyH_done (by kernel_rfl) ?_ _
          have HD := Lib.hid hHeld
          clear hHeld
          go_wp2_with fail
          go_ret
          exact ⟨rfl, bch HB.out HD.out⟩
end Go.Proofs.YtjbbnecegomkcaaGreatDoor

namespace Go.Proofs.YtjbbnecegomkcaaGreatDoor.TreeRunsP
open Go.ChangeShapes Go.WideShapes Go.ChangeAt Go.RowKit Go.Joins Go.Deep
open Go.ChangeMaps (open_string shut_string)

theorem met (os : Os) : laidMet Tryz.prog Rows.treeRunsUptoRow.laid ((laidWorld os).forCall (fun _ _ => 0) ⟨#[], #[zeroTree, .slice none 0 0], []⟩).memory :=
  laid_met os _
theorem reads (os : Os) {H : Type} (enc : TypeId × Value → H) : ∃ places, DataW.whole enc Tryz.prog ((laidWorld os).forCall (fun _ _ => 0) ⟨#[], #[zeroTree, .slice none 0 0], []⟩).memory Tryz.f6.params.toList Rows.treeRunsSpec.vars false #[zeroTree, Value.slice none 0 0].toList 8 = some ([zeroTreeD, .nil], [], places) :=
  ⟨[], by kernel_rfl⟩

set_option maxRecDepth 100000 in
theorem lifted (os : Os) (started : os.Started) (H : Type) (enc : TypeId × Value → H) (F : Stop.Interp) :
    ReturnsInHanded {} Tryz.checked os 6 .any ((Rows.OpenSpec.upto Rows.treeRunsSpec).preRow enc Tryz.prog Tryz.f6 Rows.treeRunsUptoRow.domain false Rows.treeRunsUptoRow.laid) (((Rows.OpenSpec.upto Rows.treeRunsSpec).at F).post enc Tryz.prog Tryz.f6 false true false false) := by
  obtain ⟨places, hx⟩ := reads os enc
  refine returnsInHanded_of_row (C := Tryz.checked) (s := Rows.OpenSpec.upto Rows.treeRunsSpec) own0 started (by kernel_rfl) Tryz.func6
    (witness_row_at (enc := enc) (C := Tryz.checked) false (laidWorld os) #[zeroTree, .slice none 0 0] rfl (by kernel_rfl) (by kernel_rfl) (by kernel_rfl)
      (OpenSpec.preRow_of_cond 8 hx (by kernel_rfl) (fun k hk => by cases hk; kernel_rfl) (by kernel_rfl) (met os))) ?_
  intro W base args ds gs before hval0 hW _ hcond hsz0 hL hsh _
  have hval : ∀ (j : Nat) t v, Tryz.f6.params[j]? = some t → args[j]? = some v → Value.okWide Tryz.prog W .any base t v := hval0
  have hsm : Rows.uptoBulkAll (ds ++ gs) ≤ 1048576 := of_decide_eq_true (hcond _ rfl)
  clear hsz0 hcond
  have hW' := hW
  obtain ⟨p, q, hA0, hV, rfl, hfz, hnd⟩ := hW
  have hA : DataW.TrodAll enc Tryz.prog W 0 (fun _ => true) true Tryz.f6.params.toList args.toList ds p := hA0
  rw [Tryz.params6] at hA hval
  obtain ⟨v0, vs0, d0, ds0, p0, q0, hargs, rfl, rfl, h0, r0⟩ := trodAll_cons hA
  obtain ⟨v1, vs1, d1, ds1, p1, q1, rfl, rfl, rfl, h1, r1⟩ := trodAll_cons r0
  obtain ⟨rfl, rfl, rfl⟩ := trodAll_nil r1
  obtain rfl : args = #[v0, v1] := by cases args; simp_all
  obtain ⟨rfl, rfl⟩ := trodVars_none hV
  obtain ⟨cs0, rfl⟩ := okWide_tree (hval 0 24 v0 rfl rfl)
  obtain ⟨a1, n1, c1, rfl⟩ := okWide_slice Tryz.underlying49 (hval 1 49 v1 rfl rfl)
  have h0k := h0
  obtain ⟨fuel0, hf0⟩ := h0
  have h1k := h1
  obtain ⟨fuel1, hf1⟩ := h1
  clear hA0 hval0
  simp only [List.append_nil] at hW'
  have hlt0 : ∀ x ∈ p0, x.block < W.heap.size := fun x hx => by simpa using hW'.lt x (by simp [hx])
  have hlt1 : ∀ x ∈ p1, x.block < W.heap.size := fun x hx => by simpa using hW'.lt x (by simp [hx])
  have hb0 : Rows.uptoBulk d0 ≤ 1048576 := Nat.le_trans (bulk_part (by simp)) hsm
  have hb1 : Rows.uptoBulk d1 ≤ 1048576 := Nat.le_trans (bulk_part (by simp)) hsm
  obtain ⟨x0, l0, rfl, hr0, hw0'⟩ := argT_of (by simpa [Value.cells] using hf0) hlt0
  have hw0 : ∀ y ∈ l0, y.path.length ≤ 2000000 := fun y hy => Nat.le_trans (hw0' y hy).2 (Nat.le_trans hb0 (by decide))
  obtain ⟨l1, hr1, hw1'⟩ := argO_of (by simpa [Value.cells] using hf1) hlt1
  have hw1 : ∀ y ∈ l1, y.path.length ≤ 2000000 ∧ y.to.length ≤ 2000000 := fun y hy => ⟨Nat.le_trans (hw1' y hy).2.2.1 (Nat.le_trans hb1 (by decide)), Nat.le_trans (hw1' y hy).2.2.2 (Nat.le_trans hb1 (by decide))⟩
  refine (runs6_any l0 x0 _ l1 W hr0 hw0 hr1 hw1 (tabs hL hsh)).mono fun e W' ⟨he, hb⟩ => ?_
  subst he
  exact ⟨_, rfl, _, _, _, [], _, [], hW', (trodAll_cons_mk (shut_bool Tryz.underlying4 _) trodAll_mk0), (trodAll_cons_mk (Below.trod laidOut (by kernel_rfl) (of_decide_eq_true (by kernel_rfl)) h0k hb hlt0) (trodAll_cons_mk (Below.trod laidOut (by kernel_rfl) (of_decide_eq_true (by kernel_rfl)) h1k hb hlt1) trodAll_mk0)), rfl, hb.frame _, fun h => by cases h⟩

theorem said : Rows.TreeRunsUptoSaid :=
  OpenClaim.holds_of_cond 6 Tryz.f6 rfl rfl rfl rfl rfl rfl rfl ⟨rfl, rfl, rfl, rfl, rfl⟩ rfl rfl rfl rfl rfl (by kernel_rfl) Tryz.func6 (by kernel_rfl)
    (of_decide_eq_true (by kernel_rfl)) (by unfold Func.isWrapper; first | (rw [if_pos (by decide +kernel)]; kernel_rfl) | (rw [if_neg (by decide +kernel)]; exact ⟨rfl, rfl⟩))
    (fun os started H enc _ F => by rw [OpenClaim.pre_eq_preRow]; exact lifted os started H enc F)

/-- No parameter wants a stand-in; the program's own looks are off: what the card asks. -/
theorem plain (f : FuncId) (fn : Func) (hf : Tryz.pinned.checked.prog.funcNamed "puncheon/puncheonlaw06.TreeRuns" = some f) (hfn : Tryz.pinned.checked.prog.funcs[f]? = some fn) :
    false = Tryz.pinned.checked.prog.looks [] ∧ ∀ (j : Nat) t, fn.params[j]? = some t → Tryz.pinned.checked.prog.wantsStandIn t = false := by
  obtain rfl : f = 6 := Option.some.inj ((show Tryz.prog.funcNamed "puncheon/puncheonlaw06.TreeRuns" = some 6 by kernel_rfl).symm.trans hf) |>.symm
  obtain rfl : fn = Tryz.f6 := (Option.some.inj (Tryz.func6.symm.trans hfn)).symm
  refine ⟨by kernel_rfl, fun j t ht => ?_⟩
  rw [Tryz.params6] at ht
  have hm : t ∈ [24, 49] := by simpa using Array.mem_of_getElem? ht
  have hall : ([24, 49].all fun u => !Tryz.prog.wantsStandIn u) = true := by kernel_rfl
  exact (show Tryz.prog.wantsStandIn t = false by simpa using List.all_eq_true.1 hall t hm)
end Go.Proofs.YtjbbnecegomkcaaGreatDoor.TreeRunsP
namespace Go.Proofs.YtjbbnecegomkcaaGreatDoor
theorem treeRuns_upto_card : Rows.TreeRunsUptoCardSaid :=
  Claim7.holds_tied_plain_at .later [] _ _ _ _ TreeRunsP.said (fun _ h => by cases h) (by kernel_rfl) (fun _ h => by cases h) treeRunsUpto_row_tie rfl ⟨rfl, rfl⟩ (by kernel_rfl) rfl TreeRunsP.plain (by kernel_rfl)
#print axioms treeRuns_upto_card
end Go.Proofs.YtjbbnecegomkcaaGreatDoor
