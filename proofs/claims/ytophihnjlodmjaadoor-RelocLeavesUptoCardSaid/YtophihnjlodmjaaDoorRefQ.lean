/- Proved here: put of puncheonref14. -/
import Derived.Test.YtophihnjlodmjaaDoorRefP
import Derived.Test.YtophihnjlodmjaaDoorMath3
namespace Go.Proofs.YtophihnjlodmjaaDoor
open Go.RowKit Go.Shelf

theorem app_eq (a b : Bs) : (⟨a.toArray⟩ : ByteArray) ++ ⟨b.toArray⟩ = ⟨(a ++ b).toArray⟩ := by
  apply ByteArray.ext
  simp

def PutR (fr tt l : Bs) (w : World) (e : Ending) (w' : World) : Prop := ∃ v, e = .returned (.tuple #[.string ⟨(putO fr tt l).toArray⟩, v]) ∧ w'.ownsRow w.heap.size 3 1 v (putA fr tt l).length (natsV (putA fr tt l)) ∧ Below w.heap.size w w'

set_option maxRecDepth 100000 in
set_option maxHeartbeats 4000000 in
theorem rput_any (l fr tt : Bs) (hf : 1 ≤ fr.length) (hl : l.length ≤ 1000000) (hf2 : fr.length ≤ 1000) (ht2 : tt.length ≤ 1000) (w : World) : Calls Tryd.prog 36 #[.string ⟨l.toArray⟩, .string ⟨fr.toArray⟩, .string ⟨tt.toArray⟩] w (PutR fr tt l w) := by
  have HC := Lib.hid (rplaces_any l fr hf (by omega) (by omega) w)
  have HG := Lib.hid (plcs_gaps fr l)
  have HCN := Lib.hid (plcs_count fr l hf)
  obtain ⟨ps, hps⟩ : ∃ ps, ps = plcs fr l := ⟨_, rfl⟩
  have HPS := Lib.hid hps
  rw [← hps] at HG HCN
  clear hps
  go_enter Tryd.func36, Tryd.ntmps36
  go_wp2_with (go_at_call 12; refine HC.out.mono ?_; rintro e w1 ⟨v1, rfl, ho, hb⟩; rw [← HPS.out] at ho; have HO1 := Lib.hid ho; have HB1 := Lib.hid hb; obtain ⟨a1, c1, rfl⟩ := own_slice ho; clear ho hb)
  obtain ⟨m, hm⟩ : ∃ m, m = ps.length := ⟨_, rfl⟩
  rw [← hm]
  have HM := Lib.hid hm
  clear hm
  have hm1 : m ≤ 1000000 := by have := HM.out; have := HCN.out; omega
  go_loopw [8, 9, 10, 17] (fun v o la i wr => ∃ (k : Nat) (c : Cut), k ≤ m ∧ i = .int .i64 (k : Int) ∧ Hid (c = cutF l tt fr.length (ps.take k)) ∧ o = .string ⟨c.out.toArray⟩ ∧ la = .int .i64 (c.last : Int) ∧ Hid (wr.ownsRow w1.heap.size 3 1 v c.ats.length (natsV c.ats)) ∧ Hid (Below w1.heap.size w1 wr)) (fun _ _ _ i _ => m - (Lib.intOf i).toNat)
  case atStart => exact ⟨0, ⟨[], [], 0⟩, Nat.zero_le _, rfl, Lib.hid rfl, rfl, rfl, Lib.hid (World.ownsRow_nil _ _ _ _), Lib.hid (Below.refl _ _)⟩
  case round =>
    obtain ⟨k, c, hk, rfl, HX, rfl, rfl, HO, HB⟩ := hrel
    by_cases hlt : k < m
    · have hkl : k < ps.length := by have := HM.out; omega
      obtain ⟨hn1, hn2⟩ := cut_next l tt fr.length ps HG.out hkl
      obtain ⟨hz1, hz2, hz3⟩ := cut_size l tt fr.length ps HG.out k (by omega)
      have hrm := cut_room (k := k + 1) (tt := tt) HG.out hl ht2 HCN.out (by omega)
      have hst := cut_take l tt fr.length ps hkl
      rw [← HX.out] at hn1 hz1 hz2 hz3 hst
      obtain ⟨x, hx⟩ : ∃ x, x = ps[k] := ⟨_, rfl⟩
      rw [← hx] at hn1 hn2 hst
      obtain ⟨g1, o1, rfl, hg1, e1⟩ := (Rd.of_own HO1.out).numAt hkl
      rw [← hx] at e1
      have r1 := (HB.out.cell (p := ⟨g1, _, none⟩) hg1).trans e1
      obtain ⟨c2, hc2⟩ : ∃ c2, c2 = cutF l tt fr.length (ps.take (k + 1)) := ⟨_, rfl⟩
      rw [← hc2] at hrm hst
      have HX2 := Lib.hid hc2
      obtain ⟨co, ca, cl⟩ := c
      simp only at hn1 hz1 hz2 hz3 HO
      obtain ⟨q, hq⟩ : ∃ q, q = (l.drop cl).take (x - cl) := ⟨_, rfl⟩
      obtain ⟨oq, hoq⟩ : ∃ oq, oq = co ++ q := ⟨_, rfl⟩
      obtain ⟨o2, ho2⟩ : ∃ o2, o2 = oq ++ tt := ⟨_, rfl⟩
      have HST : Hid (c2 = ⟨o2, ca ++ [oq.length], x + fr.length⟩) := Lib.hid (by rw [hst, ho2, hoq, hq]; rfl)
      have hr2 : o2.length ≤ 1001000000 := by rw [HST.out] at hrm; exact hrm
      have hroq : oq.length ≤ 1001000000 := by rw [ho2, List.length_append] at hr2; omega
      have hb1 : co.length + q.length ≤ 1001000000 := by rw [hoq, List.length_append] at hroq; exact hroq
      have hb2 : oq.length + tt.length ≤ 1001000000 := by rw [ho2, List.length_append] at hr2; exact hr2
      have he1 : (⟨l.toArray⟩ : ByteArray).extract cl x = ⟨q.toArray⟩ := by rw [ext_eq, hq]
      have ha1 : (⟨co.toArray⟩ : ByteArray) ++ ⟨q.toArray⟩ = ⟨oq.toArray⟩ := by rw [app_eq, hoq]
      have ha2 : (⟨oq.toArray⟩ : ByteArray) ++ ⟨tt.toArray⟩ = ⟨o2.toArray⟩ := by rw [app_eq, ho2]
      have w2 : IntKind.i64.wrap ((x : Int) + (fr.length : Int)) = (x : Int) + (fr.length : Int) := IntWalk.i64_in _ (by omega)
      have p1 : (cl : Int) ≤ (x : Int) := by omega
      have p2 : (x : Int) ≤ (l.length : Int) := by omega
      obtain ⟨na, hna⟩ : ∃ na, na = ca.length := ⟨_, rfl⟩
      have HNA := Lib.hid hna
      rw [← hna] at HO hz3
      obtain ⟨nq, hnq⟩ : ∃ nq, nq = oq.length := ⟨_, rfl⟩
      have HNQ := Lib.hid hnq
      obtain ⟨ao, cc, rfl⟩ := own_slice HO.out
      have HSZ : Hid (w1.heap.size ≤ (wr.alloc (.cells #[.int .i64 (oq.length : Int)] 3)).heap.size) := Lib.hid (by have := HB.out.size; simp; omega)
      have HOW : Hid ((wr.alloc (.cells #[.int .i64 (oq.length : Int)] 3)).ownsRow w1.heap.size 3 1 (.slice ao na cc) na (natsV ca)) := Lib.hid (owns_on HO.out (below_new _ _))
      have HRD : Hid (Rd (wr.alloc (.cells #[.int .i64 (oq.length : Int)] 3)) (.slice (some ⟨wr.heap.size, 0, none⟩) 1 1) [i64 oq.length]) := Lib.hid (rd_one wr 3 _)
      have HK1 : Hid (na + 1 ≤ 10000000) := Lib.hid (by omega)
      clear hx hc2 hq hoq ho2 hst hna hrm e1 hn1 hz2 hz3 hnq
      go_wp2_with (at_builtin; go_loud (refine wpList_append_at rfl (.tmp 27) (.tmp 30) 27 3 (.int .i64 0) 8 rfl Tryd.underlying27 info3 rfl w1.heap.size _ _ (natsV ca) [i64 oq.length] rfl (own_len HOW.out) rfl HRD.out (by simp [Value.oneCell']) HSZ.out (by rw [natsV_len, ← HNA.out]; have := HK1.out; simp only [List.length_cons, List.length_nil]; omega) (by decide) ?_; intro v' w' hown' hg' _; have HO2 : Hid (w'.ownsRow w1.heap.size 3 1 v' (ca ++ [oq.length]).length (natsV (ca ++ [oq.length]))) := Lib.hid (by rw [natsV_app, List.length_append]; rw [List.length_append, natsV_len] at hown'; exact hown'); have HB2 : Hid (Below w1.heap.size w1 w') := Lib.hid ((bch HB.out (below_new _ _)).grown hg' HSZ.out (fun k e => (own_in HO.out e).1)); clear hown' hg'; refine Hid.out ?_))
      refine Lib.hid ?_
      go_wp2
      go_roundw
      case rel => exact ⟨k + 1, ⟨o2, ca ++ [oq.length], x + fr.length⟩, hlt, by go_num, Lib.hid (by rw [← HST.out]; exact HX2.out), rfl, by go_num, HO2, HB2⟩
      case measure => simp [Lib.intOf]; omega
    · obtain rfl : k = m := by omega
      obtain ⟨hz1, hz2, hz3⟩ := cut_size l tt fr.length ps HG.out k (by have := HM.out; omega)
      have hrm := cut_room (k := k) (tt := tt) HG.out hl ht2 HCN.out (by have := HM.out; omega)
      rw [← HX.out] at hz1 hz2 hz3 hrm
      have HE : Hid (putO fr tt l = c.out ++ l.drop c.last ∧ putA fr tt l = c.ats) := Lib.hid (by
        rw [HX.out, HM.out, HPS.out, cut_all]
        exact ⟨rfl, rfl⟩)
      obtain ⟨co, ca, cl⟩ := c
      simp only at HE hz1 hz2 hz3 hrm HO
      obtain ⟨q, hq⟩ : ∃ q, q = l.drop cl := ⟨_, rfl⟩
      obtain ⟨oq, hoq⟩ : ∃ oq, oq = co ++ q := ⟨_, rfl⟩
      have hql : q.length ≤ 1000000 := by rw [hq, List.length_drop]; omega
      have hb1 : co.length + q.length ≤ 1002000000 := by omega
      have he1 : (⟨l.toArray⟩ : ByteArray).extract cl l.length = ⟨q.toArray⟩ := by rw [ext_eq, hq, List.take_of_length_le (by rw [List.length_drop]; omega)]
      have ha1 : (⟨co.toArray⟩ : ByteArray) ++ ⟨q.toArray⟩ = ⟨oq.toArray⟩ := by rw [app_eq, hoq]
      have p1 : (cl : Int) ≤ (l.length : Int) := by omega
      have HO3 : Hid (wr.ownsRow w.heap.size 3 1 u8 ca.length (natsV ca)) := Lib.hid (own_mono HO.out HB1.out.size)
      have HE2 : Hid (putO fr tt l = oq ∧ putA fr tt l = ca) := Lib.hid (by rw [hoq, hq]; exact HE.out)
      clear hq hoq hz2 hz3 hrm hql HE
      go_wp2
      go_ret2
      refine ⟨_, ?_, by rw [HE2.out.2]; exact HO3.out, bch HB1.out HB.out⟩
      rw [HE2.out.1]
      rfl
end Go.Proofs.YtophihnjlodmjaaDoor
