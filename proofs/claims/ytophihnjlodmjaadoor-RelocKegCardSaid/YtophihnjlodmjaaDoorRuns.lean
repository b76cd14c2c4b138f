/- Proved here: what runs of package reloc hands out: the runs of binary bytes, each with the noughts behind it. -/
import Derived.Test.YtophihnjlodmjaaDoorTrim
import Derived.Test.YtophihnjlodmjaaDoorSeqE
import Derived.Shelf.RegionOpen
import Derived.Lib.SmallJoins
namespace Go.Proofs.YtophihnjlodmjaaDoor
open Go.RowKit Go.Shelf Go.Joins
attribute [local go_sem] Oper.semAt_some

def ruT (B : Nat) (vd : Value) (k : Nat) : Prop := k = B ∨ inBlk vd k
/-- What is handed out for a run, and so many noughts. -/
def RuE (vd : Value) (w : World) (x : Bs × Nat) (args : Array Value) : Prop :=
  ∃ ad a2 c2, args = #[.slice (some ad) x.1.length x.1.length, .slice a2 x.2 c2] ∧ Rd w (.slice (some ad) x.1.length x.1.length) (bytesV x.1) ∧ ∀ g, inBlk (.slice (some ad) x.1.length x.1.length) g → inBlk vd g
/-- The box holds what is left. -/
def RuB (B : Nat) (vd : Value) (w : World) (m : Bs) (X : World) : Prop := ∃ v, Boxed X B 57 v ∧ Rd w v (bytesV m) ∧ ∀ g, inBlk v g → inBlk vd g
theorem index_run (l : Bs) : Lib.indexByte l 0 = if 0 ∈ l then ((l.takeWhile nz).length : Int) else -1 := by
  by_cases h : 0 ∈ l
  · rw [if_pos h, index_some 0 l h]; rfl
  · rw [if_neg h, index_none 0 l h]
theorem run_rest {m : Bs} {rn zn : Nat} (hm : m ≠ []) (h : RunAt m 0 rn zn) : (m.takeWhile nz).length = rn ∧ (m.drop rn).dropWhile zz = m.drop (rn + zn) ∧ (m.drop (rn + zn)).length = m.length - (rn + zn) ∧ (m.take rn).length = rn := by
  have h1 := h.segs
  have hf := h.fits
  rw [List.drop_zero, Nat.zero_add, segs_cons m hm] at h1
  injection h1 with h2 h3
  injection h2 with h4 h5
  have e1 : (m.takeWhile nz).length = rn := by rw [h4, List.length_take]; omega
  have e2 : (m.dropWhile nz).dropWhile zz = m.drop (rn + zn) := by
    have := congrArg flat h3
    rwa [segs_flat', segs_flat'] at this
  refine ⟨e1, ?_, by rw [List.length_drop], by rw [List.length_take]; omega⟩
  rw [← e2, (tw_take nz m).2, e1]
theorem run_none {m : Bs} {rn zn : Nat} (h : RunAt m 0 rn zn) (h0 : 0 ∉ m) : rn = m.length := by
  have hf := h.fits
  rcases Nat.lt_or_ge rn m.length with h1 | h1
  · have := h.stop (by omega)
    exact absurd (this ▸ List.getElem_mem _) h0
  · omega
theorem take_lt0 {l : Bs} (h : 0 ∈ l) : (l.takeWhile nz).length < l.length := by
  induction l with
  | nil => cases h
  | cons x s ih =>
    by_cases hx : nz x = true
    · rw [List.takeWhile_cons_of_pos hx, List.length_cons, List.length_cons]
      rcases List.mem_cons.1 h with h | h
      · subst h; simp [nz] at hx
      · have := ih h; omega
    · rw [List.takeWhile_cons_of_neg hx]; simp
def leftR (B : Nat) (W : World) : Nat := match W.cell? ⟨B, 0, none⟩ with | some (.slice _ n _) => n | _ => 0
theorem leftR_of {W : World} {B n c : Nat} {a : Option Addr} (h : Boxed W B 57 (.slice a n c)) : leftR B W = n := by unfold leftR; rw [h.cell]

set_option maxRecDepth 100000 in
set_option maxHeartbeats 4000000 in
theorem runs_hands (n : Nat) (hn : 1 ≤ n) (B : Nat) (l : Bs) (hl : l.length ≤ 1000000) (vd : Value) (w : World) (b0 : Boxed w B 57 vd) (rd : Rd w vd (bytesV l)) (hB : ¬ inBlk vd B) (hlow : ∀ g, inBlk vd g → g < w.heap.size) :
    HandsE Fence.wide n Tryd.prog 61 #[.pointer (some ⟨B, 0, none⟩)] (ruT B vd) (fun k => k = B) (RuE vd w) (segs l) w := fun lp J Jx W hW hWs hJ hY h0 => by
  have mixed : Tryd.prog.follows Departure.mixedOrders = true := by kernel_rfl
  have HB0 : Hid (RuB B vd w l W) := Lib.hid ⟨vd, boxed_same b0 (hW B (.inl rfl)), rd, fun _ h => h⟩
  have HKD : Hid (∀ g, inBlk vd g → W.heap[g]? = w.heap[g]?) := Lib.hid fun g hg => hW g (.inr hg)
  have HLO := Lib.hid hlow
  have HNB := Lib.hid hB
  have HY := Lib.hid hY
  have HJ := Lib.hid hJ
  have hbl := (boxed_same b0 (hW B (.inl rfl))).lt
  clear b0 rd hW hJ hY hB hlow
  refine callsIn_of_wp Tryd.func61 rfl trivial ?_ rfl
  simp only [Tryd.ntmps61, List.size_toArray, List.length_cons, List.length_nil, Nat.reduceAdd, Nat.reduceSub, Array.replicate_succ, Array.replicate_zero, List.push_toArray, List.append_toArray, List.nil_append, List.cons_append]
  gi_wp2
  gi_loopw [3] (fun _ wr => ∃ (m : Bs) (pre : List (Bs × Nat)), Hid (m.length ≤ l.length) ∧ Hid (segs l = pre ++ segs m) ∧ Hid (J pre wr) ∧ Hid (RuB B vd w m wr) ∧ Hid (∀ g, inBlk vd g → wr.heap[g]? = w.heap[g]?) ∧ W.heap.size ≤ wr.heap.size)
    (fun _ wr => leftR B wr)
  case atStart => exact ⟨l, [], Lib.hid (Nat.le_refl _), Lib.hid rfl, Lib.hid h0, HB0, HKD, Nat.le_refl _⟩
  case round =>
    obtain ⟨m, pre, HML, HSG, HJP, HBX, HKP, hsz⟩ := hrel
    obtain ⟨v, hbx, hrd, hin⟩ := HBX.out
    obtain ⟨a, c, rfl, hc1, hc2, hc3⟩ := hrd.shape
    by_cases hm : m = []
    · subst hm
      have hc := hbx.cell
      have HE : Hid (segs l = pre) := Lib.hid (by rw [HSG.out, segs_nil, List.append_nil])
      clear hc3 hrd hin hbx
      gi_wp2
      go_end0
      exact ⟨⟨_, rfl⟩, .inl (by rw [HE.out]; exact HJP.out)⟩
    · obtain ⟨gd, od, rfl⟩ := hc3 (List.length_pos_iff.2 hm)
      obtain ⟨rn, zn, hR⟩ := run_at m 0 (by rw [List.length_pos_iff]; exact hm)
      obtain ⟨e1, e2, e3, e4⟩ := run_rest hm hR
      have hfit := hR.fits
      have hs1 := hR.some1
      have hsg := hR.segs
      rw [List.drop_zero, Nat.zero_add] at hsg
      rw [Nat.zero_add] at hfit
      obtain ⟨nm, hnm⟩ : ∃ nm, nm = m.length := ⟨_, rfl⟩
      obtain ⟨kn, hkn⟩ : ∃ kn, kn = rn + zn := ⟨_, rfl⟩
      rw [← hkn] at e2 e3 hsg
      rw [← hnm] at e3 hfit hc1 hrd hbx hin
      have hnp : 0 < nm := by rw [hnm]; exact List.length_pos_iff.2 hm
      have hnb : nm ≤ 1000000 := by have := HML.out; omega
      have HNM := Lib.hid hnm
      have HKN := Lib.hid hkn
      have HSG2 : Hid (segs l = (pre ++ [(m.take rn, zn)]) ++ segs (m.drop kn)) := Lib.hid (by rw [HSG.out, hsg, List.append_assoc]; rfl)
      have HE2 := Lib.hid e2
      have HE4 := Lib.hid e4
      obtain ⟨W1, hW1⟩ : ∃ z, z = wr.alloc (.cells #[.int .u8 0] 5 (1, 2)) := ⟨_, rfl⟩
      have k1 := run_convert_bytes_const_at (P := Tryd.prog) wr 57 5 #[.int .u8 0] 1 1 wr.heap.size rfl Tryd.underlying57 Tryd.underlying5
      have k1 : (convert 57 57 (.slice (some ⟨wr.heap.size, 0, none⟩) 1 1)).run Tryd.prog (wr.alloc (.cells #[.int .u8 0] 5)) = .ok (.slice (some ⟨wr.heap.size, 0, none⟩) 1 1) (wr.alloc (.cells #[.int .u8 0] 5 (1, 2))) := k1
      have hb1 : Below wr.heap.size wr W1 := by rw [hW1]; exact below_new _ _
      have kept1 : ∀ g, inBlk vd g → W1.heap[g]? = w.heap[g]? := fun g hg => (hb1.block g (by
        have e := HKP.out g hg
        rw [Array.getElem?_eq_getElem (HLO.out g hg)] at e
        exact (Array.getElem?_eq_some_iff.1 e).1)).trans (HKP.out g hg)
      have rdw : ∀ X : World, (∀ g, inBlk vd g → X.heap[g]? = w.heap[g]?) → Rd X (.slice (some ⟨gd, od, none⟩) nm c) (bytesV m) := fun X hX => hrd.kept fun g hg => hX g (hin g hg)
      have hcb : wr.cell? ⟨B, 0, none⟩ = some (.slice (some ⟨gd, od, none⟩) nm c) := hbx.cell
      have hbx1 := boxed_on hbx hb1
      have hcb1 : (wr.alloc (.cells #[.int .u8 0] 5 (1, 2))).cell? ⟨B, 0, none⟩ = some (.slice (some ⟨gd, od, none⟩) nm c) := by rw [← hW1]; exact hbx1.cell
      have hcz : W1.cell? ⟨wr.heap.size, 0, none⟩ = some (.int .u8 0) := by rw [hW1]; exact (cell_of_row _ _ 0 _ _ _ (heap_alloc_new wr (.cells #[.int .u8 0] 5 (1, 2)))).trans rfl
      have HIX := Lib.hid (index_any ⟨gd, od, none⟩ nm c m wr.heap.size 1 W1 (rdw W1 kept1) hcz)
      have hrs : Rd W1 (.slice (if c = rn then some (⟨gd, od, none⟩ : Addr) else (some (⟨gd, od, none⟩ : Addr)).map (·.add rn)) (nm - rn) (c - rn)) (bytesV (m.drop rn)) := by
        have := (rdw W1 kept1)
        rw [hnm] at this ⊢
        exact this.rest rn (by omega)
      have HRS := Lib.hid hrs
      have HLT : Hid (0 ∈ m → rn < nm) := Lib.hid (fun h0 => by
        have h9 := take_lt0 h0
        rw [e1, ← hnm] at h9; exact h9)
      have HSUB : Hid (∀ g o n' c', inBlk (.slice (some (⟨gd, o, none⟩ : Addr)) n' c') g → inBlk vd g) := Lib.hid (fun g o n' c' hg => by
        obtain ⟨o', p', n2, c2, e⟩ := hg
        cases e
        exact hin gd ⟨od, none, _, _, rfl⟩)
      obtain ⟨rl, hrl⟩ : ∃ rl, rl = (m.drop kn).length := ⟨_, rfl⟩
      have w5 : IntKind.i64.wrap ((nm : Int) - (rl : Int)) = (kn : Int) := by rw [IntWalk.i64_in _ (by omega)]; omega
      have hrl2 : rl ≤ nm := by omega
      have t0 : decide ((nm : Int) > 0) = true := decide_eq_true (by omega)
      have t0' : (0 : Int) < (nm : Int) := by omega
      have p1 : (0 : Int) ≤ (rn : Int) := by omega
      have p2 : (rn : Int) ≤ (nm : Int) := by omega
      have p3 : (rn : Int) ≤ (c : Int) := by omega
      have p4 : (rn : Int) ≤ (kn : Int) := by omega
      have p5 : (kn : Int) ≤ (c : Int) := by omega
      have p6 : rn ≤ kn := by omega
      obtain ⟨wq, hwq⟩ : ∃ z, z = W1.drew := ⟨_, rfl⟩
      have HQ : Hid (wq = World.drew (wr.alloc (.cells #[.int .u8 0] 5 (1, 2)))) := Lib.hid (by rw [hwq, hW1])
      have hbq : Boxed wq B 57 (.slice (some ⟨gd, od, none⟩) nm c) := by rw [hwq]; exact hbx1
      have hcq := hbq.cell
      have HBQ := Lib.hid hbq
      have HSQ : Hid (W.heap.size ≤ wq.heap.size) := Lib.hid (by rw [hwq]; exact Nat.le_trans hsz hb1.size)
      have HJQ : Hid (J pre wq) := Lib.hid (HJ.out pre wr wq none HJP.out (by rw [hwq]; exact below_grown hb1.drew) (fun r e => by cases e))
      have HKQ : Hid (∀ g, inBlk vd g → wq.heap[g]? = w.heap[g]?) := Lib.hid (by rw [hwq]; exact kept1)
      have HEE : Hid (∀ a9, RuE vd w (m.take rn, zn) #[.slice (some ⟨gd, od, none⟩) rn rn, .slice a9 (kn - rn) (kn - rn)]) := Lib.hid (fun a9 => by
        refine ⟨⟨gd, od, none⟩, a9, kn - rn, ?_, ?_, ?_⟩
        · simp only [e4]
          rw [hkn, Nat.add_sub_cancel_left]
        · simp only [e4]
          have := hrd.part 0 rn rn (Nat.zero_le _) (by omega) (Nat.le_refl _) (by omega)
          rw [List.drop_zero, Nat.sub_zero, ← bytesV_take] at this
          by_cases hz : rn = 0
          · rw [if_pos hz] at this; exact this
          · rw [if_neg hz] at this; exact this
        · intro g hg
          obtain ⟨o, p, n', c', e⟩ := hg
          cases e
          exact hin gd ⟨od, none, _, _, rfl⟩)
      have HNEXT : Hid (∀ W3, J (pre ++ [(m.take rn, zn)]) W3 → Fix (ruT B vd) wq W3 → ∀ v, Rd W1 v (bytesV (m.drop kn)) → (∀ g, inBlk v g → inBlk vd g) → Boxed W3 B 57 (.slice (some ⟨gd, od, none⟩) nm c) → J (pre ++ [(m.take rn, zn)]) (W3.setCell ⟨B, 0, none⟩ v) ∧ RuB B vd w (m.drop kn) (W3.setCell ⟨B, 0, none⟩ v) ∧ (∀ g, inBlk vd g → (W3.setCell ⟨B, 0, none⟩ v).heap[g]? = w.heap[g]?)) := Lib.hid (fun W3 g1 g2 v g3 g4 g5 => by
        refine ⟨HJ.out _ _ _ (some B) g1 (grownBy_setCell' _ _ _) (fun r e => by cases e; rfl), ⟨v, g5.set v, ?_, g4⟩, fun g hg => ?_⟩
        · exact g3.kept fun g hg => (kept1 g (g4 g hg)).symm
        · have hne : g ≠ B := fun e => HNB.out (e ▸ hg)
          exact (Below.heap_setCell _ _ _ _ (show g ≠ B from hne)).trans ((g2 g (.inr hg)).trans (HKQ.out g hg)))
      have HMEAS : Hid (∀ (W3 : World) v, RuB B vd w (m.drop kn) (W3.setCell ⟨B, 0, none⟩ v) → leftR B (W3.setCell ⟨B, 0, none⟩ v) < leftR B wr) := Lib.hid (fun W3 v g1 => by
        obtain ⟨v2, q1, q2, _⟩ := g1
        obtain ⟨aa, cc, rfl, _, _, _⟩ := q2.shape
        rw [leftR_of q1, leftR_of hbx, e3]
        omega)
      have HW1 := Lib.hid hW1
      have HK1 := Lib.hid kept1
      have HIX2 : Hid (Lib.indexByte m 0 = if 0 ∈ m then (rn : Int) else -1) := Lib.hid (by rw [index_run, e1])
      have HBX1 := Lib.hid hbx1
      have HRW := Lib.hid hrd
      have HIN := Lib.hid hin
      have HB1 := Lib.hid hb1
      have HRN : Hid (0 ∉ m → rn = nm) := Lib.hid (fun h0 => by rw [hnm]; exact run_none hR h0)
      clear e1 e2 e4 hs1 hsg hnm hkn hrs hb1 kept1 rdw hbx1 hcz hW1 hbx hrd hin hc3 hR e3 hwq hbq
      by_cases h0 : 0 ∈ m
      · have hix : Lib.indexByte m 0 = (rn : Int) := by rw [HIX2.out, if_pos h0]
        rw [hix] at HIX
        have t1 : ((rn : Int) < 0) = False := by simp
        have hcr : ¬ c = rn := by have := HLT.out h0; omega
        have HTR := Lib.hid (trim_any (.slice (some ⟨gd, od + rn, none⟩) (nm - rn) (c - rn)) (m.drop rn) W1 (by have := HRS.out; rw [if_neg hcr, Option.map_some, addr_add] at this; exact this))
        clear h0 hix
        gi_wp2_with (first
          | (refine ⟨trivial, ?_⟩; gi_at_call 62; rw [← HW1.out]; refine (callsIn_wide.2 HIX.out).mono ?_; rintro e w' ⟨rfl, rfl⟩; rw [HW1.out])
          | (refine ⟨trivial, ?_⟩; gi_at_call 63; rw [← HW1.out]; refine (callsIn_wide.2 HTR.out).mono ?_; rintro e w' ⟨v4, rfl, h1, h2, rfl⟩; rw [HE2.out] at h1; have H1 := Lib.hid h1; have H2 := Lib.hid h2; obtain ⟨a5, c5, rfl, _, _, _⟩ := h1.shape; rw [← hrl] at H1 H2 ⊢; clear h1 h2 hrl; rw [HW1.out]))
        refine wpIn_region_any mixed ?_
        (try (change wpAnyIn _ _ _ _ _ _ _ _ _ (World.drew _)))
        rw [← HQ.out]
        refine wpAnyIn_take (i := 0) (v := ?_) rfl rfl (by kernel_rfl) (by kernel_rfl) (by kernel_rfl) (fun _ _ _ h => h) ⟨Or.inl ⟨by rfl, ?_⟩, fun _ => rfl⟩ ?_
        rotate_left
        · (intro w; go_simp; try with_reducible rfl)
        (try simp only [Act.put, List.setIfInBounds_toArray, List.set_cons_zero, List.set_cons_succ])
        refine wpAnyIn_take (i := 2) (v := ?_) rfl rfl (by kernel_rfl) (by kernel_rfl) (by kernel_rfl) (fun _ _ _ h => h) ⟨Or.inl ⟨by rfl, ?_⟩, fun _ => rfl⟩ ?_
        rotate_left
        · (intro w; go_simp; try with_reducible rfl)
        (try simp only [Act.put, List.setIfInBounds_toArray, List.set_cons_zero, List.set_cons_succ])
        refine wpAnyIn_take (i := 3) (v := ?_) rfl rfl (by kernel_rfl) (by kernel_rfl) (by kernel_rfl) (fun _ _ _ h => h) ⟨Or.inl ⟨by rfl, ?_⟩, fun _ => rfl⟩ ?_
        rotate_left
        · (intro w; go_simp; try with_reducible rfl)
        (try simp only [Act.put, List.setIfInBounds_toArray, List.set_cons_zero, List.set_cons_succ])
        refine wpAnyIn_take (i := 6) (v := ?_) rfl rfl (by kernel_rfl) (by kernel_rfl) (by kernel_rfl) (fun _ _ _ h => h) ⟨Or.inl ⟨by rfl, ?_⟩, fun _ => rfl⟩ ?_
        rotate_left
        · (intro w; go_simp; try with_reducible rfl)
        (try simp only [Act.put, List.setIfInBounds_toArray, List.set_cons_zero, List.set_cons_succ])
        refine wpAnyIn_take (i := 7) (v := ?_) rfl rfl (by kernel_rfl) (by kernel_rfl) (by kernel_rfl) (fun _ _ _ h => h) ⟨Or.inl ⟨by rfl, ?_⟩, fun _ => rfl⟩ ?_
        rotate_left
        · (intro w; go_simp; try with_reducible rfl)
        (try simp only [Act.put, List.setIfInBounds_toArray, List.set_cons_zero, List.set_cons_succ])
        refine wpAnyIn_take (i := 8) (v := ?_) rfl rfl (by kernel_rfl) (by kernel_rfl) (by kernel_rfl) (fun _ _ _ h => h) ⟨Or.inl ⟨by rfl, ?_⟩, fun _ => rfl⟩ ?_
        rotate_left
        · (intro w; go_simp; try with_reducible rfl)
        (try simp only [Act.put, List.setIfInBounds_toArray, List.set_cons_zero, List.set_cons_succ])
        refine wpAnyIn_ready (rs := [1, 5]) (by kernel_rfl) (by simp) (AllReadyIn.cons rfl (fun K hK => ?_) (AllReadyIn.cons rfl (fun K hK => ?_) AllReadyIn.nil))
        · go_simp
          refine hK _ _ ?_
          clear hK K
          (try simp only [Act.put, List.setIfInBounds_toArray, List.set_cons_zero, List.set_cons_succ])
          refine wpAnyIn_take (i := 4) (v := ?_) rfl rfl (by kernel_rfl) (by kernel_rfl) (by kernel_rfl) (fun _ _ _ h => h) ⟨Or.inl ⟨by rfl, ?_⟩, fun _ => rfl⟩ ?_
          rotate_left
          · (intro w; go_simp; try with_reducible rfl)
          (try simp only [Act.put, List.setIfInBounds_toArray, List.set_cons_zero, List.set_cons_succ])
          refine wpAnyIn_ready (rs := [5]) (by kernel_rfl) (by simp) (AllReadyIn.cons rfl (fun K hK => ?_) AllReadyIn.nil)
          go_simp
          refine hK _ _ ?_
          clear hK K
          (try simp only [Act.put, List.setIfInBounds_toArray, List.set_cons_zero, List.set_cons_succ])
          refine wpAnyIn_take (i := 9) (v := ?_) rfl rfl (by kernel_rfl) (by kernel_rfl) (by kernel_rfl) (fun _ _ _ h => h) ⟨Or.inl ⟨by rfl, ?_⟩, fun _ => rfl⟩ ?_
          rotate_left
          · (intro w; go_simp; try with_reducible rfl)
          (try simp only [Act.put, List.setIfInBounds_toArray, List.set_cons_zero, List.set_cons_succ])
          refine wpAnyIn_ready (rs := [10]) (by kernel_rfl) (by simp) (AllReadyIn.cons rfl (fun K hK => ?_) AllReadyIn.nil)
          generalize (if kn = rn then some (⟨gd, od, none⟩ : Addr) else some (⟨gd, od + rn, none⟩ : Addr)) = a9
          obtain ⟨fn, tmps, assign, body, hy, hR⟩ := HY.out pre (m.take rn, zn) #[.slice (some ⟨gd, od, none⟩) rn rn, .slice a9 (kn - rn) (kn - rn)] wq ⟨segs (m.drop kn), HSG2.out.symm⟩ (HEE.out a9) HJQ.out HSQ.out
          go_simp
          refine hR.mono ?_
          rintro e2 W3 (⟨rfl, hJ3, hk3, hs3⟩ | ⟨rfl, hJx3⟩)
          · have HJ3 := Lib.hid hJ3
            have HK3 := Lib.hid hk3
            clear hJ3 hk3 hy hR
            refine hK _ _ ?_
            clear hK K
            (try simp only [Act.put, List.setIfInBounds_toArray, List.set_cons_zero, List.set_cons_succ])
            refine wpAnyIn_take (i := 11) (v := ?_) rfl rfl (by kernel_rfl) (by kernel_rfl) (by kernel_rfl) (fun _ _ _ h => h) ⟨Or.inl ⟨by rfl, ?_⟩, fun _ => rfl⟩ ?_
            rotate_left
            · (intro w; go_simp; try with_reducible rfl)
            (try simp only [Act.put, List.setIfInBounds_toArray, List.set_cons_zero, List.set_cons_succ])
            refine wpAnyIn_done (by kernel_rfl) ?_ _
            have hb3 : Boxed W3 B 57 (.slice (some ⟨gd, od, none⟩) nm c) := boxed_same HBQ.out (HK3.out B (.inl rfl))
            have c3 := hb3.cell
            have f3 := hb3.frozen
            have HFR := Lib.hid (HNEXT.out W3 HJ3.out HK3.out (.slice a5 rl c5) H1.out (fun g hg => HSUB.out g _ _ _ (H2.out g hg)) hb3)
            clear hb3
            gi_wp2
            go_roundw
            case rel => exact ⟨m.drop kn, pre ++ [(m.take rn, zn)], Lib.hid (by have := HML.out; rw [List.length_drop]; omega), HSG2, Lib.hid HFR.out.1, Lib.hid HFR.out.2.1, Lib.hid HFR.out.2.2, by simpa using hs3⟩
            case measure => exact HMEAS.out W3 _ HFR.out.2.1
          · refine hK _ _ ?_
            clear hK K
            (try simp only [Act.put, List.setIfInBounds_toArray, List.set_cons_zero, List.set_cons_succ])
            refine wpAnyIn_take (i := 11) (v := ?_) rfl rfl (by kernel_rfl) (by kernel_rfl) (by kernel_rfl) (fun _ _ _ h => h) ⟨Or.inl ⟨by rfl, ?_⟩, fun _ => rfl⟩ ?_
            rotate_left
            · (intro w; go_simp; try with_reducible rfl)
            (try simp only [Act.put, List.setIfInBounds_toArray, List.set_cons_zero, List.set_cons_succ])
            refine wpAnyIn_done (by kernel_rfl) ?_ _
            gi_wp2
            exact bodyPost_ret (results_none rfl _ _ _) rfl ⟨⟨_, rfl⟩, .inr ⟨_, hJx3⟩⟩
        · go_simp
          refine hK _ _ ?_
          clear hK K
          (try simp only [Act.put, List.setIfInBounds_toArray, List.set_cons_zero, List.set_cons_succ])
          refine wpAnyIn_take (i := 9) (v := ?_) rfl rfl (by kernel_rfl) (by kernel_rfl) (by kernel_rfl) (fun _ _ _ h => h) ⟨Or.inl ⟨by rfl, ?_⟩, fun _ => rfl⟩ ?_
          rotate_left
          · (intro w; go_simp; try with_reducible rfl)
          (try simp only [Act.put, List.setIfInBounds_toArray, List.set_cons_zero, List.set_cons_succ])
          refine wpAnyIn_ready (rs := [1]) (by kernel_rfl) (by simp) (AllReadyIn.cons rfl (fun K hK => ?_) AllReadyIn.nil)
          go_simp
          refine hK _ _ ?_
          clear hK K
          (try simp only [Act.put, List.setIfInBounds_toArray, List.set_cons_zero, List.set_cons_succ])
          refine wpAnyIn_take (i := 4) (v := ?_) rfl rfl (by kernel_rfl) (by kernel_rfl) (by kernel_rfl) (fun _ _ _ h => h) ⟨Or.inl ⟨by rfl, ?_⟩, fun _ => rfl⟩ ?_
          rotate_left
          · (intro w; go_simp; try with_reducible rfl)
          (try simp only [Act.put, List.setIfInBounds_toArray, List.set_cons_zero, List.set_cons_succ])
          refine wpAnyIn_ready (rs := [10]) (by kernel_rfl) (by simp) (AllReadyIn.cons rfl (fun K hK => ?_) AllReadyIn.nil)
          generalize (if kn = rn then some (⟨gd, od, none⟩ : Addr) else some (⟨gd, od + rn, none⟩ : Addr)) = a9
          obtain ⟨fn, tmps, assign, body, hy, hR⟩ := HY.out pre (m.take rn, zn) #[.slice (some ⟨gd, od, none⟩) rn rn, .slice a9 (kn - rn) (kn - rn)] wq ⟨segs (m.drop kn), HSG2.out.symm⟩ (HEE.out a9) HJQ.out HSQ.out
          go_simp
          refine hR.mono ?_
          rintro e2 W3 (⟨rfl, hJ3, hk3, hs3⟩ | ⟨rfl, hJx3⟩)
          · have HJ3 := Lib.hid hJ3
            have HK3 := Lib.hid hk3
            clear hJ3 hk3 hy hR
            refine hK _ _ ?_
            clear hK K
            (try simp only [Act.put, List.setIfInBounds_toArray, List.set_cons_zero, List.set_cons_succ])
            refine wpAnyIn_take (i := 11) (v := ?_) rfl rfl (by kernel_rfl) (by kernel_rfl) (by kernel_rfl) (fun _ _ _ h => h) ⟨Or.inl ⟨by rfl, ?_⟩, fun _ => rfl⟩ ?_
            rotate_left
            · (intro w; go_simp; try with_reducible rfl)
            (try simp only [Act.put, List.setIfInBounds_toArray, List.set_cons_zero, List.set_cons_succ])
            refine wpAnyIn_done (by kernel_rfl) ?_ _
            have hb3 : Boxed W3 B 57 (.slice (some ⟨gd, od, none⟩) nm c) := boxed_same HBQ.out (HK3.out B (.inl rfl))
            have c3 := hb3.cell
            have f3 := hb3.frozen
            have HFR := Lib.hid (HNEXT.out W3 HJ3.out HK3.out (.slice a5 rl c5) H1.out (fun g hg => HSUB.out g _ _ _ (H2.out g hg)) hb3)
            clear hb3
            gi_wp2
            go_roundw
            case rel => exact ⟨m.drop kn, pre ++ [(m.take rn, zn)], Lib.hid (by have := HML.out; rw [List.length_drop]; omega), HSG2, Lib.hid HFR.out.1, Lib.hid HFR.out.2.1, Lib.hid HFR.out.2.2, by simpa using hs3⟩
            case measure => exact HMEAS.out W3 _ HFR.out.2.1
          · refine hK _ _ ?_
            clear hK K
            (try simp only [Act.put, List.setIfInBounds_toArray, List.set_cons_zero, List.set_cons_succ])
            refine wpAnyIn_take (i := 11) (v := ?_) rfl rfl (by kernel_rfl) (by kernel_rfl) (by kernel_rfl) (fun _ _ _ h => h) ⟨Or.inl ⟨by rfl, ?_⟩, fun _ => rfl⟩ ?_
            rotate_left
            · (intro w; go_simp; try with_reducible rfl)
            (try simp only [Act.put, List.setIfInBounds_toArray, List.set_cons_zero, List.set_cons_succ])
            refine wpAnyIn_done (by kernel_rfl) ?_ _
            gi_wp2
            exact bodyPost_ret (results_none rfl _ _ _) rfl ⟨⟨_, rfl⟩, .inr ⟨_, hJx3⟩⟩
      · have hrn := HRN.out h0
        have hix : Lib.indexByte m 0 = -1 := by rw [HIX2.out, if_neg h0]
        rw [hix] at HIX
        subst hrn
        have hsl : rn - rn = 0 := Nat.sub_self _
        clear h0 hix
        by_cases hcr : c = rn
        · skip
          have HTR := Lib.hid (trim_any (.slice (some ⟨gd, od, none⟩) 0 0) (m.drop rn) W1 (by have := HRS.out; rw [if_pos hcr, hcr, hsl] at this; exact this))
          have hcr2 : rn = c := hcr.symm
          clear hcr
          subst hcr2
          clear hsl
          gi_wp2_with (first
            | (refine ⟨trivial, ?_⟩; gi_at_call 62; rw [← HW1.out]; refine (callsIn_wide.2 HIX.out).mono ?_; rintro e w' ⟨rfl, rfl⟩; rw [HW1.out])
            | (refine ⟨trivial, ?_⟩; gi_at_call 63; rw [← HW1.out]; refine (callsIn_wide.2 HTR.out).mono ?_; rintro e w' ⟨v4, rfl, h1, h2, rfl⟩; rw [HE2.out] at h1; have H1 := Lib.hid h1; have H2 := Lib.hid h2; obtain ⟨a5, c5, rfl, _, _, _⟩ := h1.shape; rw [← hrl] at H1 H2 ⊢; clear h1 h2 hrl; rw [HW1.out]))
          refine wpIn_region_any mixed ?_
          (try (change wpAnyIn _ _ _ _ _ _ _ _ _ (World.drew _)))
          rw [← HQ.out]
          refine wpAnyIn_take (i := 0) (v := ?_) rfl rfl (by kernel_rfl) (by kernel_rfl) (by kernel_rfl) (fun _ _ _ h => h) ⟨Or.inl ⟨by rfl, ?_⟩, fun _ => rfl⟩ ?_
          rotate_left
          · (intro w; go_simp; try with_reducible rfl)
          (try simp only [Act.put, List.setIfInBounds_toArray, List.set_cons_zero, List.set_cons_succ])
          refine wpAnyIn_take (i := 2) (v := ?_) rfl rfl (by kernel_rfl) (by kernel_rfl) (by kernel_rfl) (fun _ _ _ h => h) ⟨Or.inl ⟨by rfl, ?_⟩, fun _ => rfl⟩ ?_
          rotate_left
          · (intro w; go_simp; try with_reducible rfl)
          (try simp only [Act.put, List.setIfInBounds_toArray, List.set_cons_zero, List.set_cons_succ])
          refine wpAnyIn_take (i := 3) (v := ?_) rfl rfl (by kernel_rfl) (by kernel_rfl) (by kernel_rfl) (fun _ _ _ h => h) ⟨Or.inl ⟨by rfl, ?_⟩, fun _ => rfl⟩ ?_
          rotate_left
          · (intro w; go_simp; try with_reducible rfl)
          (try simp only [Act.put, List.setIfInBounds_toArray, List.set_cons_zero, List.set_cons_succ])
          refine wpAnyIn_take (i := 6) (v := ?_) rfl rfl (by kernel_rfl) (by kernel_rfl) (by kernel_rfl) (fun _ _ _ h => h) ⟨Or.inl ⟨by rfl, ?_⟩, fun _ => rfl⟩ ?_
          rotate_left
          · (intro w; go_simp; try with_reducible rfl)
          (try simp only [Act.put, List.setIfInBounds_toArray, List.set_cons_zero, List.set_cons_succ])
          refine wpAnyIn_take (i := 7) (v := ?_) rfl rfl (by kernel_rfl) (by kernel_rfl) (by kernel_rfl) (fun _ _ _ h => h) ⟨Or.inl ⟨by rfl, ?_⟩, fun _ => rfl⟩ ?_
          rotate_left
          · (intro w; go_simp; try with_reducible rfl)
          (try simp only [Act.put, List.setIfInBounds_toArray, List.set_cons_zero, List.set_cons_succ])
          refine wpAnyIn_take (i := 8) (v := ?_) rfl rfl (by kernel_rfl) (by kernel_rfl) (by kernel_rfl) (fun _ _ _ h => h) ⟨Or.inl ⟨by rfl, ?_⟩, fun _ => rfl⟩ ?_
          rotate_left
          · (intro w; go_simp; try with_reducible rfl)
          (try simp only [Act.put, List.setIfInBounds_toArray, List.set_cons_zero, List.set_cons_succ])
          refine wpAnyIn_ready (rs := [1, 5]) (by kernel_rfl) (by simp) (AllReadyIn.cons rfl (fun K hK => ?_) (AllReadyIn.cons rfl (fun K hK => ?_) AllReadyIn.nil))
          · go_simp
            refine hK _ _ ?_
            clear hK K
            (try simp only [Act.put, List.setIfInBounds_toArray, List.set_cons_zero, List.set_cons_succ])
            refine wpAnyIn_take (i := 4) (v := ?_) rfl rfl (by kernel_rfl) (by kernel_rfl) (by kernel_rfl) (fun _ _ _ h => h) ⟨Or.inl ⟨by rfl, ?_⟩, fun _ => rfl⟩ ?_
            rotate_left
            · (intro w; go_simp; try with_reducible rfl)
            (try simp only [Act.put, List.setIfInBounds_toArray, List.set_cons_zero, List.set_cons_succ])
            refine wpAnyIn_ready (rs := [5]) (by kernel_rfl) (by simp) (AllReadyIn.cons rfl (fun K hK => ?_) AllReadyIn.nil)
            go_simp
            refine hK _ _ ?_
            clear hK K
            (try simp only [Act.put, List.setIfInBounds_toArray, List.set_cons_zero, List.set_cons_succ])
            refine wpAnyIn_take (i := 9) (v := ?_) rfl rfl (by kernel_rfl) (by kernel_rfl) (by kernel_rfl) (fun _ _ _ h => h) ⟨Or.inl ⟨by rfl, ?_⟩, fun _ => rfl⟩ ?_
            rotate_left
            · (intro w; go_simp; try with_reducible rfl)
            (try simp only [Act.put, List.setIfInBounds_toArray, List.set_cons_zero, List.set_cons_succ])
            refine wpAnyIn_ready (rs := [10]) (by kernel_rfl) (by simp) (AllReadyIn.cons rfl (fun K hK => ?_) AllReadyIn.nil)
            generalize (if kn = rn then some (⟨gd, od, none⟩ : Addr) else some (⟨gd, od + rn, none⟩ : Addr)) = a9
            obtain ⟨fn, tmps, assign, body, hy, hR⟩ := HY.out pre (m.take rn, zn) #[.slice (some ⟨gd, od, none⟩) rn rn, .slice a9 (kn - rn) (kn - rn)] wq ⟨segs (m.drop kn), HSG2.out.symm⟩ (HEE.out a9) HJQ.out HSQ.out
            go_simp
            refine hR.mono ?_
            rintro e2 W3 (⟨rfl, hJ3, hk3, hs3⟩ | ⟨rfl, hJx3⟩)
            · have HJ3 := Lib.hid hJ3
              have HK3 := Lib.hid hk3
              clear hJ3 hk3 hy hR
              refine hK _ _ ?_
              clear hK K
              (try simp only [Act.put, List.setIfInBounds_toArray, List.set_cons_zero, List.set_cons_succ])
              refine wpAnyIn_take (i := 11) (v := ?_) rfl rfl (by kernel_rfl) (by kernel_rfl) (by kernel_rfl) (fun _ _ _ h => h) ⟨Or.inl ⟨by rfl, ?_⟩, fun _ => rfl⟩ ?_
              rotate_left
              · (intro w; go_simp; try with_reducible rfl)
              (try simp only [Act.put, List.setIfInBounds_toArray, List.set_cons_zero, List.set_cons_succ])
              refine wpAnyIn_done (by kernel_rfl) ?_ _
              have hb3 : Boxed W3 B 57 (.slice (some ⟨gd, od, none⟩) rn rn) := boxed_same HBQ.out (HK3.out B (.inl rfl))
              have c3 := hb3.cell
              have f3 := hb3.frozen
              have HFR := Lib.hid (HNEXT.out W3 HJ3.out HK3.out (.slice a5 rl c5) H1.out (fun g hg => HSUB.out g _ _ _ (H2.out g hg)) hb3)
              clear hb3
              gi_wp2
              go_roundw
              case rel => exact ⟨m.drop kn, pre ++ [(m.take rn, zn)], Lib.hid (by have := HML.out; rw [List.length_drop]; omega), HSG2, Lib.hid HFR.out.1, Lib.hid HFR.out.2.1, Lib.hid HFR.out.2.2, by simpa using hs3⟩
              case measure => exact HMEAS.out W3 _ HFR.out.2.1
            · refine hK _ _ ?_
              clear hK K
              (try simp only [Act.put, List.setIfInBounds_toArray, List.set_cons_zero, List.set_cons_succ])
              refine wpAnyIn_take (i := 11) (v := ?_) rfl rfl (by kernel_rfl) (by kernel_rfl) (by kernel_rfl) (fun _ _ _ h => h) ⟨Or.inl ⟨by rfl, ?_⟩, fun _ => rfl⟩ ?_
              rotate_left
              · (intro w; go_simp; try with_reducible rfl)
              (try simp only [Act.put, List.setIfInBounds_toArray, List.set_cons_zero, List.set_cons_succ])
              refine wpAnyIn_done (by kernel_rfl) ?_ _
              gi_wp2
              exact bodyPost_ret (results_none rfl _ _ _) rfl ⟨⟨_, rfl⟩, .inr ⟨_, hJx3⟩⟩
          · go_simp
            refine hK _ _ ?_
            clear hK K
            (try simp only [Act.put, List.setIfInBounds_toArray, List.set_cons_zero, List.set_cons_succ])
            refine wpAnyIn_take (i := 9) (v := ?_) rfl rfl (by kernel_rfl) (by kernel_rfl) (by kernel_rfl) (fun _ _ _ h => h) ⟨Or.inl ⟨by rfl, ?_⟩, fun _ => rfl⟩ ?_
            rotate_left
            · (intro w; go_simp; try with_reducible rfl)
            (try simp only [Act.put, List.setIfInBounds_toArray, List.set_cons_zero, List.set_cons_succ])
            refine wpAnyIn_ready (rs := [1]) (by kernel_rfl) (by simp) (AllReadyIn.cons rfl (fun K hK => ?_) AllReadyIn.nil)
            go_simp
            refine hK _ _ ?_
            clear hK K
            (try simp only [Act.put, List.setIfInBounds_toArray, List.set_cons_zero, List.set_cons_succ])
            refine wpAnyIn_take (i := 4) (v := ?_) rfl rfl (by kernel_rfl) (by kernel_rfl) (by kernel_rfl) (fun _ _ _ h => h) ⟨Or.inl ⟨by rfl, ?_⟩, fun _ => rfl⟩ ?_
            rotate_left
            · (intro w; go_simp; try with_reducible rfl)
            (try simp only [Act.put, List.setIfInBounds_toArray, List.set_cons_zero, List.set_cons_succ])
            refine wpAnyIn_ready (rs := [10]) (by kernel_rfl) (by simp) (AllReadyIn.cons rfl (fun K hK => ?_) AllReadyIn.nil)
            generalize (if kn = rn then some (⟨gd, od, none⟩ : Addr) else some (⟨gd, od + rn, none⟩ : Addr)) = a9
            obtain ⟨fn, tmps, assign, body, hy, hR⟩ := HY.out pre (m.take rn, zn) #[.slice (some ⟨gd, od, none⟩) rn rn, .slice a9 (kn - rn) (kn - rn)] wq ⟨segs (m.drop kn), HSG2.out.symm⟩ (HEE.out a9) HJQ.out HSQ.out
            go_simp
            refine hR.mono ?_
            rintro e2 W3 (⟨rfl, hJ3, hk3, hs3⟩ | ⟨rfl, hJx3⟩)
            · have HJ3 := Lib.hid hJ3
              have HK3 := Lib.hid hk3
              clear hJ3 hk3 hy hR
              refine hK _ _ ?_
              clear hK K
              (try simp only [Act.put, List.setIfInBounds_toArray, List.set_cons_zero, List.set_cons_succ])
              refine wpAnyIn_take (i := 11) (v := ?_) rfl rfl (by kernel_rfl) (by kernel_rfl) (by kernel_rfl) (fun _ _ _ h => h) ⟨Or.inl ⟨by rfl, ?_⟩, fun _ => rfl⟩ ?_
              rotate_left
              · (intro w; go_simp; try with_reducible rfl)
              (try simp only [Act.put, List.setIfInBounds_toArray, List.set_cons_zero, List.set_cons_succ])
              refine wpAnyIn_done (by kernel_rfl) ?_ _
              have hb3 : Boxed W3 B 57 (.slice (some ⟨gd, od, none⟩) rn rn) := boxed_same HBQ.out (HK3.out B (.inl rfl))
              have c3 := hb3.cell
              have f3 := hb3.frozen
              have HFR := Lib.hid (HNEXT.out W3 HJ3.out HK3.out (.slice a5 rl c5) H1.out (fun g hg => HSUB.out g _ _ _ (H2.out g hg)) hb3)
              clear hb3
              gi_wp2
              go_roundw
              case rel => exact ⟨m.drop kn, pre ++ [(m.take rn, zn)], Lib.hid (by have := HML.out; rw [List.length_drop]; omega), HSG2, Lib.hid HFR.out.1, Lib.hid HFR.out.2.1, Lib.hid HFR.out.2.2, by simpa using hs3⟩
              case measure => exact HMEAS.out W3 _ HFR.out.2.1
            · refine hK _ _ ?_
              clear hK K
              (try simp only [Act.put, List.setIfInBounds_toArray, List.set_cons_zero, List.set_cons_succ])
              refine wpAnyIn_take (i := 11) (v := ?_) rfl rfl (by kernel_rfl) (by kernel_rfl) (by kernel_rfl) (fun _ _ _ h => h) ⟨Or.inl ⟨by rfl, ?_⟩, fun _ => rfl⟩ ?_
              rotate_left
              · (intro w; go_simp; try with_reducible rfl)
              (try simp only [Act.put, List.setIfInBounds_toArray, List.set_cons_zero, List.set_cons_succ])
              refine wpAnyIn_done (by kernel_rfl) ?_ _
              gi_wp2
              exact bodyPost_ret (results_none rfl _ _ _) rfl ⟨⟨_, rfl⟩, .inr ⟨_, hJx3⟩⟩
        · skip
          have HTR := Lib.hid (trim_any (.slice (some ⟨gd, od + rn, none⟩) 0 (c - rn)) (m.drop rn) W1 (by have := HRS.out; rw [if_neg hcr, Option.map_some, addr_add, hsl] at this; exact this))
          clear hsl
          gi_wp2_with (first
            | (refine ⟨trivial, ?_⟩; gi_at_call 62; rw [← HW1.out]; refine (callsIn_wide.2 HIX.out).mono ?_; rintro e w' ⟨rfl, rfl⟩; rw [HW1.out])
            | (refine ⟨trivial, ?_⟩; gi_at_call 63; rw [← HW1.out]; refine (callsIn_wide.2 HTR.out).mono ?_; rintro e w' ⟨v4, rfl, h1, h2, rfl⟩; rw [HE2.out] at h1; have H1 := Lib.hid h1; have H2 := Lib.hid h2; obtain ⟨a5, c5, rfl, _, _, _⟩ := h1.shape; rw [← hrl] at H1 H2 ⊢; clear h1 h2 hrl; rw [HW1.out]))
          refine wpIn_region_any mixed ?_
          (try (change wpAnyIn _ _ _ _ _ _ _ _ _ (World.drew _)))
          rw [← HQ.out]
          refine wpAnyIn_take (i := 0) (v := ?_) rfl rfl (by kernel_rfl) (by kernel_rfl) (by kernel_rfl) (fun _ _ _ h => h) ⟨Or.inl ⟨by rfl, ?_⟩, fun _ => rfl⟩ ?_
          rotate_left
          · (intro w; go_simp; try with_reducible rfl)
          (try simp only [Act.put, List.setIfInBounds_toArray, List.set_cons_zero, List.set_cons_succ])
          refine wpAnyIn_take (i := 2) (v := ?_) rfl rfl (by kernel_rfl) (by kernel_rfl) (by kernel_rfl) (fun _ _ _ h => h) ⟨Or.inl ⟨by rfl, ?_⟩, fun _ => rfl⟩ ?_
          rotate_left
          · (intro w; go_simp; try with_reducible rfl)
          (try simp only [Act.put, List.setIfInBounds_toArray, List.set_cons_zero, List.set_cons_succ])
          refine wpAnyIn_take (i := 3) (v := ?_) rfl rfl (by kernel_rfl) (by kernel_rfl) (by kernel_rfl) (fun _ _ _ h => h) ⟨Or.inl ⟨by rfl, ?_⟩, fun _ => rfl⟩ ?_
          rotate_left
          · (intro w; go_simp; try with_reducible rfl)
          (try simp only [Act.put, List.setIfInBounds_toArray, List.set_cons_zero, List.set_cons_succ])
          refine wpAnyIn_take (i := 6) (v := ?_) rfl rfl (by kernel_rfl) (by kernel_rfl) (by kernel_rfl) (fun _ _ _ h => h) ⟨Or.inl ⟨by rfl, ?_⟩, fun _ => rfl⟩ ?_
          rotate_left
          · (intro w; go_simp; try with_reducible rfl)
          (try simp only [Act.put, List.setIfInBounds_toArray, List.set_cons_zero, List.set_cons_succ])
          refine wpAnyIn_take (i := 7) (v := ?_) rfl rfl (by kernel_rfl) (by kernel_rfl) (by kernel_rfl) (fun _ _ _ h => h) ⟨Or.inl ⟨by rfl, ?_⟩, fun _ => rfl⟩ ?_
          rotate_left
          · (intro w; go_simp; try with_reducible rfl)
          (try simp only [Act.put, List.setIfInBounds_toArray, List.set_cons_zero, List.set_cons_succ])
          refine wpAnyIn_take (i := 8) (v := ?_) rfl rfl (by kernel_rfl) (by kernel_rfl) (by kernel_rfl) (fun _ _ _ h => h) ⟨Or.inl ⟨by rfl, ?_⟩, fun _ => rfl⟩ ?_
          rotate_left
          · (intro w; go_simp; try with_reducible rfl)
          (try simp only [Act.put, List.setIfInBounds_toArray, List.set_cons_zero, List.set_cons_succ])
          refine wpAnyIn_ready (rs := [1, 5]) (by kernel_rfl) (by simp) (AllReadyIn.cons rfl (fun K hK => ?_) (AllReadyIn.cons rfl (fun K hK => ?_) AllReadyIn.nil))
          · go_simp
            refine hK _ _ ?_
            clear hK K
            (try simp only [Act.put, List.setIfInBounds_toArray, List.set_cons_zero, List.set_cons_succ])
            refine wpAnyIn_take (i := 4) (v := ?_) rfl rfl (by kernel_rfl) (by kernel_rfl) (by kernel_rfl) (fun _ _ _ h => h) ⟨Or.inl ⟨by rfl, ?_⟩, fun _ => rfl⟩ ?_
            rotate_left
            · (intro w; go_simp; try with_reducible rfl)
            (try simp only [Act.put, List.setIfInBounds_toArray, List.set_cons_zero, List.set_cons_succ])
            refine wpAnyIn_ready (rs := [5]) (by kernel_rfl) (by simp) (AllReadyIn.cons rfl (fun K hK => ?_) AllReadyIn.nil)
            go_simp
            refine hK _ _ ?_
            clear hK K
            (try simp only [Act.put, List.setIfInBounds_toArray, List.set_cons_zero, List.set_cons_succ])
            refine wpAnyIn_take (i := 9) (v := ?_) rfl rfl (by kernel_rfl) (by kernel_rfl) (by kernel_rfl) (fun _ _ _ h => h) ⟨Or.inl ⟨by rfl, ?_⟩, fun _ => rfl⟩ ?_
            rotate_left
            · (intro w; go_simp; try with_reducible rfl)
            (try simp only [Act.put, List.setIfInBounds_toArray, List.set_cons_zero, List.set_cons_succ])
            refine wpAnyIn_ready (rs := [10]) (by kernel_rfl) (by simp) (AllReadyIn.cons rfl (fun K hK => ?_) AllReadyIn.nil)
            generalize (if kn = rn then some (⟨gd, od, none⟩ : Addr) else some (⟨gd, od + rn, none⟩ : Addr)) = a9
            obtain ⟨fn, tmps, assign, body, hy, hR⟩ := HY.out pre (m.take rn, zn) #[.slice (some ⟨gd, od, none⟩) rn rn, .slice a9 (kn - rn) (kn - rn)] wq ⟨segs (m.drop kn), HSG2.out.symm⟩ (HEE.out a9) HJQ.out HSQ.out
            go_simp
            refine hR.mono ?_
            rintro e2 W3 (⟨rfl, hJ3, hk3, hs3⟩ | ⟨rfl, hJx3⟩)
            · have HJ3 := Lib.hid hJ3
              have HK3 := Lib.hid hk3
              clear hJ3 hk3 hy hR
              refine hK _ _ ?_
              clear hK K
              (try simp only [Act.put, List.setIfInBounds_toArray, List.set_cons_zero, List.set_cons_succ])
              refine wpAnyIn_take (i := 11) (v := ?_) rfl rfl (by kernel_rfl) (by kernel_rfl) (by kernel_rfl) (fun _ _ _ h => h) ⟨Or.inl ⟨by rfl, ?_⟩, fun _ => rfl⟩ ?_
              rotate_left
              · (intro w; go_simp; try with_reducible rfl)
              (try simp only [Act.put, List.setIfInBounds_toArray, List.set_cons_zero, List.set_cons_succ])
              refine wpAnyIn_done (by kernel_rfl) ?_ _
              have hb3 : Boxed W3 B 57 (.slice (some ⟨gd, od, none⟩) rn c) := boxed_same HBQ.out (HK3.out B (.inl rfl))
              have c3 := hb3.cell
              have f3 := hb3.frozen
              have HFR := Lib.hid (HNEXT.out W3 HJ3.out HK3.out (.slice a5 rl c5) H1.out (fun g hg => HSUB.out g _ _ _ (H2.out g hg)) hb3)
              clear hb3
              gi_wp2
              go_roundw
              case rel => exact ⟨m.drop kn, pre ++ [(m.take rn, zn)], Lib.hid (by have := HML.out; rw [List.length_drop]; omega), HSG2, Lib.hid HFR.out.1, Lib.hid HFR.out.2.1, Lib.hid HFR.out.2.2, by simpa using hs3⟩
              case measure => exact HMEAS.out W3 _ HFR.out.2.1
            · refine hK _ _ ?_
              clear hK K
              (try simp only [Act.put, List.setIfInBounds_toArray, List.set_cons_zero, List.set_cons_succ])
              refine wpAnyIn_take (i := 11) (v := ?_) rfl rfl (by kernel_rfl) (by kernel_rfl) (by kernel_rfl) (fun _ _ _ h => h) ⟨Or.inl ⟨by rfl, ?_⟩, fun _ => rfl⟩ ?_
              rotate_left
              · (intro w; go_simp; try with_reducible rfl)
              (try simp only [Act.put, List.setIfInBounds_toArray, List.set_cons_zero, List.set_cons_succ])
              refine wpAnyIn_done (by kernel_rfl) ?_ _
              gi_wp2
              exact bodyPost_ret (results_none rfl _ _ _) rfl ⟨⟨_, rfl⟩, .inr ⟨_, hJx3⟩⟩
          · go_simp
            refine hK _ _ ?_
            clear hK K
            (try simp only [Act.put, List.setIfInBounds_toArray, List.set_cons_zero, List.set_cons_succ])
            refine wpAnyIn_take (i := 9) (v := ?_) rfl rfl (by kernel_rfl) (by kernel_rfl) (by kernel_rfl) (fun _ _ _ h => h) ⟨Or.inl ⟨by rfl, ?_⟩, fun _ => rfl⟩ ?_
            rotate_left
            · (intro w; go_simp; try with_reducible rfl)
            (try simp only [Act.put, List.setIfInBounds_toArray, List.set_cons_zero, List.set_cons_succ])
            refine wpAnyIn_ready (rs := [1]) (by kernel_rfl) (by simp) (AllReadyIn.cons rfl (fun K hK => ?_) AllReadyIn.nil)
            go_simp
            refine hK _ _ ?_
            clear hK K
            (try simp only [Act.put, List.setIfInBounds_toArray, List.set_cons_zero, List.set_cons_succ])
            refine wpAnyIn_take (i := 4) (v := ?_) rfl rfl (by kernel_rfl) (by kernel_rfl) (by kernel_rfl) (fun _ _ _ h => h) ⟨Or.inl ⟨by rfl, ?_⟩, fun _ => rfl⟩ ?_
            rotate_left
            · (intro w; go_simp; try with_reducible rfl)
            (try simp only [Act.put, List.setIfInBounds_toArray, List.set_cons_zero, List.set_cons_succ])
            refine wpAnyIn_ready (rs := [10]) (by kernel_rfl) (by simp) (AllReadyIn.cons rfl (fun K hK => ?_) AllReadyIn.nil)
            generalize (if kn = rn then some (⟨gd, od, none⟩ : Addr) else some (⟨gd, od + rn, none⟩ : Addr)) = a9
            obtain ⟨fn, tmps, assign, body, hy, hR⟩ := HY.out pre (m.take rn, zn) #[.slice (some ⟨gd, od, none⟩) rn rn, .slice a9 (kn - rn) (kn - rn)] wq ⟨segs (m.drop kn), HSG2.out.symm⟩ (HEE.out a9) HJQ.out HSQ.out
            go_simp
            refine hR.mono ?_
            rintro e2 W3 (⟨rfl, hJ3, hk3, hs3⟩ | ⟨rfl, hJx3⟩)
            · have HJ3 := Lib.hid hJ3
              have HK3 := Lib.hid hk3
              clear hJ3 hk3 hy hR
              refine hK _ _ ?_
              clear hK K
              (try simp only [Act.put, List.setIfInBounds_toArray, List.set_cons_zero, List.set_cons_succ])
              refine wpAnyIn_take (i := 11) (v := ?_) rfl rfl (by kernel_rfl) (by kernel_rfl) (by kernel_rfl) (fun _ _ _ h => h) ⟨Or.inl ⟨by rfl, ?_⟩, fun _ => rfl⟩ ?_
              rotate_left
              · (intro w; go_simp; try with_reducible rfl)
              (try simp only [Act.put, List.setIfInBounds_toArray, List.set_cons_zero, List.set_cons_succ])
              refine wpAnyIn_done (by kernel_rfl) ?_ _
              have hb3 : Boxed W3 B 57 (.slice (some ⟨gd, od, none⟩) rn c) := boxed_same HBQ.out (HK3.out B (.inl rfl))
              have c3 := hb3.cell
              have f3 := hb3.frozen
              have HFR := Lib.hid (HNEXT.out W3 HJ3.out HK3.out (.slice a5 rl c5) H1.out (fun g hg => HSUB.out g _ _ _ (H2.out g hg)) hb3)
              clear hb3
              gi_wp2
              go_roundw
              case rel => exact ⟨m.drop kn, pre ++ [(m.take rn, zn)], Lib.hid (by have := HML.out; rw [List.length_drop]; omega), HSG2, Lib.hid HFR.out.1, Lib.hid HFR.out.2.1, Lib.hid HFR.out.2.2, by simpa using hs3⟩
              case measure => exact HMEAS.out W3 _ HFR.out.2.1
            · refine hK _ _ ?_
              clear hK K
              (try simp only [Act.put, List.setIfInBounds_toArray, List.set_cons_zero, List.set_cons_succ])
              refine wpAnyIn_take (i := 11) (v := ?_) rfl rfl (by kernel_rfl) (by kernel_rfl) (by kernel_rfl) (fun _ _ _ h => h) ⟨Or.inl ⟨by rfl, ?_⟩, fun _ => rfl⟩ ?_
              rotate_left
              · (intro w; go_simp; try with_reducible rfl)
              (try simp only [Act.put, List.setIfInBounds_toArray, List.set_cons_zero, List.set_cons_succ])
              refine wpAnyIn_done (by kernel_rfl) ?_ _
              gi_wp2
              exact bodyPost_ret (results_none rfl _ _ _) rfl ⟨⟨_, rfl⟩, .inr ⟨_, hJx3⟩⟩
end Go.Proofs.YtophihnjlodmjaaDoor
