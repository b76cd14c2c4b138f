/- Proved here: takeIn of package sha: the words behind the whole blocks of some rows, and the bytes behind these. -/
import Derived.Test.YtkenbppoldfecaaDoorMix
import Derived.Test.YtkenbppoldfecaaDoorPad
import Derived.Outline
import Derived.Deep.RegionWith
namespace Go.Proofs.YtkenbppoldfecaaDoor
open Go.RowKit Go.Shelf

/-- In a region's still part: what a whole array's reading gives. -/
theorem still_reads {P : Program} {ops : Array Oper} {w : World} {Q : Act → Prop} {a : Act} {o : Oper} {rest : List Oper} (hw : Region.wanted o (yielded ops a.tmps) = true) (ty : TypeId) (x : Operand) (ho : o.op = .load ty x)
    (g : Nat) (hx : a.eval x = .pointer (some ⟨g, 0, none⟩)) (cs : Array Value) (hr : (loadVar ty ⟨g, 0, none⟩).run P w = .ok (.agg cs) w) (h : wpStill P ops w Q rest (a.put o.dst (.agg cs))) : wpStill P ops w Q (o :: rest) a := by
  have e : (execOp a.eval o).run P w = .ok (.value (.agg cs)) w := by
    unfold execOp
    simp only [ho, hx, Instr.loadAt, Instr.sureAddr]
    simp [hr]
  unfold wpStill
  rw [if_pos hw]
  unfold Oper.still
  rw [e, Oper.stillUpon_value]
  exact h

theorem bytesV_one (l : Bytes) : ∀ y ∈ bytesV l, y.oneCell' = true := by
  intro y hy
  obtain ⟨c, _, rfl⟩ := List.mem_map.1 hy
  rfl
theorem bytes_rows (ls : List Bytes) : (ls.map bytesV).flatten = bytesV ls.flatten := by
  unfold bytesV
  rw [List.map_flatten]

theorem clone_rd (l : Bytes) (v : Value) (w : World) (h : Rd w v (bytesV l)) (hl : l.length ≤ 140737488355328) :
    Calls Tryd.prog 42 #[v] w fun e w' => ∃ v', e = .returned v' ∧ w'.ownsRow w.heap.size 5 1 v' l.length (bytesV l) ∧ Below w.heap.size w w' := by
  obtain ⟨a, cap, rfl, h1, h2, h3, h4⟩ := h
  rw [bytesV_len] at h1 h4 ⊢
  cases a with
  | none =>
    obtain ⟨hn, rfl⟩ := h3 rfl
    have : l = [] := by cases l <;> simp_all [bytesV]
    subst this
    refine (Tryd.bytes_Clone_nil 0 0 w).mono ?_
    rintro e w' ⟨rfl, rfl⟩
    exact ⟨_, rfl, World.ownsRow_nil _ _ _ _, Below.refl _ _⟩
  | some ad =>
    have e : bytesV l = (l.map fun c : UInt8 => (c.toNat : Int)).map (Value.int .u8) := by unfold bytesV; rw [List.map_map]; rfl
    refine (Tryd.bytes_Clone_at ad l.length cap (l.map fun c : UInt8 => (c.toNat : Int)) w (by simp) hl (fun i hi => ?_)).mono ?_
    · obtain ⟨g, o, e1, hg, hc⟩ := h4 (by omega)
      cases e1
      rw [addr_add]
      refine hc i _ ?_
      unfold bytesV
      rw [List.getElem?_map, List.getElem?_eq_getElem hi]
      simp [List.getD_eq_getElem?_getD, List.getElem?_eq_getElem hi]
    · rintro e1 w' ⟨v', rfl, ho, _, hb⟩
      exact ⟨v', rfl, by rw [e]; exact ho, hb⟩

theorem own_mono {w : World} {base base' n : Nat} {e : TypeId} {v : Value} {xs : List Value} (h : w.ownsRow base e 1 v n xs) (hb : base' ≤ base) : w.ownsRow base' e 1 v n xs := by
  obtain ⟨h1, h2⟩ := h
  refine ⟨h1, h2.imp id ?_⟩
  rintro ⟨g, cap, cur, r1, r2, r3⟩
  exact ⟨g, cap, cur, r1, Nat.le_trans hb r2, r3⟩
theorem own_far_row {w : World} {base g n : Nat} {e : TypeId} {v : Value} {xs : List Value} (h : w.ownsRow base e 1 v n xs) (hg : g < base) (cs : Array Value) : (w.setRow g cs).ownsRow base e 1 v n xs :=
  h.kept (row := some g) ⟨rfl, rfl, rfl, by simp, fun k _ hne => setRow_other w g k cs (fun e => hne (by rw [e]))⟩ (by
    cases hv : v.ownBlock with
    | none => exact .inl rfl
    | some k =>
      have := (h.lt k hv).1
      exact .inr (fun e => by injection e with e; omega))
theorem Rd.far_row {w : World} {g : Nat} {a : Option Addr} {n cap : Nat} {xs : List Value} (h : Rd w (.slice a n cap) xs) (hg : ∀ ad, a = some ad → ad.block ≠ g) (cs : Array Value) : Rd (w.setRow g cs) (.slice a n cap) xs := by
  obtain ⟨a', cap', e, h1, h2, h3, h4⟩ := h
  cases e
  refine ⟨a, cap, rfl, h1, h2, h3, fun h0 => ?_⟩
  obtain ⟨k, o, rfl, hk, hc⟩ := h4 h0
  exact ⟨k, o, rfl, by simpa using hk, fun j x hx => (cell_setRow_other w g cs ⟨k, o + j, none⟩ (hg ⟨k, o, none⟩ rfl)).trans (hc j x hx)⟩
theorem run_slice_to3 {P : Program} {t e : TypeId} (ht : P.underlying t = some (.slice e)) (hs : ∀ w, (Go.sizeOf e).run P w = .ok 1 w) (a : Addr) (len cap k : Nat) (hk : k ≤ cap) (w : World) :
    (Instr.slice t (.slice (some a) len cap) none (some (.int .i64 (k : Int))) (some (.int .i64 (k : Int)))).run P w = .ok (.slice (some a) k k) w := by
  have h1 : (0 : Int) ≤ (k : Int) ∧ (k : Int) ≤ (cap : Int) := by omega
  simp [Instr.slice, Sem.run_bind, run_underlying ht, Instr.sliceBounds, Instr.sliceBound, asIntOf, hk, h1, hs, Addr.add]

theorem blk_back (k : Nat) (s : St) (l : Bytes) : blk (k + 1) s l = mixS consts (blk k s l) ((l.drop (64 * k)).take 64) := by
  induction k generalizing s l with
  | zero => rfl
  | succ k ih => rw [blk, ih, blk, List.drop_drop, show 64 + 64 * k = 64 * (k + 1) by omega]
theorem blk_all {s : St} {l : Bytes} {k : Nat} (h1 : 64 * k ≤ l.length) (h2 : l.length - 64 * k < 64) : wordsOf s l = blk k s l ∧ restOf l = l.drop (64 * k) := by
  have e : l.length / 64 = k := by omega
  unfold wordsOf restOf
  rw [e, Nat.mul_comm]
  exact ⟨rfl, rfl⟩

theorem block_add (ad : Addr) (k : Nat) : (ad.add k).block = ad.block := by unfold Addr.add; split <;> rfl
theorem drop_block {B cap k : Nat} {a : Option Addr} (h : ∀ ad, a = some ad → B ≤ ad.block) : ∀ ad, (if cap = k then a else a.map (·.add k)) = some ad → B ≤ ad.block := by
  intro ad e
  split at e
  · exact h ad e
  · cases a with
    | none => cases e
    | some x =>
      simp at e
      rw [← e, block_add]
      exact h x rfl
theorem Rd.drewN {w : World} {v : Value} {xs : List Value} (h : Rd w v xs) (n : Nat) : Rd (w.drewN n) v xs := h
theorem Rd.drew {w : World} {v : Value} {xs : List Value} (h : Rd w v xs) : Rd w.drew v xs := h
theorem rd_get {l : Bytes} {j : Nat} (hj : j < l.length) : (bytesV l)[j]? = some (b8 (l.getD j 0)) := by
  unfold bytesV
  rw [List.getElem?_map, get_getD l 0 hj]
  rfl

/-- 'v[k:]' of a slice that reads so. -/
theorem Rd.drop {w : World} {a : Option Addr} {n cap : Nat} {xs : List Value} (h : Rd w (.slice a n cap) xs) (hn : n = xs.length) (k : Nat) (hk : k ≤ n) : Rd w (.slice (if cap = k then a else a.map (·.add k)) (n - k) (cap - k)) (xs.drop k) := by
  obtain ⟨a', cap', e, h1, h2, h3, h4⟩ := h
  cases e
  refine ⟨_, cap - k, by rw [List.length_drop], by rw [List.length_drop]; omega, by omega, fun e => ?_, fun h0 => ?_⟩
  · have ha : a = none := by
      split at e
      · exact e
      · simpa using e
    obtain ⟨rfl, rfl⟩ := h3 ha
    simp
  · rw [List.length_drop] at h0
    obtain ⟨g, o, rfl, hg, hc⟩ := h4 (by omega)
    rw [if_neg (by omega)]
    refine ⟨g, o + k, by simp [addr_add], hg, fun j x hx => ?_⟩
    rw [List.getElem?_drop] at hx
    rw [Nat.add_assoc]
    exact hc _ x hx
theorem run_slice_from {P : Program} {t e : TypeId} (ht : P.underlying t = some (.slice e)) (hs : ∀ w, (Go.sizeOf e).run P w = .ok 1 w) (a : Option Addr) (len cap k : Nat) (hk : k ≤ len) (w : World) :
    (Instr.slice t (.slice a len cap) (some (.int .i64 (k : Int))) none none).run P w = .ok (.slice (if cap = k then a else a.map (·.add k)) (len - k) (cap - k)) w := by
  have h1 : (0 : Int) ≤ (k : Int) ∧ (k : Int) ≤ (len : Int) := by omega
  simp [Instr.slice, Sem.run_bind, run_underlying ht, Instr.sliceBounds, Instr.sliceBound, asIntOf, hk, h1, hs]

/-- Two results: an array out of its variable, and a slot. -/
theorem results_two {P : Program} {fn : Func} {p q : Tmp} {ty : TypeId} (h : fn.results = #[.cell p ty, .tmp q]) (tmps : Array Value) (w : World) (g : Nat) (hp : tmps.getD p undef = .pointer (some ⟨g, 0, none⟩)) (cs : Array Value) (hr : (loadVar ty ⟨g, 0, none⟩).run P w = .ok (.agg cs) w) :
    (results fn tmps).run P w = .ok (.tuple #[.agg cs, tmps.getD q undef]) w := by
  have e : tmps[p]?.getD undef = .pointer (some ⟨g, 0, none⟩) := by rw [← hp]; simp
  simp [results, h, e, asAddr, hr]

theorem blk_short {s : St} {l : Bytes} (h : l.length < 64) : wordsOf s l = s ∧ restOf l = l := by
  unfold wordsOf restOf
  rw [Nat.div_eq_of_lt h]
  exact ⟨rfl, rfl⟩

theorem stA_sizes (x y : St) : (stA x).size = (stA y).size := rfl

theorem cells_set8 (l : List Value) (a b c d e f g' h' : Wd) : ((((((((part z32 l 8 0).setIfInBounds 0 (u a)).setIfInBounds 1 (u b)).setIfInBounds 2 (u c)).setIfInBounds 3 (u d)).setIfInBounds 4 (u e)).setIfInBounds 5 (u f)).setIfInBounds 6 (u g')).setIfInBounds 7 (u h') = stA ⟨a, b, c, d, e, f, g', h'⟩ := by
  have e : (List.replicate 8 z32).toArray = #[z32, z32, z32, z32, z32, z32, z32, z32] := rfl
  rw [part_zero, e]
  unfold stA wordsV St.words
  simp
theorem box_set8 {w : World} {g : Nat} {l : List Value} (h : Box w g 33 (part z32 l 8 0)) (a b c d e f g' h' : Wd) :
    Box ((((((((w.setCell ⟨g, 0, none⟩ (u a)).setCell ⟨g, 1, none⟩ (u b)).setCell ⟨g, 2, none⟩ (u c)).setCell ⟨g, 3, none⟩ (u d)).setCell ⟨g, 4, none⟩ (u e)).setCell ⟨g, 5, none⟩ (u f)).setCell ⟨g, 6, none⟩ (u g')).setCell ⟨g, 7, none⟩ (u h')) g 33 (stA ⟨a, b, c, d, e, f, g', h'⟩) := by
  rw [← cells_set8 l]
  exact (((((((h.set (k := 0) (u a)).set (k := 1) (u b)).set (k := 2) (u c)).set (k := 3) (u d)).set (k := 4) (u e)).set (k := 5) (u f)).set (k := 6) (u g')).set (k := 7) (u h')
theorem below_set8 {w w' : World} {B g : Nat} (h : Below B w w') (hg : B ≤ g) (a b c d e f g' h' : Value) :
    Below B w ((((((((w'.setCell ⟨g, 0, none⟩ a).setCell ⟨g, 1, none⟩ b).setCell ⟨g, 2, none⟩ c).setCell ⟨g, 3, none⟩ d).setCell ⟨g, 4, none⟩ e).setCell ⟨g, 5, none⟩ f).setCell ⟨g, 6, none⟩ g').setCell ⟨g, 7, none⟩ h') :=
  ((((((((h.setCell (p := ⟨g, 0, none⟩) hg _).setCell (p := ⟨g, 1, none⟩) hg _).setCell (p := ⟨g, 2, none⟩) hg _).setCell (p := ⟨g, 3, none⟩) hg _).setCell (p := ⟨g, 4, none⟩) hg _).setCell (p := ⟨g, 5, none⟩) hg _).setCell (p := ⟨g, 6, none⟩) hg _).setCell (p := ⟨g, 7, none⟩) hg _)
theorem own_far {w : World} {base g k n : Nat} {e : TypeId} {v : Value} {xs : List Value} (h : w.ownsRow base e 1 v n xs) (hg : g < base) (y : Value) : (w.setCell ⟨g, k, none⟩ y).ownsRow base e 1 v n xs :=
  ownsRow_setCell_other h (fun e => by have := (h.lt g e).1; omega) y
theorem own_set8 {w : World} {base g n : Nat} {t : TypeId} {v : Value} {xs : List Value} (h : w.ownsRow base t 1 v n xs) (hg : g < base) (a b c d e f g' h' : Value) :
    ((((((((w.setCell ⟨g, 0, none⟩ a).setCell ⟨g, 1, none⟩ b).setCell ⟨g, 2, none⟩ c).setCell ⟨g, 3, none⟩ d).setCell ⟨g, 4, none⟩ e).setCell ⟨g, 5, none⟩ f).setCell ⟨g, 6, none⟩ g').setCell ⟨g, 7, none⟩ h').ownsRow base t 1 v n xs :=
  own_far (own_far (own_far (own_far (own_far (own_far (own_far (own_far h hg _) hg _) hg _) hg _) hg _) hg _) hg _) hg _

def TookIn (s : St) (l : Bytes) (w : World) (e : Ending) (w' : World) : Prop := ∃ v', e = .returned (.tuple #[.agg (stA (wordsOf s l)), v']) ∧ w'.ownsRow w.heap.size 5 1 v' (restOf l).length (bytesV (restOf l)) ∧ Below w.heap.size w w'

set_option maxRecDepth 100000 in
set_option maxHeartbeats 3000000 in
theorem takeIn_any (s : St) (ls : List Bytes) (l : Bytes) (hls : ls.flatten = l) (v : Value) (t : TypeId) (fr : Nat × Nat) (w : World) (hP : Prim t fr w) (hv : RdR w v (ls.map bytesV)) (hl : l.length ≤ 140737488355328) : Calls Tryd.prog 26 #[.agg (stA s), v] w (TookIn s l w) := by
  have hB0 : Below w.heap.size w ((w.alloc (.cells (stA s) 33)).alloc (.cells (part z32 [] 8 0) 33)) := ((Below.refl _ _).alloc (Nat.le_refl _) _).alloc (by simp) _
  have hflat : (ls.map bytesV).flatten = bytesV l := by rw [bytes_rows, hls]
  have h1 := concat40_any (ls.map bytesV) v _ (hv.on hB0) (fun r hr y hy => by
    obtain ⟨b, _, rfl⟩ := List.mem_map.1 hr
    exact bytesV_one b y hy) (by rw [hflat, bytesV_len]; omega)
  have HV := Lib.hid h1
  have HF := Lib.hid hflat
  have HP := Lib.hid hP
  have HL := Lib.hid hl
  clear h1 hflat hP hv hl hls
  go_enter Tryd.func26, Tryd.ntmps26
  go_wp2_with (with_reducible refine wpList_zero rfl 33 rfl (part z32 [] 8 0) (zero33 _) ?_)
  refine HV.out.mono ?_
  rintro e w1 ⟨v1, rfl, hown, hb1⟩
  have hB1 := hB0.trans (hb1.mono hB0.size)
  rw [HF.out, bytesV_len] at hown
  have X0 : Hid (Box w1 w.heap.size 33 (stA s)) := Lib.hid (((show Box _ _ _ _ from heap_alloc_new w _).alloc _).below hb1 (by simp; omega))
  have X1 : Hid (Box w1 (w.heap.size + 1) 33 (part z32 [] 8 0)) := Lib.hid ((show Box _ _ _ _ from heap_alloc2_new w _ _).below hb1 (by simp))
  have l1 := X1.out.lt
  have hR1 := Rd.of_own hown
  have hO1 : w1.ownsRow (w.heap.size + 2) 5 1 v1 l.length (bytesV l) := own_mono hown (by simp)
  obtain ⟨a, cap, rfl, hc1, hc2, hc3, hc4⟩ := id hR1
  rw [bytesV_len] at hc1 hO1 hR1 hc4 ⊢
  unfold maxLen at hc2
  obtain ⟨n, hn⟩ : ∃ n, n = l.length := ⟨_, rfl⟩
  have HR1 := Lib.hid hR1
  have HO1 := Lib.hid hO1
  rw [← hn] at hc1 hc4 HR1 HO1 ⊢
  have HN := Lib.hid hn
  have HB1 := Lib.hid hB1
  clear hn hc3 hc4 hR1 hO1 hown hb1 hB0
  by_cases hs : n < 64
  · have hs2 : (n : Int) < 64 := by omega
    have HE := Lib.hid (Wrapped.mk (blk_short (s := s) (l := l) (by have := HN.out; omega)))
    go_wp2_with (first
      | (refine wpList_load_row rfl 33 (.tmp 2) rfl w.heap.size rfl 33 (stA s) (0, 0) (.array 8 30) X0.out Tryd.underlying33 rfl (info33s _) ?_)
      | (refine wpList_store_row rfl 33 (.tmp 4) (.tmp 13) rfl (w.heap.size + 1) (stA s) rfl rfl 33 (part z32 [] 8 0) X1.out (info33s _) (zeros8s _ _) (stA_one _) ?_))
    refine bodyPost_ret (results_two rfl _ _ (w.heap.size + 1) rfl (stA s) (run_loadVar_row _ (w.heap.size + 1) 33 33 (stA s) (0, 0) (.array 8 30) (setRow_heap _ _ _ _ _ _ X1.out) Tryd.underlying33 rfl (info33s _))) rfl ?_
    have he := HE.out.get
    refine ⟨.slice a n cap, by rw [he.1]; rfl, ?_, below_row HB1.out (by omega) _⟩
    rw [he.2, ← HN.out]
    exact own_mono (own_far_row HO1.out (by omega) _) (by omega)
  · have hs2 : ¬ ((n : Int) < 64) := by omega
    go_wp2_with fail
    refine (constants_any t fr _ (HP.out.on HB1.out)).mono ?_
    rintro e w2 ⟨rfl, hb2⟩
    have X2 : Hid (Box (w2.alloc (.cells (part z32 constsV 64 0) 31)) w2.heap.size 31 (part z32 constsV 64 0)) := Lib.hid (box_new _ _ _ rfl)
    have hsz2 := hb2.size
    have Y0 : Hid (Box ((w2.alloc (.cells (part z32 constsV 64 0) 31)).setRow w2.heap.size constsA) w.heap.size 33 (stA s)) := Lib.hid (((X0.out.below hb2 (by omega)).alloc _).far_row (by omega) _)
    have Y1 : Hid (Box ((w2.alloc (.cells (part z32 constsV 64 0) 31)).setRow w2.heap.size constsA) (w.heap.size + 1) 33 (part z32 [] 8 0)) := Lib.hid (((X1.out.below hb2 (by omega)).alloc _).far_row (by omega) _)
    have Y2 : Hid (Box ((w2.alloc (.cells (part z32 constsV 64 0) 31)).setRow w2.heap.size constsA) w2.heap.size 31 constsA) := Lib.hid (X2.out.row _)
    have hOW : (w2.alloc (.cells (part z32 constsV 64 0) 31)).ownsRow (w.heap.size + 2) 5 1 (.slice a n cap) n (bytesV l) := (owns_on HO1.out hb2).alloc _
    have hag : ∀ ad, a = some ad → ad.block ≠ w2.heap.size ∧ w.heap.size + 2 ≤ ad.block := fun ad e => by
      have h1 := (owns_on HO1.out hb2).lt ad.block (by rw [e]; rfl)
      exact ⟨by omega, h1.1⟩
    have hYR : Rd ((w2.alloc (.cells (part z32 constsV 64 0) 31)).setRow w2.heap.size constsA) (.slice a n cap) (bytesV l) := (Rd.of_own hOW).far_row (fun ad e => (hag ad e).1) _
    have YR := Lib.hid hYR
    have YB : Hid (Below w.heap.size w ((w2.alloc (.cells (part z32 constsV 64 0) 31)).setRow w2.heap.size constsA)) := Lib.hid (below_row ((bch HB1.out hb2).alloc (by omega) _) (by omega) _)
    have HAG := Lib.hid fun ad e => (hag ad e).2
    clear hYR hOW hag
    go_wp2_with (first
      | (with_reducible refine wpList_zero rfl 31 rfl (part z32 constsV 64 0) (zero31 _) ?_)
      | (refine wpList_store_row rfl 31 (.tmp 7) (.tmp 15) rfl w2.heap.size constsA rfl rfl 31 (part z32 constsV 64 0) X2.out info31 zeros_size consts_one ?_))
    obtain ⟨W, hW⟩ : ∃ x, x = (w2.alloc (.cells (part z32 constsV 64 0) 31)).setRow w2.heap.size constsA := ⟨_, rfl⟩
    rw [← hW] at Y0 Y1 Y2 YR YB ⊢
    obtain ⟨gq, hgq⟩ : ∃ x, x = w2.heap.size := ⟨_, rfl⟩
    have hgq2 : w.heap.size + 1 < gq := by omega
    rw [← hgq] at Y2 ⊢
    clear hW X0 X1 X2 HB1 hgq hb2 HO1
    go_frame
    go_loopw [6, 16, 17, 18, 19, 20, 21, 22, 23, 24, 25] (fun x _ _ _ _ _ _ _ _ _ _ wr => ∃ (k : Nat) (a' : Option Addr) (m cap' : Nat), x = .slice a' m cap' ∧ m + 64 * k = n ∧ m ≤ cap' ∧ cap' ≤ 2 ^ 63 - 1 ∧ Hid (Rd wr (.slice a' m cap') (bytesV (l.drop (64 * k)))) ∧ Hid (∀ ad, a' = some ad → w.heap.size + 2 ≤ ad.block) ∧ Hid (Box wr w.heap.size 33 (stA (blk k s l))) ∧ Hid (Box wr (w.heap.size + 1) 33 (part z32 [] 8 0)) ∧ Hid (Box wr gq 31 constsA) ∧ Below w.heap.size w wr) (fun x _ _ _ _ _ _ _ _ _ _ _ => match x with | .slice _ m _ => m | _ => 0)
    case atStart => exact ⟨0, a, n, cap, rfl, by omega, hc1, hc2, YR, HAG, Y0, Y1, Y2, YB.out⟩
    case round =>
      obtain ⟨k, a', m, cap', rfl, hm, hmc, hc', HR, HA, H0, H1, H2, hB⟩ := hrel
      have hsz := hB.size
      have l1' := H1.out.lt
      by_cases hlt : 64 ≤ m
      · have hlt2 : (64 : Int) ≤ (m : Int) := by omega
        have hml : m = (bytesV (l.drop (64 * k))).length := by rw [bytesV_len, List.length_drop]; have := HN.out; omega
        obtain ⟨a2, cap2, e2, _, _, _, hcell⟩ := id HR.out
        rw [← hml] at e2 hcell
        cases e2
        obtain ⟨g, o, rfl, hg, hc⟩ := hcell (by omega)
        have HD := Lib.hid (HR.out.drop hml 64 hlt)
        have hdrop : (bytesV (l.drop (64 * k))).drop 64 = bytesV (l.drop (64 * (k + 1))) := by
          unfold bytesV
          rw [← List.map_drop, List.drop_drop, show 64 * k + 64 = 64 * (k + 1) by omega]
        have hsl : ∀ W : World, (Instr.slice 24 (.slice (some ⟨g, o, none⟩) m cap') none (some (.int .i64 64)) (some (.int .i64 64))).run Tryd.prog W = .ok (.slice (some ⟨g, o, none⟩) 64 64) W := fun W => run_slice_to3 Tryd.underlying24 Tryd.sizeOf5 ⟨g, o, none⟩ m cap' 64 (by omega) W
        have hsf : ∀ W : World, (Instr.slice 24 (.slice (some ⟨g, o, none⟩) m cap') (some (.int .i64 64)) none none).run Tryd.prog W = .ok (.slice (if cap' = 64 then some ⟨g, o, none⟩ else some ⟨g, o + 64, none⟩) (m - 64) (cap' - 64)) W := fun W => by
          have h := run_slice_from (P := Tryd.prog) Tryd.underlying24 Tryd.sizeOf5 (some ⟨g, o, none⟩) m cap' 64 hlt W
          refine h.trans ?_
          simp [addr_add]
        obtain ⟨a3, ha3⟩ : ∃ a3 : Option Addr, a3 = if cap' = 64 then some ⟨g, o, none⟩ else some ⟨g, o + 64, none⟩ := ⟨_, rfl⟩
        have ha3' : (if cap' = 64 then (some ⟨g, o, none⟩ : Option Addr) else (some ⟨g, o, none⟩ : Option Addr).map (·.add 64)) = a3 := by rw [ha3]; simp [addr_add]
        have HA3 := Lib.hid (drop_block (cap := cap') (k := 64) HA.out)
        rw [ha3'] at HA3 HD
        rw [hdrop] at HD
        rw [← ha3] at hsf
        have hcm : ∀ j, j < 64 → wr.cell? ⟨g, o + j, none⟩ = some (b8 (((l.drop (64 * k)).take 64).getD j 0)) := fun j hj => by
          rw [hc j _ (rd_get (by rw [bytesV_len] at hml; omega))]
          congr 2
          rw [List.getD_eq_getElem?_getD, List.getD_eq_getElem?_getD, List.getElem?_take, if_pos hj]
        have hgB : w.heap.size + 2 ≤ g := HA.out _ rfl
        have HCM := Lib.hid hcm
        clear hc hcell ha3 ha3' hdrop hcm hml
        go_wp2_with fail
        refine wp_region_still_tail 4 (by kernel_rfl) (by kernel_rfl) ?_
        simp only [List.take_succ_cons, List.take_zero, List.drop_succ_cons, List.drop_zero]
        refine still_reads rfl 33 (.tmp 2) rfl w.heap.size rfl (stA (blk k s l)) (run_loadVar_row _ w.heap.size 33 33 (stA (blk k s l)) (0, 0) (.array 8 30) H0.out Tryd.underlying33 rfl (info33s _)) ?_
        refine still_reads rfl 31 (.tmp 7) rfl gq rfl constsA (run_loadVar_row _ gq 31 31 constsA (0, 0) (.array 64 30) H2.out Tryd.underlying31 rfl info31) ?_
        repeat still_step
        try refine wpStill_nil ?_
        change wpList _ _ _ _ _ wr.drew
        have G0 := Lib.hid H0.out.drew
        have G1 := Lib.hid H1.out.drew
        have G2 := Lib.hid H2.out.drew
        have GB := Lib.hid hB.drew
        have GR : Hid (Rd wr.drew (.slice a3 (m - 64) (cap' - 64)) (bytesV (l.drop (64 * (k + 1))))) := Lib.hid HD.out.drew
        have GC : Hid (∀ j, j < 64 → wr.drew.cell? ⟨g, o + j, none⟩ = some (b8 (((l.drop (64 * k)).take 64).getD j 0))) := HCM
        have Gg : g < wr.drew.heap.size := hg
        have Gl1 : w.heap.size + 1 < wr.drew.heap.size := l1'
        obtain ⟨wd, hwd⟩ : ∃ wd, wr.drew = wd := ⟨_, rfl⟩
        rw [hwd] at G0 G1 G2 GB GR GC Gg Gl1 ⊢
        clear HCM HD hwd hsl H0 H1 H2 hB HR hg l1'
        go_wp2_with fail
        refine (mix_any (blk k s l) ((l.drop (64 * k)).take 64) g o 64 wd (by omega) (by omega) Gg GC.out).mono ?_
        rintro e w3 ⟨rfl, hb3⟩
        have T0 : Hid (Box w3 w.heap.size 33 (stA (blk k s l))) := Lib.hid (G0.out.below hb3 (by omega))
        go_wp2_with (refine wpList_store_row rfl 33 (.tmp 2) (.tmp 23) rfl w.heap.size (stA (mixS consts (blk k s l) ((l.drop (64 * k)).take 64))) rfl rfl 33 (stA (blk k s l)) T0.out (info33s _) (stA_sizes _ _) (stA_one _) ?_)
        go_roundw
        case rel =>
          refine ⟨k + 1, a3, m - 64, cap' - 64, rfl, by omega, by omega, by omega, Lib.hid ?_, HA3, Lib.hid ?_, Lib.hid ((G1.out.below hb3 (by omega)).far_row (by omega) _), Lib.hid ((G2.out.below hb3 G2.out.lt).far_row (by omega) _), below_row (bch GB.out hb3) (Nat.le_refl _) _⟩
          · exact (GR.out.on hb3).far_row (fun ad e => by have := HA3.out ad e; omega) _
          · rw [blk_back]
            exact T0.out.row _
        case measure => simp; omega
      · have hlt2 : ¬ ((64 : Int) ≤ (m : Int)) := by omega
        have HE := Lib.hid (Wrapped.mk (blk_all (s := s) (l := l) (k := k) (by have := HN.out; omega) (by have := HN.out; omega)))
        obtain ⟨x, hx⟩ : ∃ x, x = blk k s l := ⟨_, rfl⟩
        rw [← hx] at H0
        have HX := Lib.hid (Wrapped.mk hx)
        clear hx
        obtain ⟨xa, xb, xc, xd, xe, xf, xg, xh⟩ := x
        have e0 : wr.cell? ⟨w.heap.size, 0, none⟩ = some (u xa) := H0.out.cell (k := 0) rfl
        have e1 : wr.cell? ⟨w.heap.size, 1, none⟩ = some (u xb) := H0.out.cell (k := 1) rfl
        have e2 : wr.cell? ⟨w.heap.size, 2, none⟩ = some (u xc) := H0.out.cell (k := 2) rfl
        have e3 : wr.cell? ⟨w.heap.size, 3, none⟩ = some (u xd) := H0.out.cell (k := 3) rfl
        have e4 : wr.cell? ⟨w.heap.size, 4, none⟩ = some (u xe) := H0.out.cell (k := 4) rfl
        have e5 : wr.cell? ⟨w.heap.size, 5, none⟩ = some (u xf) := H0.out.cell (k := 5) rfl
        have e6 : wr.cell? ⟨w.heap.size, 6, none⟩ = some (u xg) := H0.out.cell (k := 6) rfl
        have e7 : wr.cell? ⟨w.heap.size, 7, none⟩ = some (u xh) := H0.out.cell (k := 7) rfl
        have D0 : Box wr.drew w.heap.size 33 (stA ⟨xa, xb, xc, xd, xe, xf, xg, xh⟩) := H0.out.drew
        have D1 : Box wr.drew (w.heap.size + 1) 33 (part z32 [] 8 0) := H1.out.drew
        have DR := Lib.hid HR.out.drew
        have DB : Below w.heap.size w wr.drew := hB.drew
        have hlen : (l.drop (64 * k)).length ≤ 140737488355328 := by rw [List.length_drop]; have := HL.out; omega
        have HLEN := Lib.hid hlen
        clear hlen
        go_wp2_with fail
        go_region_with (go_at_call 42; refine (clone_rd (l.drop (64 * k)) _ _ DR.out HLEN.out).mono ?_; rintro e w3 ⟨v3, rfl, ho3, hb3⟩; have y0 := (D0.below hb3 D0.lt).cell (k := 0) (v := u xa) rfl; have z0 := (D1.below hb3 D1.lt).cell (k := 0) (v := z32) rfl; have q0 := (D1.below hb3 D1.lt).frozen 0; have y1 := (D0.below hb3 D0.lt).cell (k := 1) (v := u xb) rfl; have z1 := (D1.below hb3 D1.lt).cell (k := 1) (v := z32) rfl; have q1 := (D1.below hb3 D1.lt).frozen 1; have y2 := (D0.below hb3 D0.lt).cell (k := 2) (v := u xc) rfl; have z2 := (D1.below hb3 D1.lt).cell (k := 2) (v := z32) rfl; have q2 := (D1.below hb3 D1.lt).frozen 2; have y3 := (D0.below hb3 D0.lt).cell (k := 3) (v := u xd) rfl; have z3 := (D1.below hb3 D1.lt).cell (k := 3) (v := z32) rfl; have q3 := (D1.below hb3 D1.lt).frozen 3; have y4 := (D0.below hb3 D0.lt).cell (k := 4) (v := u xe) rfl; have z4 := (D1.below hb3 D1.lt).cell (k := 4) (v := z32) rfl; have q4 := (D1.below hb3 D1.lt).frozen 4; have y5 := (D0.below hb3 D0.lt).cell (k := 5) (v := u xf) rfl; have z5 := (D1.below hb3 D1.lt).cell (k := 5) (v := z32) rfl; have q5 := (D1.below hb3 D1.lt).frozen 5; have y6 := (D0.below hb3 D0.lt).cell (k := 6) (v := u xg) rfl; have z6 := (D1.below hb3 D1.lt).cell (k := 6) (v := z32) rfl; have q6 := (D1.below hb3 D1.lt).frozen 6; have y7 := (D0.below hb3 D0.lt).cell (k := 7) (v := u xh) rfl; have z7 := (D1.below hb3 D1.lt).cell (k := 7) (v := z32) rfl; have q7 := (D1.below hb3 D1.lt).frozen 7)
        all_goals
          go_wp2
          have T1 : Box w3 (w.heap.size + 1) 33 (part z32 [] 8 0) := D1.below hb3 D1.lt
          have hwds := DB.size
          have hl1 := D1.lt
          refine bodyPost_ret (results_two rfl _ _ (w.heap.size + 1) rfl (stA ⟨xa, xb, xc, xd, xe, xf, xg, xh⟩) (run_loadVar_row _ (w.heap.size + 1) 33 33 (stA ⟨xa, xb, xc, xd, xe, xf, xg, xh⟩) (0, 0) (.array 8 30) (box_set8 T1 xa xb xc xd xe xf xg xh) Tryd.underlying33 rfl (info33s _))) rfl ?_
          have he := HE.out.get
          refine ⟨v3, by rw [he.1, ← HX.out.get]; rfl, ?_, below_set8 (bch DB hb3) (by omega) _ _ _ _ _ _ _ _⟩
          rw [he.2]
          exact own_mono (own_set8 ho3 (by omega) _ _ _ _ _ _ _ _) (by omega)
end Go.Proofs.YtkenbppoldfecaaDoor
