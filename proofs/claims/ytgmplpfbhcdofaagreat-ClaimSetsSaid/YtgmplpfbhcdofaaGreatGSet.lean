/- Proved here: Meet and Less of package claim, of numbers, and plain words on them: what is in both, what is in one and not in the other, each in order and once. -/
import Derived.Test.YtgmplpfbhcdofaaGreatKWakes
import Derived.Test.YtgmplpfbhcdofaaGreatShelf4
import Derived.Laws.EntriesVeiled
namespace Go.Proofs.YtgmplpfbhcdofaaGreat
open Go.RowKit Go.Shelf Go.Lib
open Go.Sort hiding Below
attribute [local go_sem] Oper.semAt_some

theorem uniI_mem (l : List Int) (x : Int) : x ∈ uniI l ↔ x ∈ l := setOf_mem ordI l x
theorem uniI_up (l : List Int) : UpS leI (uniI l) := setOf_up ordI l
theorem uniI_le (l : List Int) : (uniI l).Pairwise (· ≤ ·) := (uniI_up l).imp (fun {a b} h => by simpa [leI] using h.1)
theorem uniI_len (l : List Int) : (uniI l).length ≤ l.length := setOf_len ordI l
/-- It is in the set. -/
def hasI (l : List Int) (x : Int) : Bool := l.contains x
theorem hasI_iff (l : List Int) (x : Int) : hasI l x = true ↔ x ∈ l := by unfold hasI; simp
def meetI (a b : List Int) : List Int := (uniI a).filter fun x => hasI (uniI b) x
def lessI (a b : List Int) : List Int := (uniI a).filter fun x => !hasI (uniI b) x

/-! ### A store into one row leaves the others -/
theorem heap_sw {α : Type} [Inhabited α] (enc : α → Value) (w : World) (blk n : Nat) (d : Array α) (os : Array Obj) {k : Nat} (hk : k < w.heap.size) (hne : k ≠ blk) : (sortWorld enc w blk 0 n d os).heap[k]? = w.heap[k]? := by
  unfold sortWorld
  rw [heap_grow_old _ _ (by simp [putRow, mapBlock, Sort.ahead]; omega)]
  have : blk ≠ k := fun e => hne e.symm
  simp [putRow, mapBlock, Sort.ahead, Array.getElem?_modify, this]
theorem Rd.sw {α : Type} [Inhabited α] (enc : α → Value) {w : World} {blk n : Nat} {d : Array α} {os : Array Obj} {v : Value} {xs : List Value} (h : Rd w v xs) (hlt : ∀ g, inBlk v g → g < w.heap.size) (hne : ∀ g, inBlk v g → g ≠ blk) : Rd (sortWorld enc w blk 0 n d os) v xs :=
  h.kept (fun g hg => heap_sw enc w blk n d os (hlt g hg) (hne g hg))

/-! ### within's closure -/
/-- Where a set lies that is asked. -/
structure SetAt (W : World) (g : Nat) (R : List Int) : Prop where
  ex : ∃ vr, W.cell? ⟨g, 0, none⟩ = some vr ∧ Rd W vr (intsV R)
theorem getD_of {R : List Int} {j : Nat} (h : j < R.length) : R.getD j 0 = R[j] := by simp [h]
set_option maxRecDepth 100000 in
set_option maxHeartbeats 2000000 in
theorem in_any (R : List Int) (g : Nat) (x : Int) (W : World) (h : SetAt W g R) (hs : R.Pairwise (· ≤ ·)) (hl : R.length ≤ 1000000) :
    FnGives Tryz.prog 73 #[.pointer (some ⟨g, 0, none⟩)] #[.int .i64 x] (.bool (hasI R x)) W := by
  show Calls Tryz.prog 73 #[.int .i64 x, .pointer (some ⟨g, 0, none⟩)] W _
  obtain ⟨vr, c0, hr⟩ := h.ex
  have HC : Hid (Calls Tryz.prog 74 #[vr, .int .i64 x] W fun e w' => ∃ k, e = .returned (.tuple #[.int .i64 k, .bool (hasI R x)]) ∧ ∃ q, w' = W.drewN q) := Lib.hid (by
    obtain ⟨a, c, rfl, hc⟩ := hr.open'
    rw [intsV_len] at hc ⊢
    rcases Nat.eq_zero_or_pos R.length with h0 | h0
    · have e0 : R = [] := List.eq_nil_of_length_eq_zero h0
      subst e0
      refine (Tryz.slices_BinarySearch_int_empty a c x W).mono ?_
      rintro e w' ⟨rfl, rfl⟩
      exact ⟨0, by simp [hasI], 0, rfl⟩
    · obtain ⟨b, o, rfl, hcc⟩ := hc h0
      refine (Tryz.slices_BinarySearch_int b o R.length c R x W (Nat.le_refl _) (by omega) (fun j hj => ?_) (by rw [List.take_length]; exact hs)).mono ?_
      · exact hcc j _ (by unfold intsV; rw [List.getElem?_map, List.getElem?_eq_getElem hj, getD_of hj]; rfl)
      · rintro e w' ⟨rfl, q, rfl⟩
        exact ⟨_, by rw [List.take_length]; rfl, q, rfl⟩)
  obtain ⟨a, c, rfl, _⟩ := hr.open'
  clear hr h
  go_enter Tryz.func73, Tryz.ntmps73
  go_wp2_with (go_at_call 74; refine HC.out.mono ?_; rintro e w' ⟨k, rfl, q, rfl⟩; have q0 : (W.drewN q).cell? ⟨g, 0, none⟩ = some (.slice a (intsV R).length c) := c0)
  go_ret
  exact ⟨rfl, _, rfl⟩
/-- Meet's closure: not in the set. -/
structure NotAt (W : World) (g2 g : Nat) (R : List Int) : Prop where
  c : W.cell? ⟨g2, 0, none⟩ = some (.func (.func 73) #[] #[.pointer (some ⟨g, 0, none⟩)])
  s : SetAt W g R
set_option maxRecDepth 100000 in
set_option maxHeartbeats 2000000 in
theorem notin_any (R : List Int) (g2 g : Nat) (x : Int) (W : World) (h : NotAt W g2 g R) (hs : R.Pairwise (· ≤ ·)) (hl : R.length ≤ 1000000) :
    FnGives Tryz.prog 49 #[.pointer (some ⟨g2, 0, none⟩)] #[.int .i64 x] (.bool (!hasI R x)) W := by
  show Calls Tryz.prog 49 #[.int .i64 x, .pointer (some ⟨g2, 0, none⟩)] W _
  have c0 := h.c
  have HC := Lib.hid (in_any R g x W h.s hs hl)
  clear h
  go_enter Tryz.func49, Tryz.ntmps49
  go_wp2_with (go_at_call 73; refine HC.out.mono ?_; rintro e w' ⟨rfl, q, rfl⟩)
  go_ret
  exact ⟨rfl, _, rfl⟩

theorem rd_val {w : World} {g : Nat} {t : TypeId} {x : Value} (h : Box w g t #[x]) : Rd w (.slice (some ⟨g, 0, none⟩) 1 1) [x] :=
  ⟨_, _, rfl, Nat.le_refl _, by unfold maxLen; decide, (by simp), fun _ => ⟨g, 0, rfl, h.lt, fun j u hu => by rw [Nat.zero_add]; exact h.cell (by simpa using hu)⟩⟩
theorem rdr_one {w : World} {v : Value} {b : List Int} (h : Rd w v (intsV b)) : RdR (w.alloc (.cells #[v] 22)) (.slice (some ⟨w.heap.size, 0, none⟩) 1 1) ([b].map intsV) := by
  refine ⟨[v], rd_val (t := 22) box_new, rfl, fun i x r hx hr => ?_⟩
  match i, hx, hr with
  | 0, hx, hr =>
    simp at hx hr
    subst hx hr
    exact h.on (below_new _ _)
theorem flat_one (b : List Int) : [b].flatten = b := by simp
/-- A set that is asked, in memory of its own. -/
structure SetIn (W : World) (B g : Nat) (vr : Value) (R : List Int) : Prop where
  c : W.cell? ⟨g, 0, none⟩ = some vr
  lo : B ≤ g
  lt : g < W.heap.size
  far : ∀ h, vr.ownBlock = some h → h ≠ g
  own : W.ownsRow B 3 1 vr R.length (intsV R)
theorem SetIn.at_ {W : World} {B g : Nat} {vr : Value} {R : List Int} (h : SetIn W B g vr R) : SetAt W g R := ⟨vr, h.c, Rd.of_own h.own⟩
theorem SetIn.on {W W' : World} {B g : Nat} {vr : Value} {R : List Int} (h : SetIn W B g vr R) (hb : Below W.heap.size W W') : SetIn W' B g vr R :=
  ⟨(hb.cell (p := ⟨g, 0, none⟩) h.lt).trans h.c, h.lo, Nat.lt_of_lt_of_le h.lt hb.size, h.far, own_on h.own hb⟩
set_option maxRecDepth 100000 in
set_option maxHeartbeats 2000000 in
theorem within_any (b : List Int) (v : Value) (w : World) (hv : Rd w v (intsV b)) (hl : b.length ≤ 1000000) :
    Calls Tryz.prog 47 #[v] w fun e w' => ∃ g vr, e = .returned (.func (.func 73) #[] #[.pointer (some ⟨g, 0, none⟩)]) ∧ SetIn w' w.heap.size g vr (uniI b) ∧ Below w.heap.size w w' := by
  have HU := Lib.hid (union_any [b] _ _ (rdr_one hv) (by rw [flat_one]; exact hl))
  rw [flat_one] at HU
  obtain ⟨a, c, rfl, _⟩ := hv.open'
  rw [intsV_len] at HU ⊢
  obtain ⟨n, hn⟩ : ∃ n, n = b.length := ⟨_, rfl⟩
  rw [← hn] at HU ⊢
  clear hv hl hn
  go_enter Tryz.func47, Tryz.ntmps47
  go_upto_region 2 with (go_at_call 20; refine HU.out.mono ?_; rintro e w1 ⟨v1, rfl, ho, hb⟩; have HO := Lib.hid ho; have HB1 := Lib.hid hb; obtain ⟨a1, c1, rfl⟩ := own_slice ho; clear ho hb)
  obtain ⟨R, hR⟩ : ∃ R, R = uniI b := ⟨_, rfl⟩
  rw [← hR] at HO ⊢
  have HR := Lib.hid hR
  clear hR
  have hsz : w.heap.size ≤ w1.heap.size := Nat.le_trans (below_new w (.cells #[.slice a n c] 22)).size HB1.out.size
  have HBF : Hid (Below w.heap.size w (w1.alloc (.cells #[.slice a1 R.length c1] 22))) := Lib.hid (bch (bch (below_new _ _) HB1.out) (below_new _ _))
  have HS : Hid (SetIn (w1.alloc (.cells #[.slice a1 R.length c1] 22)) w.heap.size w1.heap.size (.slice a1 R.length c1) R) := Lib.hid (by
    have hX : Box (w1.alloc (.cells #[.slice a1 R.length c1] 22)) w1.heap.size 22 #[.slice a1 R.length c1] := box_new
    exact ⟨hX.cell (k := 0) rfl, hsz, hX.lt, fun h e => Nat.ne_of_lt (HO.out.lt h e).2, own_low (own_on HO.out (below_new _ _)) (below_new w (.cells #[.slice a n c] 22)).size⟩)
  go_wp2_with fail
  go_ret
  exact ⟨_, _, rfl, by rw [← HR.out]; exact HS.out, HBF.out⟩

/-! ### DeleteFunc -/
theorem delete_nil (c : Nat) (fv : Value) (w : World) : Calls Tryz.prog 48 #[.slice none 0 c, fv] w fun e w' => e = .returned (.slice none 0 c) ∧ w' = w := by
  have HE := Lib.hid (AnyE.slices_IndexFunc_empty (P := Tryz.prog) (ρ := Tryz.laysH10_ren) { Tryz.laysH10 with } none c fv w)
  go_enter Tryz.func48, Tryz.ntmps48
  go_wp2_with (go_at_call 75; refine HE.out.mono ?_; rintro e w' ⟨rfl, rfl⟩)
  go_ret
  exact ⟨rfl, rfl⟩
theorem delete_any (l : List Int) (p : Int → Bool) (v : Value) (w : World) (B g : Nat) (lb : Array Value) (ho : w.ownsRow B 3 1 v l.length (intsV l)) (hl : l.length ≤ 1000000) (hB : B ≤ w.heap.size)
    (eg : ∀ args w, (callFunc g args).run Tryz.prog w = .ok (.enter g args) w) (hp : PredAt Tryz.prog g lb (Value.int .i64) p w) (hpo : ∀ blk, v.ownBlock = some blk → PredOver Tryz.prog g lb (Value.int .i64) p blk 0 l.length w) :
    Calls Tryz.prog 48 #[v, .func (.func g) #[] lb] w fun e w' => ∃ v', e = .returned v' ∧ w'.ownsRow B 3 1 v' (l.filter fun x => !p x).length (intsV (l.filter fun x => !p x)) ∧ Below B w w' := by
  obtain ⟨a, c, rfl⟩ := own_slice ho
  rcases own_addr ho with ⟨rfl, h0, rfl⟩ | ⟨b, rfl, hg1, hg2⟩
  · have e0 : l = [] := List.eq_nil_of_length_eq_zero h0
    subst e0
    refine (delete_nil 0 _ w).mono ?_
    rintro e w' ⟨rfl, rfl⟩
    exact ⟨_, rfl, World.ownsRow_nil _ _ _ _, Below.refl _ _⟩
  · have hc : l.length ≤ c := by
      rcases ho.2 with ⟨h, _⟩ | ⟨g', c', cur, h, _, _, h3, _⟩
      · cases h
      · cases h; exact h3
    have hd := AnyE.slices_DeleteFunc Tryz.laysH10 (Value.int .i64) (fun _ => rfl) p g lb eg 0 Tryz.zeroValue3 b 0 c l.toArray w hp (by simpa using hpo b rfl) (own_holds (enc := Value.int .i64) (d := l.toArray) (n := l.length) (by simp) ho) (by simp; omega) (by simpa using hc)
    simp only [List.size_toArray] at hd
    refine hd.mono ?_
    rintro e w' ⟨rfl, q, rfl⟩
    have hle : (l.filter fun x => !p x).length ≤ l.length := List.length_filter_le _ _
    have h1 := own_put (enc := Value.int .i64) (m := q) (os := #[]) ((l.filter fun x => !p x) ++ List.replicate (l.length - (l.filter fun x => !p x).length) 0).toArray (by simp; omega) ho
    rw [grow_empty] at h1
    have h2 := own_cut h1 hle
    have h3 := below_put (enc := Value.int .i64) (m := q) (os := #[]) ((l.filter fun x => !p x) ++ List.replicate (l.length - (l.filter fun x => !p x).length) 0).toArray hg1 hB
    rw [grow_empty] at h3
    refine ⟨_, rfl, ?_, h3⟩
    simpa [intsV] using h2

/-! ### Less and Meet -/
theorem cell_sw {w : World} {blk n : Nat} {d : Array Int} {os : Array Obj} {g : Nat} {v : Value} (hlt : g < w.heap.size) (hne : g ≠ blk) (h : w.cell? ⟨g, 0, none⟩ = some v) : (sortWorld (Value.int .i64) w blk 0 n d os).cell? ⟨g, 0, none⟩ = some v := by
  unfold sortWorld
  rw [cell?_grow _ _ _ (by show g < (putRow _ _ _ _ _).heap.size; rw [size_putRow]; exact hlt), cell?_putRow_other _ _ blk 0 _ _ (Or.inl hne)]
  exact h
theorem own_blk1 {w : World} {B n : Nat} {e : TypeId} {v : Value} {xs : List Value} (h : w.ownsRow B e 1 v n xs) {g : Nat} (hg : inBlk v g) : v.ownBlock = some g := by
  rcases h.2 with ⟨rfl, _⟩ | ⟨g', c, cur, rfl, _⟩
  · obtain ⟨o, p, n', c', e⟩ := hg
    cases e
  · obtain ⟨o, p, n', c', e⟩ := hg
    cases e
    rfl
theorem SetIn.sw {W : World} {B g : Nat} {vr : Value} {R : List Int} (h : SetIn W B g vr R) {blk n : Nat} {d : Array Int} {os : Array Obj} (hg : g ≠ blk) (hr : ∀ r, vr.ownBlock = some r → r ≠ blk) : SetAt (sortWorld (Value.int .i64) W blk 0 n d os) g R :=
  ⟨vr, cell_sw h.lt hg h.c, (Rd.of_own h.own).sw (Value.int .i64) (fun r hr' => (h.own.lt r (own_blk1 h.own hr')).2) (fun r hr' => hr r (own_blk1 h.own hr'))⟩
theorem e73 : ∀ args w, (callFunc 73 args).run Tryz.prog w = .ok (.enter 73 args) w := enters_of Tryz.func73 (by kernel_rfl) rfl
theorem e49 : ∀ args w, (callFunc 49 args).run Tryz.prog w = .ok (.enter 49 args) w := enters_of Tryz.func49 (by kernel_rfl) rfl
def OwnI (w : World) (B : Nat) (e : Ending) (w' : World) (r : List Int) : Prop := ∃ v, e = .returned v ∧ w'.ownsRow B 3 1 v r.length (intsV r) ∧ Below B w w'
/-- Less's last call. -/
theorem less_del (A R : List Int) (v vr : Value) (w : World) (B C g : Nat) (hs : R.Pairwise (· ≤ ·)) (hR : R.length ≤ 1000000) (ho : w.ownsRow B 3 1 v A.length (intsV A)) (hl : A.length ≤ 1000000) (hB : B ≤ w.heap.size) (hS : SetIn w C g vr R)
    (hA : ∀ k, v.ownBlock = some k → k < C) : Calls Tryz.prog 48 #[v, .func (.func 73) #[] #[.pointer (some ⟨g, 0, none⟩)]] w fun e w' => OwnI w B e w' (A.filter fun x => !hasI R x) :=
  delete_any A (hasI R) v w B 73 _ ho hl hB e73 (fun W x hb => in_any R g x W (hS.on hb).at_ hs hR)
    (fun blk hk n os dk x _ => in_any R g x _ (hS.sw (by have := hA blk hk; have := hS.lo; omega) (fun r hr => by have := hA blk hk; have := (hS.own.lt r hr).1; omega)) hs hR)
/-- Meet's last call. -/
theorem meet_del (A R : List Int) (v vr : Value) (w : World) (B C g g2 : Nat) (hs : R.Pairwise (· ≤ ·)) (hR : R.length ≤ 1000000) (ho : w.ownsRow B 3 1 v A.length (intsV A)) (hl : A.length ≤ 1000000) (hB : B ≤ w.heap.size) (hS : SetIn w C g vr R)
    (hc : w.cell? ⟨g2, 0, none⟩ = some (.func (.func 73) #[] #[.pointer (some ⟨g, 0, none⟩)])) (hgB : g < B) (hg2 : g2 < B) (hvr : ∀ r, vr.ownBlock = some r → r < B) :
    Calls Tryz.prog 48 #[v, .func (.func 49) #[] #[.pointer (some ⟨g2, 0, none⟩)]] w fun e w' => OwnI w B e w' (A.filter fun x => hasI R x) := by
  have h := delete_any A (fun x => !hasI R x) v w B 49 #[.pointer (some ⟨g2, 0, none⟩)] ho hl hB e49
    (fun W x hb => notin_any R g2 g x W ⟨(hb.cell (p := ⟨g2, 0, none⟩) (by show g2 < w.heap.size; omega)).trans hc, (hS.on hb).at_⟩ hs hR)
    (fun blk hk n os dk x _ => by
      have hb := (ho.lt blk hk).1
      exact notin_any R g2 g x _ ⟨cell_sw (by omega) (by omega) hc, hS.sw (by omega) (fun r hr => by have := hvr r hr; omega)⟩ hs hR)
  refine h.mono ?_
  rintro e w' ⟨v', h1, h2, h3⟩
  have e2 : (A.filter fun x => !(fun x => !hasI R x) x) = A.filter fun x => hasI R x := by
    congr 1
    funext x
    simp
  rw [e2] at h2
  exact ⟨v', h1, h2, h3⟩
set_option maxRecDepth 100000 in
set_option maxHeartbeats 2000000 in
theorem less_any (a b : List Int) (v1 v2 : Value) (w : World) (h1 : Rd w v1 (intsV a)) (h2 : Rd w v2 (intsV b)) (ha : a.length ≤ 1000000) (hb : b.length ≤ 1000000) :
    Calls Tryz.prog 22 #[v1, v2] w fun e w' => OwnI w w.heap.size e w' (lessI a b) := by
  have HU := Lib.hid (union_any [a] _ _ (rdr_one h1) (by rw [flat_one]; exact ha))
  rw [flat_one] at HU
  have H2 := Lib.hid h2
  have HLB := Lib.hid hb
  have HLA : Hid ((uniI a).length ≤ 1000000) := Lib.hid (by have := uniI_len a; omega)
  have HLR : Hid ((uniI b).length ≤ 1000000) := Lib.hid (by have := uniI_len b; omega)
  obtain ⟨a1, c1, rfl, _⟩ := h1.open'
  obtain ⟨a2, c2, rfl, _⟩ := h2.open'
  rw [intsV_len] at HU H2 ⊢
  rw [intsV_len] at ⊢
  obtain ⟨n1, hn1⟩ : ∃ n, n = a.length := ⟨_, rfl⟩
  obtain ⟨n2, hn2⟩ : ∃ n, n = b.length := ⟨_, rfl⟩
  rw [← hn1] at HU ⊢
  rw [← hn2] at H2 ⊢
  have HRES : Hid (lessI a b = (uniI a).filter fun x => !hasI (uniI b) x) := Lib.hid rfl
  have HPW := Lib.hid (uniI_le b)
  obtain ⟨A, hA⟩ : ∃ A, A = uniI a := ⟨_, rfl⟩
  rw [← hA] at HU HLA HRES
  have HW := Lib.hid (fun W (hW : Rd W (.slice a2 n2 c2) (intsV b)) => within_any b _ W hW HLB.out)
  obtain ⟨R, hR⟩ : ∃ R, R = uniI b := ⟨_, rfl⟩
  rw [← hR] at HLR HRES HPW HW
  have hb0 := below_new w (.cells #[.slice a1 n1 c1] 22)
  have HB0 := Lib.hid hb0
  clear h1 h2 hn1 hn2 hA hR ha hb hb0
  go_enter Tryz.func22, Tryz.ntmps22
  go_wp2_with (first
    | (go_at_call 20; refine HU.out.mono ?_; rintro e w1 ⟨v1, rfl, ho, hb⟩; have HO := Lib.hid ho; have HB1 := Lib.hid (bch HB0.out hb); have HBS1 := Lib.hid (Nat.le_trans HB0.out.size hb.size); have HBZ := Lib.hid hb.size; obtain ⟨a3, c3, rfl⟩ := own_slice ho; clear ho hb)
    | (go_at_call 47; refine (HW.out w1 (H2.out.on HB1.out)).mono ?_; rintro e w2 ⟨g, vr, rfl, hS, hb⟩; have HS := Lib.hid hS; have HB2 := Lib.hid hb; clear hS hb)
    | (go_at_call 48; refine (less_del A R _ vr w2 _ _ g HPW.out HLR.out (own_on HO.out HB2.out) HLA.out (Nat.le_trans HBZ.out HB2.out.size) HS.out (fun k hk => (HO.out.lt k hk).2)).mono ?_; rintro e w3 ⟨v3, rfl, ho, hb⟩; have HO3 := Lib.hid (own_low ho HB0.out.size); have HB3 : Hid (Below w.heap.size w w3) := Lib.hid ((bch HB1.out HB2.out).trans (hb.mono HB0.out.size)); obtain ⟨a4, c4, rfl⟩ := own_slice ho; clear ho hb))
  go_ret
  exact ⟨_, rfl, by rw [HRES.out]; exact HO3.out, HB3.out⟩
set_option maxRecDepth 100000 in
set_option maxHeartbeats 2000000 in
theorem meet_any (a b : List Int) (v1 v2 : Value) (w : World) (h1 : Rd w v1 (intsV a)) (h2 : Rd w v2 (intsV b)) (ha : a.length ≤ 1000000) (hb : b.length ≤ 1000000) :
    Calls Tryz.prog 21 #[v1, v2] w fun e w' => OwnI w w.heap.size e w' (meetI a b) := by
  have HU := Lib.hid (fun W (hW : Rd W v1 (intsV a)) => union_any [a] _ _ (rdr_one hW) (by rw [flat_one]; exact ha))
  rw [flat_one] at HU
  have H1 := Lib.hid h1
  have HLA : Hid ((uniI a).length ≤ 1000000) := Lib.hid (by have := uniI_len a; omega)
  have HLR : Hid ((uniI b).length ≤ 1000000) := Lib.hid (by have := uniI_len b; omega)
  have HW := Lib.hid (within_any b _ w h2 hb)
  obtain ⟨a1, c1, rfl, _⟩ := h1.open'
  obtain ⟨a2, c2, rfl, _⟩ := h2.open'
  rw [intsV_len] at HU H1 HW ⊢
  rw [intsV_len] at ⊢
  have HRES : Hid (meetI a b = (uniI a).filter fun x => hasI (uniI b) x) := Lib.hid rfl
  have HPW := Lib.hid (uniI_le b)
  obtain ⟨A, hA⟩ : ∃ A, A = uniI a := ⟨_, rfl⟩
  rw [← hA] at HU HLA HRES
  obtain ⟨R, hR⟩ : ∃ R, R = uniI b := ⟨_, rfl⟩
  rw [← hR] at HLR HRES HPW HW
  obtain ⟨n1, hn1⟩ : ∃ n, n = a.length := ⟨_, rfl⟩
  obtain ⟨n2, hn2⟩ : ∃ n, n = b.length := ⟨_, rfl⟩
  rw [← hn1] at HU H1 ⊢
  rw [← hn2] at HW ⊢
  clear h1 h2 hn1 hn2 hA hR ha hb
  go_enter Tryz.func21, Tryz.ntmps21
  go_upto_region 2 with (go_at_call 47; refine HW.out.mono ?_; rintro e w1 ⟨g, vr, rfl, hS, hb⟩; have HS := Lib.hid hS; have HB1 := Lib.hid hb; clear hS hb)
  obtain ⟨w2, hw2⟩ : ∃ z, z = w1.alloc (.cells #[.func (.func 73) #[] #[.pointer (some ⟨g, 0, none⟩)]] 74) := ⟨_, rfl⟩
  have hX2 : Box w2 w1.heap.size 74 #[.func (.func 73) #[] #[.pointer (some ⟨g, 0, none⟩)]] := by rw [hw2]; exact box_new
  have hb2 : Below w1.heap.size w1 w2 := by rw [hw2]; exact below_new _ _
  obtain ⟨w3, hw3⟩ : ∃ z, z = w2.alloc (.cells #[.slice a1 n1 c1] 22) := ⟨_, rfl⟩
  have hb3 : Below w2.heap.size w2 w3 := by rw [hw3]; exact below_new _ _
  have HU2 := Lib.hid (HU.out w2 (H1.out.on (bch HB1.out hb2)))
  rw [← hw3] at HU2
  have HS3 := Lib.hid ((HS.out.on hb2).on hb3)
  have HC3 : Hid (w3.cell? ⟨w1.heap.size, 0, none⟩ = some (.func (.func 73) #[] #[.pointer (some ⟨g, 0, none⟩)])) := Lib.hid ((hX2.on hb3).cell (k := 0) rfl)
  have HLT : Hid (w1.heap.size < w3.heap.size ∧ g < w3.heap.size ∧ w.heap.size ≤ w3.heap.size ∧ ∀ r, vr.ownBlock = some r → r < w3.heap.size) := Lib.hid ⟨Nat.lt_of_lt_of_le hX2.lt hb3.size, HS3.out.lt, Nat.le_trans HB1.out.size (Nat.le_trans hb2.size hb3.size), fun r hr => (HS3.out.own.lt r hr).2⟩
  have HB3 : Hid (Below w.heap.size w w3) := Lib.hid (bch (bch HB1.out hb2) hb3)
  obtain ⟨g2, hg2⟩ : ∃ z, z = w1.heap.size := ⟨_, rfl⟩
  rw [← hw2]
  rw [← hg2] at HC3 HLT ⊢
  have HW3 := Lib.hid hw3
  clear hw2 hX2 hb2 hb3 hg2 HU HW HS hw3
  go_wp2_with (first
    | (go_at_call 20; rw [← HW3.out]; refine HU2.out.mono ?_; rintro e w4 ⟨v4, rfl, ho, hb⟩; have HO := Lib.hid ho; have HB4 := Lib.hid hb; obtain ⟨a3, c3, rfl⟩ := own_slice ho; clear ho hb)
    | (go_at_call 48; refine (meet_del A R _ vr w4 _ _ g g2 HPW.out HLR.out HO.out HLA.out HB4.out.size (HS3.out.on HB4.out) ((HB4.out.cell (p := ⟨g2, 0, none⟩) HLT.out.1).trans HC3.out) HLT.out.2.1 HLT.out.1 HLT.out.2.2.2).mono ?_; rintro e w5 ⟨v5, rfl, ho, hb⟩; have HO5 := Lib.hid (own_low ho HLT.out.2.2.1); have HB5 : Hid (Below w.heap.size w w5) := Lib.hid ((bch HB3.out HB4.out).trans (hb.mono HLT.out.2.2.1)); obtain ⟨a4, c4, rfl⟩ := own_slice ho; clear ho hb))
  go_ret
  exact ⟨_, rfl, by rw [HRES.out]; exact HO5.out, HB5.out⟩

/-! ### Plain words -/
theorem upS_filter (l : List Int) (p : Int → Bool) : UpS leI ((uniI l).filter p) := List.Pairwise.sublist List.filter_sublist (uniI_up l)
theorem meetI_up (a b : List Int) : UpS leI (meetI a b) := upS_filter a _
theorem lessI_up (a b : List Int) : UpS leI (lessI a b) := upS_filter a _
theorem meetI_mem (a b : List Int) (x : Int) : x ∈ meetI a b ↔ x ∈ a ∧ x ∈ b := by
  unfold meetI
  rw [List.mem_filter, uniI_mem, hasI_iff, uniI_mem]
theorem lessI_mem (a b : List Int) (x : Int) : x ∈ lessI a b ↔ x ∈ a ∧ x ∉ b := by
  unfold lessI
  rw [List.mem_filter, uniI_mem, Bool.not_eq_true', ← Bool.not_eq_true, hasI_iff, uniI_mem]
theorem up_one {a b : List Int} (ha : UpS leI a) (hb : UpS leI b) (hm : ∀ x, x ∈ a ↔ x ∈ b) : a = b := UpS.one ordI ha hb hm
theorem nil_of {a : List Int} (h : ∀ x, x ∉ a) : a = [] := List.eq_nil_iff_forall_not_mem.2 h
theorem parts_all (a b : List Int) : uniI [lessI a b, meetI a b, lessI b a].flatten = uniI [a, b].flatten := by
  refine up_one (uniI_up _) (uniI_up _) (fun x => ?_)
  rw [uniI_mem, uniI_mem]
  simp only [List.flatten_cons, List.flatten_nil, List.append_nil, List.mem_append, lessI_mem, meetI_mem]
  by_cases h1 : x ∈ a <;> by_cases h2 : x ∈ b <;> simp [h1, h2]
theorem flt_len (l : List Int) (p : Int → Bool) : (l.filter p).length + (l.filter fun x => !p x).length = l.length := by
  induction l with
  | nil => rfl
  | cons x l ih =>
    cases h : p x <;> simp [h] <;> omega
theorem parts_len (a b : List Int) : (lessI a b).length + (meetI a b).length + (lessI b a).length = (uniI [a, b].flatten).length := by
  have h1 := flt_len (uniI a) (fun x => hasI (uniI b) x)
  have h2 := flt_len (uniI [a, b].flatten) (fun x => hasI (uniI a) x)
  have e1 : (uniI [a, b].flatten).filter (fun x => hasI (uniI a) x) = uniI a := by
    refine up_one (upS_filter _ _) (uniI_up _) (fun x => ?_)
    rw [List.mem_filter, uniI_mem, hasI_iff, uniI_mem]
    simp only [List.flatten_cons, List.flatten_nil, List.append_nil, List.mem_append]
    by_cases h1 : x ∈ a <;> simp [h1]
  have e2 : (uniI [a, b].flatten).filter (fun x => !hasI (uniI a) x) = lessI b a := by
    refine up_one (upS_filter _ _) (lessI_up _ _) (fun x => ?_)
    rw [List.mem_filter, uniI_mem, lessI_mem, Bool.not_eq_true', ← Bool.not_eq_true, hasI_iff, uniI_mem]
    simp only [List.flatten_cons, List.flatten_nil, List.append_nil, List.mem_append]
    by_cases h1 : x ∈ a <;> by_cases h2 : x ∈ b <;> simp [h1, h2]
  rw [e1, e2] at h2
  unfold lessI meetI at *
  omega
theorem parts_no1 (a b : List Int) : meetI (lessI a b) b = [] := nil_of (fun x h => by
  rw [meetI_mem, lessI_mem] at h
  exact h.1.2 h.2)
theorem parts_no2 (a b : List Int) : meetI (lessI a b) (lessI b a) = [] := nil_of (fun x h => by
  rw [meetI_mem, lessI_mem, lessI_mem] at h
  exact h.1.2 h.2.1)
theorem meet_over (a b c : List Int) : meetI a (uniI [b, c].flatten) = uniI [meetI a b, meetI a c].flatten := by
  refine up_one (meetI_up _ _) (uniI_up _) (fun x => ?_)
  rw [meetI_mem, uniI_mem, uniI_mem]
  simp only [List.flatten_cons, List.flatten_nil, List.append_nil, List.mem_append, meetI_mem]
  by_cases h1 : x ∈ a <;> by_cases h2 : x ∈ b <;> by_cases h3 : x ∈ c <;> simp [h1, h2, h3]
theorem less_over (a b c : List Int) : lessI a (uniI [b, c].flatten) = lessI (lessI a b) c := by
  refine up_one (lessI_up _ _) (lessI_up _ _) (fun x => ?_)
  rw [lessI_mem, uniI_mem, lessI_mem, lessI_mem]
  simp only [List.flatten_cons, List.flatten_nil, List.append_nil, List.mem_append]
  by_cases h1 : x ∈ a <;> by_cases h2 : x ∈ b <;> by_cases h3 : x ∈ c <;> simp [h1, h2, h3]
theorem up_lt {l : List Int} (h : UpS leI l) {i j : Nat} (hij : i < j) (hj : j < l.length) : l[i]'(by omega) < l[j] := by
  have := List.pairwise_iff_getElem.1 h i j (by omega) hj hij
  have h1 : l[i]'(by omega) ≤ l[j] := by simpa [leI] using this.1
  have h2 := this.2
  omega
theorem meetI_len (a b : List Int) : (meetI a b).length ≤ a.length := Nat.le_trans (List.length_filter_le _ _) (uniI_len a)
theorem lessI_len (a b : List Int) : (lessI a b).length ≤ a.length := Nat.le_trans (List.length_filter_le _ _) (uniI_len a)

/-! ### Rows of rows -/
theorem rdr_pair {w : World} {v1 v2 : Value} {a b : List Int} (h1 : Rd w v1 (intsV a)) (h2 : Rd w v2 (intsV b)) : RdR (w.alloc (.cells #[v1, v2] 22)) (.slice (some ⟨w.heap.size, 0, none⟩) 2 2) ([a, b].map intsV) := by
  refine ⟨[v1, v2], rd_vals (t := 22) box_new, rfl, fun i x r hx hr => ?_⟩
  match i, hx, hr with
  | 0, hx, hr => simp at hx hr; subst hx hr; exact h1.on (below_new _ _)
  | 1, hx, hr => simp at hx hr; subst hx hr; exact h2.on (below_new _ _)
theorem rd_nvals {w : World} {g n : Nat} {t : TypeId} {xs : List Value} (h : Box w g t xs.toArray) (hn : n = xs.length) (hm : n ≤ 1000000) (hp : 0 < n) : Rd w (.slice (some ⟨g, 0, none⟩) n n) xs := by
  subst hn
  exact ⟨_, _, rfl, Nat.le_refl _, by unfold maxLen; omega, (by intro e; cases e), fun _ => ⟨g, 0, rfl, h.lt, fun j u hu => by rw [Nat.zero_add]; exact h.cell (by simpa using hu)⟩⟩
theorem rdr_three {w : World} {v1 v2 v3 : Value} {a b c : List Int} (h1 : Rd w v1 (intsV a)) (h2 : Rd w v2 (intsV b)) (h3 : Rd w v3 (intsV c)) : RdR (w.alloc (.cells #[v1, v2, v3] 22)) (.slice (some ⟨w.heap.size, 0, none⟩) 3 3) ([a, b, c].map intsV) := by
  refine ⟨[v1, v2, v3], rd_nvals (t := 22) (xs := [v1, v2, v3]) box_new rfl (by decide) (by decide), rfl, fun i x r hx hr => ?_⟩
  match i, hx, hr with
  | 0, hx, hr => simp at hx hr; subst hx hr; exact h1.on (below_new _ _)
  | 1, hx, hr => simp at hx hr; subst hx hr; exact h2.on (below_new _ _)
  | 2, hx, hr => simp at hx hr; subst hx hr; exact h3.on (below_new _ _)
theorem rdr_four {w : World} {v1 v2 v3 v4 : Value} {a b c d : List Int} (h1 : Rd w v1 (intsV a)) (h2 : Rd w v2 (intsV b)) (h3 : Rd w v3 (intsV c)) (h4 : Rd w v4 (intsV d)) : RdR (w.alloc (.cells #[v1, v2, v3, v4] 22)) (.slice (some ⟨w.heap.size, 0, none⟩) 4 4) ([a, b, c, d].map intsV) := by
  refine ⟨[v1, v2, v3, v4], rd_nvals (t := 22) (xs := [v1, v2, v3, v4]) box_new rfl (by decide) (by decide), rfl, fun i x r hx hr => ?_⟩
  match i, hx, hr with
  | 0, hx, hr => simp at hx hr; subst hx hr; exact h1.on (below_new _ _)
  | 1, hx, hr => simp at hx hr; subst hx hr; exact h2.on (below_new _ _)
  | 2, hx, hr => simp at hx hr; subst hx hr; exact h3.on (below_new _ _)
  | 3, hx, hr => simp at hx hr; subst hx hr; exact h4.on (below_new _ _)
theorem Rd.cut {w : World} {a : Option Addr} {n c m : Nat} {l : List Int} (h : Rd w (.slice a n c) (intsV l)) (hm : m ≤ n) : Rd w (.slice a m c) (intsV (l.take m)) := by
  obtain ⟨a', c', e, h1, h2, hn, h3⟩ := h
  cases e
  rw [intsV_len] at h1 h3 hm
  have el : (l.take m).length = m := by rw [List.length_take]; omega
  refine ⟨a, c, by rw [intsV_len, el], by rw [intsV_len, el]; omega, h2, fun e => ?_, fun h0 => ?_⟩
  · obtain ⟨e1, e2⟩ := hn e
    have : l = [] := by
      cases l with
      | nil => rfl
      | cons x t => simp [intsV] at e1
    rw [this]
    exact ⟨by simp [intsV], e2⟩
  · rw [intsV_len, el] at h0
    obtain ⟨g, o, e, hg, hc⟩ := h3 (by omega)
    refine ⟨g, o, e, hg, fun j u hu => hc j u ?_⟩
    have e3 : intsV (l.take m) = (intsV l).take m := by simp [intsV, List.map_take]
    rw [e3] at hu
    have hj := (List.getElem?_eq_some_iff.1 hu).1
    rw [List.length_take] at hj
    rwa [List.getElem?_take_of_lt (by omega)] at hu
theorem int_at3 {w : World} {a : Option Addr} {n c : Nat} {l : List Int} (h : Rd w (.slice a n c) (intsV l)) (j : Nat) (hj : j < l.length) : ∃ g o, a = some ⟨g, o, none⟩ ∧ w.cell? ⟨g, o + j, none⟩ = some (.int .i64 (l[j])) := by
  obtain ⟨a', cap, e, h1, h2, h3, h4⟩ := h
  cases e
  obtain ⟨g, o, e, hg, hc⟩ := h4 (by rw [intsV_len]; omega)
  exact ⟨g, o, e, hc j _ (by unfold intsV; rw [List.getElem?_map, List.getElem?_eq_getElem hj]; rfl)⟩
end Go.Proofs.YtgmplpfbhcdofaaGreat
