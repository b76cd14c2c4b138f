/- Proved here: put, take and full of package tree, on a growing tree: a row of items of its own in a box. -/
import Derived.Test.YtjbbnecegomkcaaGreatDoorOFind
import Derived.Test.YtjbbnecegomkcaaGreatDoorOIns3
import Derived.Test.YtjbbnecegomkcaaGreatDoorODel
import Derived.Deep.RegionHeld3
import Derived.Deep.RegionHeld
import Derived.Deep.DeepCutAuto
namespace Go.Proofs.YtjbbnecegomkcaaGreatDoor
open Go.RowKit Go.Shelf

/-- A growing tree in the box b: v is its own row of items. -/
structure Gr (w : World) (B b : Nat) (v : Value) (l : List It) : Prop where
  box : Box w b 82 #[v]
  own : OwnI w B v l
  ne : v.ownBlock ≠ some b
  low : B ≤ b
/-- What a step on the box b, whose row was v and is now v', leaves alone. -/
structure Nxt (b : Nat) (v v' : Value) (w w' : World) : Prop where
  os : w'.os = w.os
  tape : w'.tape = w.tape
  output : w'.output = w.output
  size : w.heap.size ≤ w'.heap.size
  block : ∀ x, x < w.heap.size → x ≠ b → v.ownBlock ≠ some x → w'.heap[x]? = w.heap[x]?
  row : v'.ownBlock = v.ownBlock ∨ ∀ k, v'.ownBlock = some k → w.heap.size ≤ k
theorem Nxt.trans {b : Nat} {v v' v'' : Value} {w w' w'' : World} (h : Nxt b v v' w w') (k : Nxt b v' v'' w' w'') : Nxt b v v'' w w'' := by
  refine ⟨k.os.trans h.os, k.tape.trans h.tape, k.output.trans h.output, Nat.le_trans h.size k.size, fun x hx hb hv => ?_, ?_⟩
  · refine (k.block x (Nat.lt_of_lt_of_le hx h.size) hb fun e => ?_).trans (h.block x hx hb hv)
    rcases h.row with r | r
    · exact hv (r ▸ e)
    · have := r x e; omega
  · rcases k.row with r | r
    · rcases h.row with q | q
      · exact .inl (r.trans q)
      · exact .inr fun x hx => q x (r ▸ hx)
    · exact .inr fun x hx => Nat.le_trans h.size (r x hx)
theorem Nxt.below {w w' : World} (h : Below w.heap.size w w') (b : Nat) (v : Value) : Nxt b v v w w' :=
  ⟨h.os, h.tape, h.output, h.size, fun x hx _ _ => h.block x hx, .inl rfl⟩
theorem OwnI.on {w w' : World} {B : Nat} {v : Value} {l : List It} (h : OwnI w B v l) (hb : Below w.heap.size w w') : OwnI w' B v l := by
  have hx := h
  obtain ⟨h1, hc⟩ := h
  rcases hc with ⟨rfl, h0⟩ | ⟨g, c, cur, rfl, hB, hg, hr⟩
  · exact ⟨h1, .inl ⟨rfl, h0⟩⟩
  · exact ⟨h1, .inr ⟨g, c, cur, rfl, hB, (hb.block g (hx.lt g rfl).2).trans hg, hr⟩⟩
theorem OwnI.far {w w' : World} {B : Nat} {v : Value} {l : List It} (h : OwnI w B v l) (hb : ∀ k, v.ownBlock = some k → w'.heap[k]? = w.heap[k]?) : OwnI w' B v l := by
  obtain ⟨h1, hc⟩ := h
  rcases hc with ⟨rfl, h0⟩ | ⟨g, c, cur, rfl, hB, hg, hr⟩
  · exact ⟨h1, .inl ⟨rfl, h0⟩⟩
  · exact ⟨h1, .inr ⟨g, c, cur, rfl, hB, (hb g rfl).trans hg, hr⟩⟩
theorem Gr.on {w w' : World} {B b : Nat} {v : Value} {l : List It} (h : Gr w B b v l) (hb : Below w.heap.size w w') : Gr w' B b v l := ⟨h.box.on hb, h.own.on hb, h.ne, h.low⟩
theorem Gr.drew {w : World} {B b : Nat} {v : Value} {l : List It} (h : Gr w B b v l) : Gr w.drew B b v l := ⟨h.box, h.own, h.ne, h.low⟩
theorem Gr.rd {w : World} {B b : Nat} {v : Value} {l : List It} (h : Gr w B b v l) : RdI w v l := h.own.rd
/-- A new row is laid into the box. -/
theorem Gr.store {w w2 : World} {B b : Nat} {v v' : Value} {l l' : List It} (hG : Gr w B b v l) (hR : OwnI w2 B v' l') (hg : w.grownBy w2 v.ownBlock) (hr : v'.ownBlock = v.ownBlock ∨ ∀ k, v'.ownBlock = some k → w.heap.size ≤ k) :
    Gr (w2.setCell ⟨b, 0, none⟩ v') B b v' l' ∧ Nxt b v v' w (w2.setCell ⟨b, 0, none⟩ v') := by
  have hX : Box w2 b 82 #[v] := hG.box.kept hg (fun e => hG.ne e.symm)
  have hne : v'.ownBlock ≠ some b := fun e => by
    rcases hr with r | r
    · exact hG.ne (r ▸ e)
    · have := r b e; have := hG.box.lt; omega
  refine ⟨⟨hX.set (k := 0) v', hR.far fun k hk => heap_setCell_other _ _ _ _ (fun e => hne (by rw [hk, e])), hne, hG.low⟩, ⟨hg.os, hg.tape, hg.output, by simpa using hg.size, fun x hx hb hv => ?_, hr⟩⟩
  exact (heap_setCell_other _ _ _ _ hb).trans (hg.block x hx (fun e => hv e.symm))
/-- The end of a step that answers nothing. -/
def DoneR (B b : Nat) (v : Value) (l' : List It) (w : World) (e : Ending) (w' : World) : Prop := ∃ v', e = .returned (.tuple #[]) ∧ Gr w' B b v' l' ∧ Nxt b v v' w w'

theorem own_slice {w : World} {B : Nat} {v : Value} {l : List It} (h : OwnI w B v l) : ∃ a c, v = .slice a l.length c ∧ l.length ≤ c ∧ c ≤ maxLen := by
  obtain ⟨a, c, e, h1, h2, _⟩ := h.rd.open
  exact ⟨a, c, e, h1, h2⟩
theorem own_any {w : World} {B : Nat} {v : Value} {l : List It} (h : OwnI w B v l) : ∃ a n c, v = .slice a n c := by
  obtain ⟨a, c, e, _⟩ := own_slice h
  exact ⟨a, _, c, e⟩
set_option maxRecDepth 100000 in
set_option maxHeartbeats 4000000 in
theorem take_any (B b : Nat) (v : Value) (l : List It) (p : Str) (k : Nat) (w : World) (hG : Gr w B b v l) (hs : Srt l) (hn2 : l.length ≤ 2000) (hx : ∀ x ∈ l, x.path.length ≤ 140737488355328) (hp : p.length ≤ 140737488355328) (h0 : 0 < k) (hk : idxL l p + k ≤ l.length) :
    Calls Tryz.prog 105 #[.pointer (some ⟨b, 0, none⟩), .string ⟨p.toArray⟩, .int .i64 k] w (DoneR B b v (takeL l p k) w) := by
  have HF := Lib.hid (tfind_gen l v p w hs hn2 hG.rd hx hp)
  rcases own_form hG.own with ⟨e, _⟩ | ⟨r, c, rfl, _, _, _, _⟩
  · subst e; simp at hk; omega
  obtain ⟨i, hi⟩ : ∃ i, i = idxL l p := ⟨_, rfl⟩
  obtain ⟨n, hn⟩ : ∃ n, n = l.length := ⟨_, rfl⟩
  have HT : Hid (takeL l p k = l.take i ++ l.drop (i + k)) := Lib.hid (by unfold takeL; rw [hi])
  rw [← hi] at HF hk
  rw [← hn] at HF hk hn2 hG ⊢
  have HG := Lib.hid hG
  have HN := Lib.hid hn
  have p0 : w.cell? ⟨b, 0, none⟩ = some (.slice (some ⟨r, 0, none⟩) n c) := hG.box.cell (k := 0) rfl
  have k1 : IntKind.i64.wrap ((i : Int) + (k : Int)) = (i : Int) + (k : Int) := IntWalk.i64_in _ (by omega)
  have HD : Hid (∀ w2, OwnI w2 B (.slice (some ⟨r, 0, none⟩) n c) l → Calls Tryz.prog 125 #[.slice (some ⟨r, 0, none⟩) n c, .int .i64 i, .int .i64 ((i : Int) + (k : Int))] w2 (InsR B (.slice (some ⟨r, 0, none⟩) n c) (l.take i ++ l.drop (i + k)) w2)) :=
    Lib.hid (fun w2 h => by rw [show (i : Int) + (k : Int) = ((i + k : Nat) : Int) by omega]; exact del_any l i (i + k) r n c B w2 h HN.out (by omega) hk (by rw [← HN.out]; omega))
  clear hG hs hx hi hn
  go_enter Tryz.func105, Tryz.ntmps105
  go_wp2_with fail
  refine HF.out.mono ?_
  rintro e w2 ⟨rfl, hb⟩
  have HG2 := Lib.hid (HG.out.on hb)
  have HB := Lib.hid hb
  have p2 : w2.cell? ⟨b, 0, none⟩ = some (.slice (some ⟨r, 0, none⟩) n c) := HG2.out.box.cell (k := 0) rfl
  clear hb p0 HF
  go_wp2_with fail
  refine (HD.out w2 HG2.out.own).mono ?_
  rintro e w3 ⟨v', rfl, hO, hg, hr⟩
  have HX3 : Hid (Box w3 b 82 #[.slice (some ⟨r, 0, none⟩) n c]) := Lib.hid (HG2.out.box.kept hg (fun e => HG2.out.ne e.symm))
  have HS := Lib.hid (HG2.out.store hO hg hr)
  have p3 : w3.cell? ⟨b, 0, none⟩ = some (.slice (some ⟨r, 0, none⟩) n c) := HX3.out.cell (k := 0) rfl
  have f3 := frozen_of_row w3 b 0 _ _ HX3.out
  obtain ⟨a', n', c', rfl⟩ := own_any hO
  clear hO hg hr p2
  go_wp2_with fail
  refine bodyPost_ret (results_none rfl _ _ _) rfl ?_
  exact ⟨_, rfl, by rw [HT.out]; exact HS.out.1, (Nxt.below HB.out b _).trans HS.out.2⟩

theorem own_one {w : World} {B : Nat} {v : Value} {l : List It} (h : OwnI w B v l) : v.oneCell' = true := by
  obtain ⟨a, c, rfl, _⟩ := own_slice h
  rfl
theorem take_len {l : List It} {p : Str} {k : Nat} (hk : idxL l p + k ≤ l.length) : (takeL l p k).length = l.length - k := by
  unfold takeL
  rw [List.length_append, List.length_take, List.length_drop]
  omega
theorem take_split {l : List It} {p : Str} {k : Nat} : (takeL l p k).take (idxL l p) = l.take (idxL l p) ∧ (takeL l p k).drop (idxL l p) = l.drop (idxL l p + k) := by
  have hle := idx_le l p
  have h1 : (l.take (idxL l p)).length = idxL l p := by rw [List.length_take]; omega
  unfold takeL
  constructor
  · rw [List.take_append_of_le_length (by omega), List.take_of_length_le (by omega)]
  · rw [List.drop_append_of_le_length (by omega), List.drop_of_length_le (by omega), List.nil_append]
theorem has_lt {l : List It} {p : Str} (h : hasL l p = true) : idxL l p + 1 ≤ l.length := by
  unfold hasL at h
  cases e : l[idxL l p]? with
  | none => rw [e] at h; cases h
  | some x => exact (List.getElem?_eq_some_iff.1 e).1

set_option maxRecDepth 100000 in
set_option maxHeartbeats 8000000 in
theorem put_any (B b : Nat) (v : Value) (l m : List It) (p : Str) (x0 : It) (g o mc : Nat) (w : World) (hG : Gr w B b v l) (hs : Srt l) (hn2 : l.length ≤ 2000) (hx : ∀ x ∈ l, x.path.length ≤ 140737488355328) (hp : p.length ≤ 140737488355328)
    (hm0 : m[0]? = some x0) (hp0 : x0.path = p) (hml : m.length ≤ 2000) (hne : v.ownBlock ≠ some g) (hgb : g ≠ b) (hgc : ∃ cs t, w.heap[g]? = some (.cells cs t (0, 0))) (hM : ∀ (j : Nat) (u : Value), (flatI m)[j]? = some u → w.cell? ⟨g, o + j, none⟩ = some u) (hB : B ≤ w.heap.size) :
    Calls Tryz.prog 103 #[.pointer (some ⟨b, 0, none⟩), .slice (some ⟨g, o, none⟩) m.length mc] w (DoneR B b v (putL l m p) w) := by
  have hm : 0 < m.length := (List.getElem?_eq_some_iff.1 hm0).1
  have hgw : g < w.heap.size := by
    obtain ⟨cs, t, e⟩ := hgc
    exact (Array.getElem?_eq_some_iff.1 e).1
  have q0 := (iat_of hM 0 x0 hm0).c0
  rw [Nat.zero_mul, Nat.add_zero, hp0] at q0
  obtain ⟨a, c, rfl, _⟩ := own_slice hG.own
  have HF : Hid (∀ W, Below w.drew.heap.size w.drew W → Calls Tryz.prog 69 #[.slice a l.length c, .string ⟨p.toArray⟩] W fun e w' => e = .returned (.tuple #[.int .i64 (idxL l p), .bool (hasL l p)]) ∧ Below W.heap.size W w') := Lib.hid (fun W hW => tfind_gen l _ p W hs hn2 (hG.drew.on hW).rd hx hp)
  obtain ⟨i, hi⟩ : ∃ i, i = idxL l p := ⟨_, rfl⟩
  obtain ⟨n, hn⟩ : ∃ n, n = l.length := ⟨_, rfl⟩
  obtain ⟨k, hk⟩ : ∃ k, k = m.length := ⟨_, rfl⟩
  have hin : i ≤ n := by rw [hi, hn]; exact idx_le l p
  obtain ⟨t, ht⟩ : ∃ t, t = hasL l p := ⟨_, rfl⟩
  have HINS : Hid (∀ (l1 : List It) (v1 : Value) (W : World), OwnI W B v1 l1 → i ≤ l1.length → l1.length ≤ 2000 → v1.ownBlock ≠ some g → W.heap[g]? = w.heap[g]? → B ≤ W.heap.size →
      Calls Tryz.prog 120 #[v1, .int .i64 i, .slice (some ⟨g, o, none⟩) k mc] W (InsR B v1 (l1.take i ++ m ++ l1.drop i) W)) := Lib.hid (fun l1 v1 W h1 h2 h3 h4 h5 h6 => by
    rw [hk]
    exact ins_any l1 m i v1 g o mc B W h1 h2 hm h4 (by obtain ⟨cs, t, e⟩ := hgc; exact ⟨cs, t, h5.trans e⟩) (fun j u hu => (World.cell?_of_block h5).trans (hM j u hu)) (by omega) (by omega) h6)
  rw [← hi, ← ht] at HF
  rw [← hn] at HF hG hne ⊢
  rw [← hk] at hm hml ⊢
  have HN := Lib.hid hn
  obtain ⟨v0, hv0⟩ : ∃ z, z = World.drew w := ⟨_, rfl⟩
  obtain ⟨vs, hvs⟩ : ∃ z, z = World.drew w := ⟨_, rfl⟩
  have HG : Hid (Gr vs B b (.slice a n c) l) := Lib.hid (by rw [hvs]; exact hG.drew)
  have XG : Hid (Box vs b 82 #[.slice a n c]) := Lib.hid HG.out.box
  have HV0 : Hid (Below w.heap.size w vs) := Lib.hid (by rw [hvs]; exact (Below.refl _ _).drew)
  have HH : Hid (vs.heap[g]? = w.heap[g]?) := Lib.hid (by rw [hvs]; rfl)
  have HGW : Hid (g < vs.heap.size) := Lib.hid (Nat.lt_of_lt_of_le hgw HV0.out.size)
  have HQ : Hid (vs.cell? ⟨g, o, none⟩ = some (.string ⟨p.toArray⟩)) := Lib.hid ((World.cell?_of_block HH.out).trans q0)
  have HGB := Lib.hid hgb
  have HNE := Lib.hid hne
  have HB0 := Lib.hid hB
  rw [← hvs] at HF
  have HTK : Hid (t = true → ∀ W, Gr W B b (.slice a n c) l → Calls Tryz.prog 105 #[.pointer (some ⟨b, 0, none⟩), .string ⟨p.toArray⟩, .int .i64 1] W (DoneR B b (.slice a n c) (takeL l p 1) W)) :=
    Lib.hid (fun h W hW => take_any B b _ l p 1 W hW hs hn2 hx hp (by omega) (has_lt (ht ▸ h)))
  have HE0 : Hid (t = false → putL l m p = l.take i ++ m ++ l.drop i) := Lib.hid (fun h => by unfold putL oneL; rw [← ht, h, if_neg (by simp), Nat.add_zero, ← hi])
  have HE1 : Hid (t = true → putL l m p = (takeL l p 1).take i ++ m ++ (takeL l p 1).drop i ∧ i ≤ (takeL l p 1).length ∧ (takeL l p 1).length ≤ 2000) := Lib.hid (fun h => by
    have h1 := has_lt (l := l) (p := p) (by rw [← ht, h])
    rw [hi, take_split.1, take_split.2, take_len h1]
    refine ⟨by unfold putL oneL; rw [← ht, h, if_pos rfl], by omega, by omega⟩)
  have k1 : (0 : Int) < (k : Int) := by omega
  have k2 : (0 : Nat) < k := hm
  have fin : ∀ (l1 l2 : List It) (v1 v' : Value) (w1 w3 : World), Gr w1 B b v1 l1 → Nxt b (.slice a n c) v1 w w1 → OwnI w3 B v' l2 → w1.grownBy w3 v1.ownBlock → (v'.ownBlock = v1.ownBlock ∨ ∀ k, v'.ownBlock = some k → w1.heap.size ≤ k) → l2 = putL l m p →
      DoneR B b (.slice a n c) (putL l m p) w (.returned (.tuple #[])) (w3.setCell ⟨b, 0, none⟩ v') := fun l1 l2 v1 v' w1 w3 h1 h2 h3 h4 h5 h6 => by
    obtain ⟨q1, q2⟩ := h1.store h3 h4 h5
    exact ⟨v', rfl, h6 ▸ q1, h2.trans q2⟩
  have FIN := Lib.hid fin
  clear hG hs hx hi hn hk ht hgb hne hM hgc hm0 hp0 q0 hgw hm fin
  go_enter Tryz.func103, Tryz.ntmps103
  go_upto_region 0 with fail
  go_cut [4, 5] (fun p4 p5 wx => p4 = .int .i64 i ∧ p5 = .bool t ∧ Hid (Below vs.heap.size vs wx))
  case first =>
    rename_i J2 K2 hJ hK2
    refine wp_region_held_drew (S := fun w' => Below vs.heap.size vs w') (by kernel_rfl) (by rw [hvs]; exact Below.refl _ _) (fun hHeld => ?_)
    rw [← hv0] at hHeld ⊢
    clear hv0 hvs
    refine wpAnyH_take (i := 0) (oi := { dst := some 7, op := Op.move (Operand.tmp 0), type := 101, pos := "op.go:194", after := #[], guard := none }) (v := ?_) rfl (by kernel_rfl) (by kernel_rfl) (by kernel_rfl) (fun _ _ _ h => h) (Or.inl ⟨by rfl, ?_⟩) hHeld ?_
    rotate_left
    · (intro w hSw; go_simp; try with_reducible rfl)
    (try simp only [Act.put, List.setIfInBounds_toArray, List.set_cons_zero, List.set_cons_succ])
    refine wpAnyH_take (i := 1) (oi := { dst := some 8, op := Op.nilCheck (Operand.tmp 7), type := 0, pos := "op.go:194", after := #[{ on := 0, ground := Ground.data }], guard := none }) (v := ?_) rfl (by kernel_rfl) (by kernel_rfl) (by kernel_rfl) (fun _ _ _ h => h) (Or.inl ⟨by rfl, ?_⟩) hHeld ?_
    rotate_left
    · (intro w hSw; go_simp; try with_reducible rfl)
    (try simp only [Act.put, List.setIfInBounds_toArray, List.set_cons_zero, List.set_cons_succ])
    refine wpAnyH_take (i := 2) (oi := { dst := some 9, op := Op.fieldAddr 82 (Operand.tmp 8) 0, type := 0, pos := "op.go:194", after := #[{ on := 1, ground := Ground.data }], guard := none }) (v := ?_) rfl (by kernel_rfl) (by kernel_rfl) (by kernel_rfl) (fun _ _ _ h => h) (Or.inl ⟨by rfl, ?_⟩) hHeld ?_
    rotate_left
    · (intro w hSw; go_simp; try with_reducible rfl)
    (try simp only [Act.put, List.setIfInBounds_toArray, List.set_cons_zero, List.set_cons_succ])
    refine wpAnyH_take (i := 3) (oi := { dst := some 10, op := Op.load 22 (Operand.tmp 9), type := 22, pos := "op.go:194", after := #[{ on := 2, ground := Ground.data }], guard := none }) (v := ?_) rfl (by kernel_rfl) (by kernel_rfl) (by kernel_rfl) (fun _ _ _ h => h) (Or.inl ⟨by rfl, ?_⟩) hHeld ?_
    rotate_left
    · (intro w hSw; have p0 : w.cell? ⟨b, 0, none⟩ = some (.slice a n c) := (XG.out.on hSw).cell (k := 0) rfl; go_simp; try with_reducible rfl)
    (try simp only [Act.put, List.setIfInBounds_toArray, List.set_cons_zero, List.set_cons_succ])
    refine wpAnyH_take (i := 4) (oi := { dst := some 11, op := Op.move (Operand.tmp 1), type := 22, pos := "op.go:194", after := #[], guard := none }) (v := ?_) rfl (by kernel_rfl) (by kernel_rfl) (by kernel_rfl) (fun _ _ _ h => h) (Or.inl ⟨by rfl, ?_⟩) hHeld ?_
    rotate_left
    · (intro w hSw; go_simp; try with_reducible rfl)
    (try simp only [Act.put, List.setIfInBounds_toArray, List.set_cons_zero, List.set_cons_succ])
    refine wpAnyH_take (i := 5) (oi := { dst := some 12, op := Op.indexAddr 22 (Operand.tmp 11) (Operand.const (Value.int IntKind.i64 0)), type := 0, pos := "op.go:194", after := #[{ on := 4, ground := Ground.data }], guard := none }) (v := ?_) rfl (by kernel_rfl) (by kernel_rfl) (by kernel_rfl) (fun _ _ _ h => h) (Or.inl ⟨by rfl, ?_⟩) hHeld ?_
    rotate_left
    · (intro w hSw; go_simp; try with_reducible rfl)
    (try simp only [Act.put, List.setIfInBounds_toArray, List.set_cons_zero, List.set_cons_succ])
    refine wpAnyH_take (i := 6) (oi := { dst := some 13, op := Op.fieldAddr 33 (Operand.tmp 12) 0, type := 0, pos := "op.go:194", after := #[{ on := 5, ground := Ground.data }], guard := none }) (v := ?_) rfl (by kernel_rfl) (by kernel_rfl) (by kernel_rfl) (fun _ _ _ h => h) (Or.inl ⟨by rfl, ?_⟩) hHeld ?_
    rotate_left
    · (intro w hSw; go_simp; try with_reducible rfl)
    (try simp only [Act.put, List.setIfInBounds_toArray, List.set_cons_zero, List.set_cons_succ])
    refine wpAnyH_take (i := 7) (oi := { dst := some 14, op := Op.load 9 (Operand.tmp 13), type := 9, pos := "op.go:194", after := #[{ on := 6, ground := Ground.data }], guard := none }) (v := ?_) rfl (by kernel_rfl) (by kernel_rfl) (by kernel_rfl) (fun _ _ _ h => h) (Or.inl ⟨by rfl, ?_⟩) hHeld ?_
    rotate_left
    · (intro w hSw; have p0 : w.cell? ⟨g, o, none⟩ = some (.string ⟨p.toArray⟩) := (hSw.cell (p := ⟨g, _, none⟩) HGW.out).trans HQ.out; go_simp; try with_reducible rfl)
    (try simp only [Act.put, List.setIfInBounds_toArray, List.set_cons_zero, List.set_cons_succ])
    refine wpAnyH_ready (rs := [8]) (by kernel_rfl) (by simp) (AllReadyH.cons (o := { dst := some 15, op := Op.call { callee := Callee.value (Operand.func 69), args := #[Operand.tmp 10, Operand.tmp 14], argTypes := #[22, 9] }, type := 98, pos := "op.go:194", after := #[{ on := 3, ground := Ground.data }, { on := 7, ground := Ground.data }], guard := none }) rfl (fun K hK => ?_) AllReadyH.nil)
    · go_simp
      refine (HF.out _ hHeld).mono ?_
      rintro e v9 ⟨rfl, hba⟩
      refine hK.out _ _ (bch hHeld hba) (fun hHeld => ?_)
      clear hba
      (try simp only [Act.put, List.setIfInBounds_toArray, List.set_cons_zero, List.set_cons_succ])
      refine wpAnyH_take (i := 9) (oi := { dst := some 6, op := Op.move (Operand.tmp 15), type := 98, pos := "op.go:194", after := #[{ on := 8, ground := Ground.data }], guard := none }) (v := ?_) rfl (by kernel_rfl) (by kernel_rfl) (by kernel_rfl) (fun _ _ _ h => h) (Or.inl ⟨by rfl, ?_⟩) hHeld ?_
      rotate_left
      · (intro w hSw; go_simp; try with_reducible rfl)
      (try simp only [Act.put, List.setIfInBounds_toArray, List.set_cons_zero, List.set_cons_succ])
      refine wpAnyH_take (i := 10) (oi := { dst := some 16, op := Op.extract (Operand.tmp 6) 0, type := 3, pos := "op.go:194", after := #[{ on := 9, ground := Ground.data }], guard := none }) (v := ?_) rfl (by kernel_rfl) (by kernel_rfl) (by kernel_rfl) (fun _ _ _ h => h) (Or.inl ⟨by rfl, ?_⟩) hHeld ?_
      rotate_left
      · (intro w hSw; go_simp; try with_reducible rfl)
      (try simp only [Act.put, List.setIfInBounds_toArray, List.set_cons_zero, List.set_cons_succ])
      refine wpAnyH_take (i := 11) (oi := { dst := some 17, op := Op.extract (Operand.tmp 6) 1, type := 4, pos := "op.go:194", after := #[{ on := 9, ground := Ground.data }, { on := 12, ground := Ground.gcOnly Departure.lateStores }], guard := none }) (v := ?_) rfl (by kernel_rfl) (by kernel_rfl) (by kernel_rfl) (fun _ _ _ h => h) (Or.inl ⟨by rfl, ?_⟩) hHeld ?_
      rotate_left
      · (intro w hSw; go_simp; try with_reducible rfl)
      (try simp only [Act.put, List.setIfInBounds_toArray, List.set_cons_zero, List.set_cons_succ])
      refine wpAnyH_take (i := 12) (oi := { dst := some 4, op := Op.assign (Operand.tmp 16), type := 3, pos := "op.go:194", after := #[{ on := 10, ground := Ground.data }, { on := 8, ground := Ground.chain }, { on := 0, ground := Ground.phase }, { on := 1, ground := Ground.phase }, { on := 2, ground := Ground.phase }, { on := 3, ground := Ground.phase }, { on := 4, ground := Ground.phase }, { on := 5, ground := Ground.phase }, { on := 6, ground := Ground.phase }, { on := 7, ground := Ground.phase }, { on := 8, ground := Ground.phase }, { on := 9, ground := Ground.phase }, { on := 10, ground := Ground.phase }, { on := 11, ground := Ground.textOnly Departure.lateStores }], guard := none }) (v := ?_) rfl (by kernel_rfl) (by kernel_rfl) (by kernel_rfl) (fun _ _ _ h => h) (Or.inl ⟨by rfl, ?_⟩) hHeld ?_
      rotate_left
      · (intro w hSw; go_simp; try with_reducible rfl)
      (try simp only [Act.put, List.setIfInBounds_toArray, List.set_cons_zero, List.set_cons_succ])
      refine wpAnyH_take (i := 13) (oi := { dst := some 5, op := Op.assign (Operand.tmp 17), type := 4, pos := "op.go:194", after := #[{ on := 11, ground := Ground.data }, { on := 12, ground := Ground.chain }, { on := 0, ground := Ground.phase }, { on := 1, ground := Ground.phase }, { on := 2, ground := Ground.phase }, { on := 3, ground := Ground.phase }, { on := 4, ground := Ground.phase }, { on := 5, ground := Ground.phase }, { on := 6, ground := Ground.phase }, { on := 7, ground := Ground.phase }, { on := 8, ground := Ground.phase }, { on := 9, ground := Ground.phase }, { on := 10, ground := Ground.phase }, { on := 11, ground := Ground.phase }, { on := 12, ground := Ground.phase }], guard := none }) (v := ?_) rfl (by kernel_rfl) (by kernel_rfl) (by kernel_rfl) (fun _ _ _ h => h) (Or.inl ⟨by rfl, ?_⟩) hHeld ?_
      rotate_left
      · (intro w hSw; go_simp; try with_reducible rfl)
      (try simp only [Act.put, List.setIfInBounds_toArray, List.set_cons_zero, List.set_cons_succ])
      refine wpAnyH_done (by kernel_rfl) ?_ _
      first | refine hK2 _ _ (Met.intro (hJ _ _ ?_)) | refine Met.intro (hJ _ _ ?_)
      (repeat apply Exists.intro)
      refine ⟨?_, rfl⟩
      exact ⟨rfl, rfl, Lib.hid hHeld⟩
  case rest =>
    obtain ⟨rfl, rfl, HB⟩ := hcut
    obtain ⟨w2, hw2⟩ : ∃ z, z = wc := ⟨_, rfl⟩
    rw [← hw2] at HB ⊢
    clear hw2
    have HG2 := Lib.hid (HG.out.on HB.out)
    have HN2 : Hid (Nxt b (.slice a n c) (.slice a n c) w w2) := Lib.hid (Nxt.below (bch HV0.out HB.out) b _)
    have p2 : w2.cell? ⟨b, 0, none⟩ = some (.slice a n c) := HG2.out.box.cell (k := 0) rfl
    have HH2 : Hid (w2.heap[g]? = w.heap[g]?) := Lib.hid ((HB.out.block g HGW.out).trans HH.out)
    have q2 : w2.cell? ⟨g, o, none⟩ = some (.string ⟨p.toArray⟩) := (HB.out.cell (p := ⟨g, _, none⟩) HGW.out).trans HQ.out
    have HB2 : Hid (B ≤ w2.heap.size) := Lib.hid (Nat.le_trans HB0.out HN2.out.size)
    have HGW2 : Hid (g < w2.heap.size) := Lib.hid (Nat.lt_of_lt_of_le HGW.out HB.out.size)
    clear hvs hv0 HG XG HQ HF HGW
    cases t with
    | false =>
      go_wp2_with fail
      refine (HINS.out l _ w2 HG2.out.own (by rw [← HN.out]; exact hin) hn2 HNE.out HH2.out HB2.out).mono ?_
      rintro e w3 ⟨v', rfl, hO, hg, hr⟩
      have HX3 : Hid (Box w3 b 82 #[.slice a n c]) := Lib.hid (HG2.out.box.kept hg (fun e => HG2.out.ne e.symm))
      have HR := Lib.hid (FIN.out l _ _ v' w2 w3 HG2.out HN2.out hO hg hr (HE0.out (by trivial)).symm)
      have p3 : w3.cell? ⟨b, 0, none⟩ = some (.slice a n c) := HX3.out.cell (k := 0) rfl
      have f3 := frozen_of_row w3 b 0 _ _ HX3.out
      obtain ⟨a', n', c', rfl⟩ := own_any hO
      clear hO hg hr p2 q2
      go_wp2_with fail
      refine bodyPost_ret (results_none rfl _ _ _) rfl ?_
      exact HR.out
    | true =>
      go_wp2_with fail
      refine (HTK.out (by trivial) w2 HG2.out).mono ?_
      rintro e w3 ⟨v1, rfl, hG3, hN3⟩
      have HG3 := Lib.hid hG3
      have HN3 := Lib.hid hN3
      have HNE3 : Hid (v1.ownBlock ≠ some g) := Lib.hid (fun e => by
        rcases hN3.row with r | r
        · exact HNE.out (r ▸ e)
        · have h1 := r g e; have h2 := HGW2.out; omega)
      have HH3 : Hid (w3.heap[g]? = w.heap[g]?) := Lib.hid ((hN3.block g HGW2.out HGB.out HNE.out).trans HH2.out)
      have HB3 : Hid (B ≤ w3.heap.size) := Lib.hid (Nat.le_trans HB2.out hN3.size)
      obtain ⟨a1, n1, c1, rfl⟩ := own_any hG3.own
      have p3 : w3.cell? ⟨b, 0, none⟩ = some (.slice a1 n1 c1) := HG3.out.box.cell (k := 0) rfl
      clear hG3 hN3 p2 q2
      go_wp2_with fail
      refine (HINS.out (takeL l p 1) _ w3 HG3.out.own (HE1.out (by trivial)).2.1 (HE1.out (by trivial)).2.2 HNE3.out HH3.out HB3.out).mono ?_
      rintro e w4 ⟨v', rfl, hO, hg, hr⟩
      have HX4 : Hid (Box w4 b 82 #[.slice a1 n1 c1]) := Lib.hid (HG3.out.box.kept hg (fun e => HG3.out.ne e.symm))
      have HR := Lib.hid (FIN.out (takeL l p 1) _ _ v' w3 w4 HG3.out (HN2.out.trans HN3.out) hO hg hr (HE1.out (by trivial)).1.symm)
      have p4 : w4.cell? ⟨b, 0, none⟩ = some (.slice a1 n1 c1) := HX4.out.cell (k := 0) rfl
      have f4 := frozen_of_row w4 b 0 _ _ HX4.out
      obtain ⟨a', n', c', rfl⟩ := own_any hO
      clear hO hg hr p3
      go_wp2_with fail
      refine bodyPost_ret (results_none rfl _ _ _) rfl ?_
      exact HR.out
end Go.Proofs.YtjbbnecegomkcaaGreatDoor
