/- Proved here: parts and follow of package walk: a way to its end. -/
import Derived.Test.YtiakedoebecgpaaDoorWRound
import Derived.BigGuardPartIn
namespace Go.Proofs.YtiakedoebecgpaaDoor
open Go.RowKit Go.Shelf
attribute [local go_sem] Oper.semAt_some

theorem wparts_any (q : Nat) (w : World) : Calls Tryd.prog 106 #[.pointer (some ⟨q, 0, none⟩)] w fun e w' => e = .returned (.func (.func 124) #[] #[.pointer (some ⟨w.heap.size, 0, none⟩)]) ∧ w.alloc (.cells #[.pointer (some ⟨q, 0, none⟩)] 140) = w' := by
  go_enter Tryd.func106, Tryd.ntmps106
  go_wp2
  go_ret
  exact ⟨rfl, rfl⟩

/-! ### Where a way stands, in plain words -/
structure PK (l : List It) (last : Bool) (R : Except Int (It × Nat)) (x : It) (L : List Str) (k : Nat) : Prop where
  stand : Stand l last x L k
  short : ∀ p ∈ L, p.length ≤ 2000
  rest : ∃ f, f ≤ 90000 ∧ mM L k ≤ f ∧ goM l last f x L k = R
theorem part_short (s : Str) : ∀ p ∈ cutP s, p.length ≤ s.length := by
  induction s with
  | nil => intro p hp; simp [cutP] at hp; subst hp; exact Nat.le_refl _
  | cons c s ih =>
    intro p hp
    rw [cutP_cons] at hp
    split at hp
    · rcases List.mem_cons.1 hp with rfl | hp
      · exact Nat.zero_le _
      · have := ih p hp; rw [List.length_cons]; omega
    · cases e : cutP s with
      | nil => exact absurd e (cutP_ne s)
      | cons a b =>
        rw [e] at hp ih
        simp only [consHead] at hp
        rcases List.mem_cons.1 hp with rfl | hp
        · have := ih a (by simp); simp only [List.length_cons]; omega
        · have := ih p (by simp [hp]); rw [List.length_cons]; omega
theorem PK.step {l : List It} (hok : TreeOk l) {last : Bool} {R : Except Int (It × Nat)} {x : It} {p : Str} {L : List Str} {k : Nat} (h : PK l last R x (p :: L) k) {r : It × List Str × Nat} (hs : stepM l last x p L k = .ok r) : PK l last R r.1 r.2.1 r.2.2 ∧ mM r.2.1 r.2.2 < mM (p :: L) k := by
  obtain ⟨h1, h2⟩ := h.stand.step hok hs
  refine ⟨⟨h1, ?_, ?_⟩, h2⟩
  · have hL : ∀ q ∈ L, q.length ≤ 2000 := fun q hq => h.short q (by simp [hq])
    unfold stepM at hs
    split at hs
    · cases hs; exact hL
    · split at hs
      · cases hs; exact hL
      · split at hs
        · cases hs
        · rename_i y hy
          split at hs
          · cases hs
          · split at hs
            · rename_i h3
              split at hs
              · cases hs
              · cases hs
                have hd := (get_here hy).1.link hok h3.1
                intro q hq
                rcases List.mem_append.1 hq with z | z
                · exact Nat.le_trans (part_short _ q z) hd
                · exact hL q z
            · cases hs; exact hL
  · obtain ⟨f, hf1, hf2, hf3⟩ := h.rest
    cases f with
    | zero => simp [mM] at hf2
    | succ f =>
      rw [goM_go hs] at hf3
      exact ⟨f, by omega, by omega, hf3⟩
theorem PK.err {l : List It} {last : Bool} {R : Except Int (It × Nat)} {x : It} {p : Str} {L : List Str} {k : Nat} (h : PK l last R x (p :: L) k) {z : Int} (hs : stepM l last x p L k = .error z) : R = .error z := by
  obtain ⟨f, hf1, hf2, hf3⟩ := h.rest
  cases f with
  | zero => simp [mM] at hf2
  | succ f => rw [goM_no hs] at hf3; exact hf3.symm
theorem PK.ends {l : List It} {last : Bool} {R : Except Int (It × Nat)} {x : It} {k : Nat} (h : PK l last R x [] k) : R = .ok (x, k) := by
  obtain ⟨f, hf1, hf2, hf3⟩ := h.rest
  rw [goM_end] at hf3
  exact hf3.symm
theorem PK.few {l : List It} {last : Bool} {R : Except Int (It × Nat)} {x : It} {L : List Str} {k : Nat} (h : PK l last R x L k) : L.length ≤ 90000 := by
  obtain ⟨f, hf1, hf2, hf3⟩ := h.rest
  unfold mM at hf2
  omega

/-! ### What holds between two parts -/
structure FKs (l : List It) (q g b b2 b3 b5 D : Nat) (last : Bool) (w0 : World) : Prop where
  sg : g < D ∧ g ≠ q
  sb : b < D ∧ b ≠ q
  s2 : b2 < D ∧ b2 ≠ q
  s3 : b3 < D ∧ b3 ≠ q
  s5 : b5 < D ∧ b5 ≠ q
  sq : 6 ≤ q ∧ q < D
  s0 : w0.heap.size ≤ D
structure FK (l : List It) (q g b b2 b3 b5 D : Nat) (last : Bool) (w0 : World) (R : Except Int (It × Nat)) (x : It) (L : List Str) (k : Nat) (X : World) : Prop where
  side : FKs l q g b b2 b3 b5 D last w0
  plain : PK l last R x L k
  finds : Finds X g b l
  tabs : Tabs X
  k2 : Box X b2 140 #[.pointer (some ⟨q, 0, none⟩)]
  k3 : Box X b3 4 #[.bool last]
  k5 : Box X b5 29 #[.int .i64 0]
  from0 : w0.grownBy X (some q)
theorem Tabs.kept {w w' : World} {row : Option Nat} (h : Tabs w) (hr : ∀ r, row = some r → 6 ≤ r) (hg : w.grownBy w' row) : Tabs w' :=
  have k : ∀ g o u, g < 6 → w.cell? ⟨g, o, none⟩ = some u → w'.cell? ⟨g, o, none⟩ = some u := fun g _ _ hg6 hu => hg.cell (a := ⟨g, _, none⟩) hu (by intro e; have := hr _ e.symm; simp at this; omega)
  ⟨k _ _ _ (by omega) h.r0, k _ _ _ (by omega) h.r1, k _ _ _ (by omega) h.r2, k _ _ _ (by omega) h.s0, k _ _ _ (by omega) h.s1, k _ _ _ (by omega) h.s2, h.max.imp fun _ e => k _ _ _ (by omega) e, Nat.le_trans h.one hg.size⟩
variable {l : List It} {q g b b2 b3 b5 D : Nat} {last : Bool} {w0 : World} {R : Except Int (It × Nat)}
theorem FK.kept {x : It} {L : List Str} {k : Nat} {X Y : World} {row : Option Nat} (h : FK l q g b b2 b3 b5 D last w0 R x L k X) (hg : X.grownBy Y row) (hr : ∀ r, row = some r → r = q ∨ r = D ∨ r = D + 1) : FK l q g b b2 b3 b5 D last w0 R x L k Y := by
  have hne : ∀ z, z < D ∧ z ≠ q → some z ≠ row := fun z hz e => by
    have := hr z e.symm
    omega
  have hs := h.side.sq
  refine ⟨h.side, h.plain, h.finds.kept hg (hne _ h.side.sg) (hne _ h.side.sb), h.tabs.kept (fun r e => by have := hr r e; omega) hg, h.k2.kept hg (hne _ h.side.s2), h.k3.kept hg (hne _ h.side.s3), h.k5.kept hg (hne _ h.side.s5), h.from0.andThen hg (fun j e => ?_)⟩
  have h0 := h.side.s0
  rcases hr j e with rfl | rfl | rfl
  · exact .inr rfl
  · exact .inl h0
  · exact .inl (by omega)
theorem FK.turn {x y : It} {L M : List Str} {k m : Nat} {X : World} (h : FK l q g b b2 b3 b5 D last w0 R x L k X) (hp : PK l last R y M m) : FK l q g b b2 b3 b5 D last w0 R y M m X := ⟨h.side, hp, h.finds, h.tabs, h.k2, h.k3, h.k5, h.from0⟩
def FX (q b5 : Nat) (w0 : World) (R : Except Int (It × Nat)) (X : World) : Prop := ∃ z, R = .error z ∧ z ≠ 0 ∧ Box X b5 29 #[.int .i64 z] ∧ w0.grownBy X (some q)
def FollowR (q g : Nat) (R : Except Int (It × Nat)) (w : World) (e : Ending) (w' : World) : Prop :=
  w.grownBy w' (some q) ∧ match R with
    | .error z => e = .returned (.int .i64 z) ∧ z ≠ 0
    | .ok r => e = .returned (.int .i64 0) ∧ WayW w' q (fnd g) r.1 [] r.2

theorem set_same {W : World} {g : Nat} {t : TypeId} {v : Value} (h : Box W g t #[v]) : W.setCell ⟨g, 0, none⟩ v = W := by
  have e : (W.setCell ⟨g, 0, none⟩ v).heap = W.heap := by
    apply Array.ext_getElem?
    intro i
    by_cases hi : i = g
    · subst hi
      rw [heap_setCell_same W i 0 #[v] t v h]
      exact h.symm
    · exact heap_setCell_other W _ i v hi
  have e2 : W.setCell ⟨g, 0, none⟩ v = { W with heap := (W.setCell ⟨g, 0, none⟩ v).heap } := rfl
  rw [e2, e]
theorem Fix2.set {D b : Nat} {X Y : World} (h : Fix2 D X Y) (hb : b < D) {v : Value} : Fix2 D X (Y.setCell ⟨b, 0, none⟩ v) :=
  ⟨(heap_setCell_other Y ⟨b, 0, none⟩ D v (by show D ≠ b; omega)).trans h.1, (heap_setCell_other Y ⟨b, 0, none⟩ (D + 1) v (by show D + 1 ≠ b; omega)).trans h.2⟩

set_option maxRecDepth 100000 in
set_option maxHeartbeats 8000000 in
theorem wfollow_any (hok : TreeOk l) (x : It) (L : List Str) (k : Nat) (hPK : PK l last R x L k) (w : World) (hF : Finds w g b l) (hW : WayW w q (fnd g) x L k) (hT : Tabs w) (hq : 6 ≤ q) (hgq : g ≠ q) (hbq : b ≠ q) :
    Calls Tryd.prog 85 #[.pointer (some ⟨q, 0, none⟩), .bool last] w (FollowR q g R w) := by
  refine (callsIn_wide (n := 5)).1 ?_
  refine callsIn_of_wp_marks Tryd.func85 rfl trivial ?_ rfl
  simp only [Tryd.ntmps85, List.size_toArray, List.length_cons, List.length_nil, Nat.reduceAdd, Nat.reduceSub, Array.replicate_succ, Array.replicate_zero, List.push_toArray, List.append_toArray, List.nil_append, List.cons_append]
  gi_wp2
  refine wpIn_wide.2 (wp_scope_straight ((wpIn_wide (n := 5)).1 ?_))
  gi_wp2
  refine wpIn_label ?_
  gi_wp2_with (refine ⟨trivial, ?_⟩; gi_at_call 106; refine (callsIn_wide.2 (wparts_any _ _)).mono ?_; rintro e w' ⟨rfl, rfl⟩)
  have hqw : q < w.heap.size := hW.lt
  obtain ⟨w2, hw2⟩ : ∃ z, z = (((w.alloc (.cells #[.pointer (some ⟨q, 0, none⟩)] 140)).alloc (.cells #[.bool last] 4)).alloc (.cells #[.int .i64 0] 29)).alloc (.cells #[.pointer (some ⟨q, 0, none⟩)] 140) := ⟨_, rfl⟩
  have hb2 : Below w.heap.size w w2 := by rw [hw2]; exact ((((Below.refl _ w).alloc (Nat.le_refl _) _).alloc (by simp) _).alloc (by simp; omega) _).alloc (by simp; omega) _
  have x2 : Box w2 w.heap.size 140 #[.pointer (some ⟨q, 0, none⟩)] := by rw [hw2]; exact ((box_new.alloc _).alloc _).alloc _
  have x3 : Box w2 (w.heap.size + 1) 4 #[.bool last] := by
    have := (((box_new (w := w.alloc (.cells #[.pointer (some ⟨q, 0, none⟩)] 140)) (t := 4) (cs := #[.bool last])).alloc (.cells #[.int .i64 0] 29)).alloc (.cells #[.pointer (some ⟨q, 0, none⟩)] 140))
    rw [World.size_alloc] at this
    rw [hw2]; exact this
  have x5 : Box w2 (w.heap.size + 1 + 1) 29 #[.int .i64 0] := by
    have := ((box_new (w := (w.alloc (.cells #[.pointer (some ⟨q, 0, none⟩)] 140)).alloc (.cells #[.bool last] 4)) (t := 29) (cs := #[.int .i64 0])).alloc (.cells #[.pointer (some ⟨q, 0, none⟩)] 140))
    simp only [World.size_alloc] at this
    rw [hw2]; exact this
  have xp : Box w2 (w.heap.size + 1 + 1 + 1) 140 #[.pointer (some ⟨q, 0, none⟩)] := by
    have := box_new (w := ((w.alloc (.cells #[.pointer (some ⟨q, 0, none⟩)] 140)).alloc (.cells #[.bool last] 4)).alloc (.cells #[.int .i64 0] 29)) (t := 140) (cs := #[.pointer (some ⟨q, 0, none⟩)])
    simp only [World.size_alloc] at this
    rw [hw2]; exact this
  have hD : w2.heap.size = w.heap.size + 1 + 1 + 1 + 1 := by rw [hw2]; simp
  have hsg := hF.lt
  have hs1 : w.heap.size < w2.heap.size := by omega
  have hs2 : w.heap.size + 1 < w2.heap.size := by omega
  have hs3 : w.heap.size + 1 + 1 < w2.heap.size := by omega
  have hfk : FK l q g b w.heap.size (w.heap.size + 1) (w.heap.size + 1 + 1) w2.heap.size last w R x L k w2 :=
    ⟨⟨⟨by omega, hgq⟩, ⟨by omega, hbq⟩, ⟨by omega, by omega⟩, ⟨by omega, by omega⟩, ⟨by omega, by omega⟩, ⟨hq, by omega⟩, by omega⟩, hPK, hF.on hb2, hT.on hb2, x2, x3, x5, below_grown hb2 _⟩
  have hw2W := hW.on hb2
  have hpq : w.heap.size + 1 + 1 + 1 ≠ q := by omega
  rw [← hw2]
  obtain ⟨pb, hpb⟩ : ∃ z, z = w.heap.size + 1 + 1 + 1 := ⟨_, rfl⟩
  rw [← hpb] at xp hpq ⊢
  obtain ⟨b5, hb5⟩ : ∃ z, z = w.heap.size + 1 + 1 := ⟨_, rfl⟩
  rw [← hb5] at hfk hs3 ⊢
  obtain ⟨b3, hb3⟩ : ∃ z, z = w.heap.size + 1 := ⟨_, rfl⟩
  rw [← hb3] at hfk hs2 ⊢
  obtain ⟨b2, hb2'⟩ : ∃ z, z = w.heap.size := ⟨_, rfl⟩
  rw [← hb2'] at hfk hs1 ⊢
  obtain ⟨D, hDD⟩ : ∃ z, z = w2.heap.size := ⟨_, rfl⟩
  rw [← hDD] at hfk hs1 hs2 hs3
  have HPN := Lib.hid hpq
  have hqD : q < D := hfk.side.sq.2
  have HQD := Lib.hid hqD
  have HF5 : Hid (w.heap.size ≤ b5) := Lib.hid (by omega)
  have HB5D : Hid (b5 < D) := Lib.hid hs3
  clear hw2 hb2 x2 x3 x5 hD hpb hb5 hb3 hb2' hPK hF hW hT
  refine range_walk (n := 5) (by omega) (by omega) q pb 0 (fnd g) rfl (enters_of Tryd.func124 (by kernel_rfl) rfl) D hDD hqD hpq rfl (FK l q g b b2 b3 b5 D last w R) (FX q b5 w R) (fun x L k X Y row h hg hr => h.kept hg hr)
    (fun X Y row h hg hr => ?stab) (mM L k) ⟨x, L, k, rfl, hw2W, xp, hfk⟩
    (fun x => { tmps := #[.pointer (some ⟨q, 0, none⟩), .bool last, .pointer (some ⟨b2, 0, none⟩), .pointer (some ⟨b3, 0, none⟩), .int .i64 0, .pointer (some ⟨b5, 0, none⟩), .string ⟨x.toArray⟩, .pointer (some ⟨q, 0, none⟩), .func (.func 124) #[] #[.pointer (some ⟨pb, 0, none⟩)], .string ⟨x.toArray⟩, undef, undef, undef, undef, undef, undef, undef, undef, undef, undef, undef, undef, undef, undef, undef, undef, undef, undef, undef, undef, undef, undef, undef, undef, undef, undef, undef, undef, undef, undef], defers := [] }) ?assign ?body ?done ?stop
  case stab =>
    obtain ⟨z, h1, h2, h3, h4⟩ := h
    refine ⟨z, h1, h2, h3.kept hg (by intro e; have := hr _ e.symm; have := hfk.side.s5; omega), h4.andThen hg (fun j e => .inl (by have := hr j e; have := hfk.side.s0; omega))⟩
  case assign =>
    intro l x X K hK
    gi_wp2
    exact hK
  case body =>
    clear hfk hw2W xp hs1 hs2 hs3 hDD hpq hqD
    intro lr x part L k X hsz hW hB hFK
    have HFK := Lib.hid hFK
    have HW := Lib.hid hW
    have HB := Lib.hid hB
    have HSZ := Lib.hid hsz
    have c2 : X.cell? ⟨b2, 0, none⟩ = some (.pointer (some ⟨q, 0, none⟩)) := hFK.k2.cell (k := 0) rfl
    have c3 : X.cell? ⟨b3, 0, none⟩ = some (.bool last) := hFK.k3.cell (k := 0) rfl
    have c5 : X.cell? ⟨b5, 0, none⟩ = some (.int .i64 0) := hFK.k5.cell (k := 0) rfl
    have f5 := frozen_of_row X b5 0 _ _ hFK.k5
    clear hFK hW hB
    by_cases hx0 : part = [] ∨ part = [46]
    · have hst := HFK.out.plain.step hok (r := (x, L, k)) (by unfold stepM; rw [if_pos hx0])
      have HST := Lib.hid hst
      clear hst
      rcases hx0 with rfl | rfl
      · gi_wp2
        exact ⟨Fix2.refl _ _, _, HST.out.2, x, L, k, rfl, HW.out, HB.out, HFK.out.turn HST.out.1⟩
      · gi_wp2
        exact ⟨Fix2.refl _ _, _, HST.out.2, x, L, k, rfl, HW.out, HB.out, HFK.out.turn HST.out.1⟩
    · have n1 : part ≠ [] := fun e => hx0 (.inl e)
      have n2 : part ≠ [46] := fun e => hx0 (.inr e)
      have e1 := isEmpty_no n1
      have e2 := beq_no n2
      by_cases hx3 : part = [46, 46]
      · subst hx3
        have hst := HFK.out.plain.step hok (r := ((getI l (upL x.path)).getD .nil, L, k)) (by unfold stepM; rw [if_neg (by decide), if_pos rfl])
        obtain ⟨u, hu⟩ : ∃ u, upL x.path = u := ⟨_, rfl⟩
        obtain ⟨o, ho⟩ : ∃ o, getI l u = o := ⟨_, rfl⟩
        obtain ⟨y, hy⟩ : ∃ y, y = o.getD .nil := ⟨_, rfl⟩
        obtain ⟨is, his⟩ : ∃ z, z = o.isSome := ⟨_, rfl⟩
        rw [hu, ho, ← hy] at hst
        have hxv := HFK.out.plain.stand.here.valid hok
        have hul := valid_len _ (up_valid _ hxv).1
        have hxl : x.path.length ≤ 140737488355328 := by have := valid_len _ hxv; omega
        rw [hu] at hul
        have HST := Lib.hid hst
        have HU := Lib.hid hu
        have HUS : Hid ((⟨u.toArray⟩ : ByteArray).size ≤ 140737488355328) := Lib.hid (by show u.length ≤ _; omega)
        have HO : Hid (getM l (⟨u.toArray⟩ : ByteArray).data.toList = o) := Lib.hid (by rw [getM_tree hok]; exact ho)
        have HY := Lib.hid hy
        have HI := Lib.hid his
        obtain ⟨rv, X1, hRV⟩ := id HW.out
        have XW : Hid (Box X.drew q 88 (wayA (fnd g) x rv k)) := Lib.hid X1.drew
        have HRV := Lib.hid hRV
        have HFV : Hid (Finds X.drew g b l) := Lib.hid ⟨HFK.out.finds.box.drew, HFK.out.finds.map.drew⟩
        have HB2 := Lib.hid HFK.out.k2
        have HB2N : Hid (some b2 ≠ some q) := Lib.hid (by have := HFK.out.side.s2; intro e; injection e with e; omega)
        obtain ⟨v0, hv0⟩ : ∃ z, z = World.drew X := ⟨_, rfl⟩
        rw [← hv0] at XW HFV
        clear hst hu ho hy his hxv hul X1 hRV n1 n2 hx0 c3 c5 f5
        gi_wp2
        refine region_round (S := fun w' => X.grownBy w' (some q)) (by kernel_rfl) (by kernel_rfl) (grown_drew (World.grownBy.refl _ _)) (fun hHeld => ?_)
        rw [← hv0] at hHeld ⊢
        clear hv0 c2
        refine wpAnyH_take (i := 0) (oi := { dst := some 23, op := Op.load 140 (Operand.tmp 2), type := 140, pos := "way.go:97", after := #[], guard := none }) (v := ?_) rfl (by kernel_rfl) (by kernel_rfl) (by kernel_rfl) (fun _ _ _ h => h) (Or.inl ⟨by rfl, ?_⟩) hHeld ?_
        rotate_left
        · (intro w hSw; have p0 : w.cell? ⟨b2, 0, none⟩ = some (.pointer (some ⟨q, 0, none⟩)) := (HB2.out.kept hSw HB2N.out).cell (k := 0) rfl; go_simp; try with_reducible rfl)
        (try simp only [Act.put, List.setIfInBounds_toArray, List.set_cons_zero, List.set_cons_succ])
        refine wpAnyH_take (i := 1) (oi := { dst := some 24, op := Op.load 140 (Operand.tmp 2), type := 140, pos := "way.go:97", after := #[], guard := none }) (v := ?_) rfl (by kernel_rfl) (by kernel_rfl) (by kernel_rfl) (fun _ _ _ h => h) (Or.inl ⟨by rfl, ?_⟩) hHeld ?_
        rotate_left
        · (intro w hSw; have p0 : w.cell? ⟨b2, 0, none⟩ = some (.pointer (some ⟨q, 0, none⟩)) := (HB2.out.kept hSw HB2N.out).cell (k := 0) rfl; go_simp; try with_reducible rfl)
        (try simp only [Act.put, List.setIfInBounds_toArray, List.set_cons_zero, List.set_cons_succ])
        refine wpAnyH_take (i := 2) (oi := { dst := some 25, op := Op.nilCheck (Operand.tmp 24), type := 0, pos := "way.go:97", after := #[{ on := 1, ground := Ground.data }], guard := none }) (v := ?_) rfl (by kernel_rfl) (by kernel_rfl) (by kernel_rfl) (fun _ _ _ h => h) (Or.inl ⟨by rfl, ?_⟩) hHeld ?_
        rotate_left
        · (intro w hSw; go_simp; try with_reducible rfl)
        (try simp only [Act.put, List.setIfInBounds_toArray, List.set_cons_zero, List.set_cons_succ])
        refine wpAnyH_take (i := 3) (oi := { dst := some 26, op := Op.fieldAddr 88 (Operand.tmp 25) 0, type := 0, pos := "way.go:97", after := #[{ on := 2, ground := Ground.data }], guard := none }) (v := ?_) rfl (by kernel_rfl) (by kernel_rfl) (by kernel_rfl) (fun _ _ _ h => h) (Or.inl ⟨by rfl, ?_⟩) hHeld ?_
        rotate_left
        · (intro w hSw; go_simp; try with_reducible rfl)
        (try simp only [Act.put, List.setIfInBounds_toArray, List.set_cons_zero, List.set_cons_succ])
        refine wpAnyH_take (i := 5) (oi := { dst := some 28, op := Op.load 140 (Operand.tmp 2), type := 140, pos := "way.go:97", after := #[], guard := none }) (v := ?_) rfl (by kernel_rfl) (by kernel_rfl) (by kernel_rfl) (fun _ _ _ h => h) (Or.inl ⟨by rfl, ?_⟩) hHeld ?_
        rotate_left
        · (intro w hSw; have p0 : w.cell? ⟨b2, 0, none⟩ = some (.pointer (some ⟨q, 0, none⟩)) := (HB2.out.kept hSw HB2N.out).cell (k := 0) rfl; go_simp; try with_reducible rfl)
        (try simp only [Act.put, List.setIfInBounds_toArray, List.set_cons_zero, List.set_cons_succ])
        refine wpAnyH_take (i := 6) (oi := { dst := some 29, op := Op.nilCheck (Operand.tmp 28), type := 0, pos := "way.go:97", after := #[{ on := 5, ground := Ground.data }], guard := none }) (v := ?_) rfl (by kernel_rfl) (by kernel_rfl) (by kernel_rfl) (fun _ _ _ h => h) (Or.inl ⟨by rfl, ?_⟩) hHeld ?_
        rotate_left
        · (intro w hSw; go_simp; try with_reducible rfl)
        (try simp only [Act.put, List.setIfInBounds_toArray, List.set_cons_zero, List.set_cons_succ])
        refine wpAnyH_take (i := 7) (oi := { dst := some 30, op := Op.fieldAddr 88 (Operand.tmp 29) 1, type := 0, pos := "way.go:97", after := #[{ on := 6, ground := Ground.data }], guard := none }) (v := ?_) rfl (by kernel_rfl) (by kernel_rfl) (by kernel_rfl) (fun _ _ _ h => h) (Or.inl ⟨by rfl, ?_⟩) hHeld ?_
        rotate_left
        · (intro w hSw; go_simp; try with_reducible rfl)
        (try simp only [Act.put, List.setIfInBounds_toArray, List.set_cons_zero, List.set_cons_succ])
        refine wpAnyH_take (i := 8) (oi := { dst := some 31, op := Op.fieldAddr 35 (Operand.tmp 30) 0, type := 0, pos := "way.go:97", after := #[{ on := 7, ground := Ground.data }], guard := none }) (v := ?_) rfl (by kernel_rfl) (by kernel_rfl) (by kernel_rfl) (fun _ _ _ h => h) (Or.inl ⟨by rfl, ?_⟩) hHeld ?_
        rotate_left
        · (intro w hSw; go_simp; try with_reducible rfl)
        (try simp only [Act.put, List.setIfInBounds_toArray, List.set_cons_zero, List.set_cons_succ])
        refine wpAnyH_ready (rs := [4, 9]) (by kernel_rfl) (by simp) (AllReadyH.cons (o := { dst := some 27, op := Op.load 86 (Operand.tmp 26), type := 86, pos := "way.go:97", after := #[{ on := 3, ground := Ground.data }], guard := none }) rfl (fun K hK => ?_) (AllReadyH.cons (o := { dst := some 32, op := Op.load 9 (Operand.tmp 31), type := 9, pos := "way.go:97", after := #[{ on := 8, ground := Ground.data }], guard := none }) rfl (fun K hK => ?_) AllReadyH.nil))
        · have p0 : v0.cell? ⟨q, 0, none⟩ = some (.func (.func 82) #[] #[.pointer (some ⟨g, 0, none⟩)]) := XW.out.cell (k := 0) rfl
          go_simp
          refine hK.out _ _ hHeld (fun hHeld => ?_)
          clear p0
          (try simp only [Act.put, List.setIfInBounds_toArray, List.set_cons_zero, List.set_cons_succ])
          refine wpAnyH_ready (rs := [9]) (by kernel_rfl) (by simp) (AllReadyH.cons (o := { dst := some 32, op := Op.load 9 (Operand.tmp 31), type := 9, pos := "way.go:97", after := #[{ on := 8, ground := Ground.data }], guard := none }) rfl (fun K hK => ?_) AllReadyH.nil)
          · have p0 : v0.cell? ⟨q, 1, none⟩ = some (.string ⟨x.path.toArray⟩) := XW.out.cell (k := 1) rfl
            go_simp
            refine hK.out _ _ hHeld (fun hHeld => ?_)
            clear p0
            (try simp only [Act.put, List.setIfInBounds_toArray, List.set_cons_zero, List.set_cons_succ])
            refine wpAnyH_ready (rs := [10]) (by kernel_rfl) (by simp) (AllReadyH.cons (o := { dst := some 33, op := Op.call { callee := Callee.value (Operand.func 62), args := #[Operand.tmp 32], argTypes := #[9] }, type := 9, pos := "way.go:97", after := #[{ on := 9, ground := Ground.data }], guard := none }) rfl (fun K hK => ?_) AllReadyH.nil)
            · go_simp
              refine (up_is x.path hxl u HU.out _).mono ?_
              rintro e v10 ⟨rfl, hba⟩
              have XW := Lib.hid (XW.out.on hba)
              have HFV := Lib.hid (HFV.out.on hba)
              refine hK.out _ _ (hHeld.trans (below_grown hba _)) (fun hHeld => ?_)
              clear hba
              (try simp only [Act.put, List.setIfInBounds_toArray, List.set_cons_zero, List.set_cons_succ])
              refine wpAnyH_ready (rs := [11]) (by kernel_rfl) (by simp) (AllReadyH.cons (o := { dst := some 34, op := Op.call { callee := Callee.value (Operand.tmp 27), args := #[Operand.tmp 33], argTypes := #[9] }, type := 37, pos := "way.go:97", after := #[{ on := 4, ground := Ground.data }, { on := 10, ground := Ground.data }, { on := 10, ground := Ground.chain }], guard := none }) rfl (fun K hK => ?_) AllReadyH.nil)
              · go_simp
                refine (find_is g b l _ _ HFV.out HUS.out o HO.out).mono ?_
                rintro e v11 ⟨rfl, hba⟩
                rw [← HY.out, ← HI.out]
                unfold It.arr
                have XW := Lib.hid (XW.out.on hba)
                refine hK.out _ _ (hHeld.trans (below_grown hba _)) (fun hHeld => ?_)
                clear hba
                (try simp only [Act.put, List.setIfInBounds_toArray, List.set_cons_zero, List.set_cons_succ])
                refine wpAnyH_take (i := 12) (oi := { dst := some 22, op := Op.move (Operand.tmp 34), type := 37, pos := "way.go:97", after := #[{ on := 11, ground := Ground.data }], guard := none }) (v := ?_) rfl (by kernel_rfl) (by kernel_rfl) (by kernel_rfl) (fun _ _ _ h => h) (Or.inl ⟨by rfl, ?_⟩) hHeld ?_
                rotate_left
                · (intro w hSw; go_simp; try with_reducible rfl)
                (try simp only [Act.put, List.setIfInBounds_toArray, List.set_cons_zero, List.set_cons_succ])
                refine wpAnyH_take (i := 13) (oi := { dst := some 35, op := Op.extract (Operand.tmp 22) 0, type := 35, pos := "way.go:97", after := #[{ on := 12, ground := Ground.data }], guard := none }) (v := ?_) rfl (by kernel_rfl) (by kernel_rfl) (by kernel_rfl) (fun _ _ _ h => h) (Or.inl ⟨by rfl, ?_⟩) hHeld ?_
                rotate_left
                · (intro w hSw; go_simp; try with_reducible rfl)
                (try simp only [Act.put, List.setIfInBounds_toArray, List.set_cons_zero, List.set_cons_succ])
                refine wpAnyH_take (i := 14) (oi := { dst := some 36, op := Op.extract (Operand.tmp 22) 1, type := 4, pos := "way.go:97", after := #[{ on := 12, ground := Ground.data }, { on := 17, ground := Ground.gcOnly Departure.lateStores }], guard := none }) (v := ?_) rfl (by kernel_rfl) (by kernel_rfl) (by kernel_rfl) (fun _ _ _ h => h) (Or.inl ⟨by rfl, ?_⟩) hHeld ?_
                rotate_left
                · (intro w hSw; go_simp; try with_reducible rfl)
                (try simp only [Act.put, List.setIfInBounds_toArray, List.set_cons_zero, List.set_cons_succ])
                refine wpAnyH_take (i := 15) (oi := { dst := some 37, op := Op.nilCheck (Operand.tmp 23), type := 0, pos := "way.go:97", after := #[{ on := 0, ground := Ground.data }, { on := 0, ground := Ground.phase }, { on := 1, ground := Ground.phase }, { on := 2, ground := Ground.phase }, { on := 3, ground := Ground.phase }, { on := 4, ground := Ground.phase }, { on := 5, ground := Ground.phase }, { on := 6, ground := Ground.phase }, { on := 7, ground := Ground.phase }, { on := 8, ground := Ground.phase }, { on := 9, ground := Ground.phase }, { on := 10, ground := Ground.phase }, { on := 11, ground := Ground.phase }, { on := 12, ground := Ground.phase }, { on := 13, ground := Ground.phase }, { on := 14, ground := Ground.textOnly Departure.lateStores }], guard := none }) (v := ?_) rfl (by kernel_rfl) (by kernel_rfl) (by kernel_rfl) (fun _ _ _ h => h) (Or.inl ⟨by rfl, ?_⟩) hHeld ?_
                rotate_left
                · (intro w hSw; go_simp; try with_reducible rfl)
                (try simp only [Act.put, List.setIfInBounds_toArray, List.set_cons_zero, List.set_cons_succ])
                refine wpAnyH_take (i := 16) (oi := { dst := some 38, op := Op.fieldAddr 88 (Operand.tmp 37) 1, type := 0, pos := "way.go:97", after := #[{ on := 15, ground := Ground.data }, { on := 0, ground := Ground.phase }, { on := 1, ground := Ground.phase }, { on := 2, ground := Ground.phase }, { on := 3, ground := Ground.phase }, { on := 4, ground := Ground.phase }, { on := 5, ground := Ground.phase }, { on := 6, ground := Ground.phase }, { on := 7, ground := Ground.phase }, { on := 8, ground := Ground.phase }, { on := 9, ground := Ground.phase }, { on := 10, ground := Ground.phase }, { on := 11, ground := Ground.phase }, { on := 12, ground := Ground.phase }, { on := 13, ground := Ground.phase }, { on := 14, ground := Ground.textOnly Departure.lateStores }], guard := none }) (v := ?_) rfl (by kernel_rfl) (by kernel_rfl) (by kernel_rfl) (fun _ _ _ h => h) (Or.inl ⟨by rfl, ?_⟩) hHeld ?_
                rotate_left
                · (intro w hSw; go_simp; try with_reducible rfl)
                (try simp only [Act.put, List.setIfInBounds_toArray, List.set_cons_zero, List.set_cons_succ])
                refine wpAnyH_ready (rs := [17]) (by kernel_rfl) (by simp) (AllReadyH.cons (o := { dst := none, op := Op.store 35 (Operand.tmp 38) (Operand.tmp 35), type := 0, pos := "way.go:97", after := #[{ on := 16, ground := Ground.data }, { on := 13, ground := Ground.data }, { on := 11, ground := Ground.chain }, { on := 0, ground := Ground.phase }, { on := 1, ground := Ground.phase }, { on := 2, ground := Ground.phase }, { on := 3, ground := Ground.phase }, { on := 4, ground := Ground.phase }, { on := 5, ground := Ground.phase }, { on := 6, ground := Ground.phase }, { on := 7, ground := Ground.phase }, { on := 8, ground := Ground.phase }, { on := 9, ground := Ground.phase }, { on := 10, ground := Ground.phase }, { on := 11, ground := Ground.phase }, { on := 12, ground := Ground.phase }, { on := 13, ground := Ground.phase }, { on := 14, ground := Ground.textOnly Departure.lateStores }], guard := none }) rfl (fun K hK => ?_) AllReadyH.nil)
                · have p1 : v11.cell? ⟨q, 1, none⟩ = some (.string ⟨x.path.toArray⟩) := XW.out.cell (k := 1) rfl
                  have p2 : v11.cell? ⟨q, 2, none⟩ = some (.int .i64 x.kind) := XW.out.cell (k := 2) rfl
                  have p3 : v11.cell? ⟨q, 3, none⟩ = some (.string ⟨x.data.toArray⟩) := XW.out.cell (k := 3) rfl
                  have f1 := frozen_of_row v11 q 1 _ _ XW.out
                  have f2 := frozen_of_row v11 q 2 _ _ XW.out
                  have f3 := frozen_of_row v11 q 3 _ _ XW.out
                  go_simp
                  have X9 := Lib.hid (way_set3 XW.out y)
                  refine hK.out _ _ (grown_set3 hHeld _ _ _) (fun hHeld => ?_)
                  clear p1 p2 p3 f1 f2 f3 XW
                  (try simp only [Act.put])
                  refine wpAnyH_done (by kernel_rfl) ?_ _
                  have HD := Lib.hid hHeld
                  clear hHeld
                  exact ⟨Fix2.grown HD.out HQD.out HSZ.out, _, HST.out.2, y, L, k, rfl, ⟨_, X9.out, HRV.out.grown HD.out⟩, HB.out.kept HD.out (by intro e; injection e with e; exact HPN.out e), (HFK.out.kept HD.out (fun r e => by cases e; exact .inl rfl)).turn HST.out.1⟩
        · have p0 : v0.cell? ⟨q, 1, none⟩ = some (.string ⟨x.path.toArray⟩) := XW.out.cell (k := 1) rfl
          go_simp
          refine hK.out _ _ hHeld (fun hHeld => ?_)
          clear p0
          (try simp only [Act.put, List.setIfInBounds_toArray, List.set_cons_zero, List.set_cons_succ])
          refine wpAnyH_ready (rs := [4, 10]) (by kernel_rfl) (by simp) (AllReadyH.cons (o := { dst := some 27, op := Op.load 86 (Operand.tmp 26), type := 86, pos := "way.go:97", after := #[{ on := 3, ground := Ground.data }], guard := none }) rfl (fun K hK => ?_) (AllReadyH.cons (o := { dst := some 33, op := Op.call { callee := Callee.value (Operand.func 62), args := #[Operand.tmp 32], argTypes := #[9] }, type := 9, pos := "way.go:97", after := #[{ on := 9, ground := Ground.data }], guard := none }) rfl (fun K hK => ?_) AllReadyH.nil))
          · have p0 : v0.cell? ⟨q, 0, none⟩ = some (.func (.func 82) #[] #[.pointer (some ⟨g, 0, none⟩)]) := XW.out.cell (k := 0) rfl
            go_simp
            refine hK.out _ _ hHeld (fun hHeld => ?_)
            clear p0
            (try simp only [Act.put, List.setIfInBounds_toArray, List.set_cons_zero, List.set_cons_succ])
            refine wpAnyH_ready (rs := [10]) (by kernel_rfl) (by simp) (AllReadyH.cons (o := { dst := some 33, op := Op.call { callee := Callee.value (Operand.func 62), args := #[Operand.tmp 32], argTypes := #[9] }, type := 9, pos := "way.go:97", after := #[{ on := 9, ground := Ground.data }], guard := none }) rfl (fun K hK => ?_) AllReadyH.nil)
            · go_simp
              refine (up_is x.path hxl u HU.out _).mono ?_
              rintro e v10 ⟨rfl, hba⟩
              have XW := Lib.hid (XW.out.on hba)
              have HFV := Lib.hid (HFV.out.on hba)
              refine hK.out _ _ (hHeld.trans (below_grown hba _)) (fun hHeld => ?_)
              clear hba
              (try simp only [Act.put, List.setIfInBounds_toArray, List.set_cons_zero, List.set_cons_succ])
              refine wpAnyH_ready (rs := [11]) (by kernel_rfl) (by simp) (AllReadyH.cons (o := { dst := some 34, op := Op.call { callee := Callee.value (Operand.tmp 27), args := #[Operand.tmp 33], argTypes := #[9] }, type := 37, pos := "way.go:97", after := #[{ on := 4, ground := Ground.data }, { on := 10, ground := Ground.data }, { on := 10, ground := Ground.chain }], guard := none }) rfl (fun K hK => ?_) AllReadyH.nil)
              · go_simp
                refine (find_is g b l _ _ HFV.out HUS.out o HO.out).mono ?_
                rintro e v11 ⟨rfl, hba⟩
                rw [← HY.out, ← HI.out]
                unfold It.arr
                have XW := Lib.hid (XW.out.on hba)
                refine hK.out _ _ (hHeld.trans (below_grown hba _)) (fun hHeld => ?_)
                clear hba
                (try simp only [Act.put, List.setIfInBounds_toArray, List.set_cons_zero, List.set_cons_succ])
                refine wpAnyH_take (i := 12) (oi := { dst := some 22, op := Op.move (Operand.tmp 34), type := 37, pos := "way.go:97", after := #[{ on := 11, ground := Ground.data }], guard := none }) (v := ?_) rfl (by kernel_rfl) (by kernel_rfl) (by kernel_rfl) (fun _ _ _ h => h) (Or.inl ⟨by rfl, ?_⟩) hHeld ?_
                rotate_left
                · (intro w hSw; go_simp; try with_reducible rfl)
                (try simp only [Act.put, List.setIfInBounds_toArray, List.set_cons_zero, List.set_cons_succ])
                refine wpAnyH_take (i := 13) (oi := { dst := some 35, op := Op.extract (Operand.tmp 22) 0, type := 35, pos := "way.go:97", after := #[{ on := 12, ground := Ground.data }], guard := none }) (v := ?_) rfl (by kernel_rfl) (by kernel_rfl) (by kernel_rfl) (fun _ _ _ h => h) (Or.inl ⟨by rfl, ?_⟩) hHeld ?_
                rotate_left
                · (intro w hSw; go_simp; try with_reducible rfl)
                (try simp only [Act.put, List.setIfInBounds_toArray, List.set_cons_zero, List.set_cons_succ])
                refine wpAnyH_take (i := 14) (oi := { dst := some 36, op := Op.extract (Operand.tmp 22) 1, type := 4, pos := "way.go:97", after := #[{ on := 12, ground := Ground.data }, { on := 17, ground := Ground.gcOnly Departure.lateStores }], guard := none }) (v := ?_) rfl (by kernel_rfl) (by kernel_rfl) (by kernel_rfl) (fun _ _ _ h => h) (Or.inl ⟨by rfl, ?_⟩) hHeld ?_
                rotate_left
                · (intro w hSw; go_simp; try with_reducible rfl)
                (try simp only [Act.put, List.setIfInBounds_toArray, List.set_cons_zero, List.set_cons_succ])
                refine wpAnyH_take (i := 15) (oi := { dst := some 37, op := Op.nilCheck (Operand.tmp 23), type := 0, pos := "way.go:97", after := #[{ on := 0, ground := Ground.data }, { on := 0, ground := Ground.phase }, { on := 1, ground := Ground.phase }, { on := 2, ground := Ground.phase }, { on := 3, ground := Ground.phase }, { on := 4, ground := Ground.phase }, { on := 5, ground := Ground.phase }, { on := 6, ground := Ground.phase }, { on := 7, ground := Ground.phase }, { on := 8, ground := Ground.phase }, { on := 9, ground := Ground.phase }, { on := 10, ground := Ground.phase }, { on := 11, ground := Ground.phase }, { on := 12, ground := Ground.phase }, { on := 13, ground := Ground.phase }, { on := 14, ground := Ground.textOnly Departure.lateStores }], guard := none }) (v := ?_) rfl (by kernel_rfl) (by kernel_rfl) (by kernel_rfl) (fun _ _ _ h => h) (Or.inl ⟨by rfl, ?_⟩) hHeld ?_
                rotate_left
                · (intro w hSw; go_simp; try with_reducible rfl)
                (try simp only [Act.put, List.setIfInBounds_toArray, List.set_cons_zero, List.set_cons_succ])
                refine wpAnyH_take (i := 16) (oi := { dst := some 38, op := Op.fieldAddr 88 (Operand.tmp 37) 1, type := 0, pos := "way.go:97", after := #[{ on := 15, ground := Ground.data }, { on := 0, ground := Ground.phase }, { on := 1, ground := Ground.phase }, { on := 2, ground := Ground.phase }, { on := 3, ground := Ground.phase }, { on := 4, ground := Ground.phase }, { on := 5, ground := Ground.phase }, { on := 6, ground := Ground.phase }, { on := 7, ground := Ground.phase }, { on := 8, ground := Ground.phase }, { on := 9, ground := Ground.phase }, { on := 10, ground := Ground.phase }, { on := 11, ground := Ground.phase }, { on := 12, ground := Ground.phase }, { on := 13, ground := Ground.phase }, { on := 14, ground := Ground.textOnly Departure.lateStores }], guard := none }) (v := ?_) rfl (by kernel_rfl) (by kernel_rfl) (by kernel_rfl) (fun _ _ _ h => h) (Or.inl ⟨by rfl, ?_⟩) hHeld ?_
                rotate_left
                · (intro w hSw; go_simp; try with_reducible rfl)
                (try simp only [Act.put, List.setIfInBounds_toArray, List.set_cons_zero, List.set_cons_succ])
                refine wpAnyH_ready (rs := [17]) (by kernel_rfl) (by simp) (AllReadyH.cons (o := { dst := none, op := Op.store 35 (Operand.tmp 38) (Operand.tmp 35), type := 0, pos := "way.go:97", after := #[{ on := 16, ground := Ground.data }, { on := 13, ground := Ground.data }, { on := 11, ground := Ground.chain }, { on := 0, ground := Ground.phase }, { on := 1, ground := Ground.phase }, { on := 2, ground := Ground.phase }, { on := 3, ground := Ground.phase }, { on := 4, ground := Ground.phase }, { on := 5, ground := Ground.phase }, { on := 6, ground := Ground.phase }, { on := 7, ground := Ground.phase }, { on := 8, ground := Ground.phase }, { on := 9, ground := Ground.phase }, { on := 10, ground := Ground.phase }, { on := 11, ground := Ground.phase }, { on := 12, ground := Ground.phase }, { on := 13, ground := Ground.phase }, { on := 14, ground := Ground.textOnly Departure.lateStores }], guard := none }) rfl (fun K hK => ?_) AllReadyH.nil)
                · have p1 : v11.cell? ⟨q, 1, none⟩ = some (.string ⟨x.path.toArray⟩) := XW.out.cell (k := 1) rfl
                  have p2 : v11.cell? ⟨q, 2, none⟩ = some (.int .i64 x.kind) := XW.out.cell (k := 2) rfl
                  have p3 : v11.cell? ⟨q, 3, none⟩ = some (.string ⟨x.data.toArray⟩) := XW.out.cell (k := 3) rfl
                  have f1 := frozen_of_row v11 q 1 _ _ XW.out
                  have f2 := frozen_of_row v11 q 2 _ _ XW.out
                  have f3 := frozen_of_row v11 q 3 _ _ XW.out
                  go_simp
                  have X9 := Lib.hid (way_set3 XW.out y)
                  refine hK.out _ _ (grown_set3 hHeld _ _ _) (fun hHeld => ?_)
                  clear p1 p2 p3 f1 f2 f3 XW
                  (try simp only [Act.put])
                  refine wpAnyH_done (by kernel_rfl) ?_ _
                  have HD := Lib.hid hHeld
                  clear hHeld
                  exact ⟨Fix2.grown HD.out HQD.out HSZ.out, _, HST.out.2, y, L, k, rfl, ⟨_, X9.out, HRV.out.grown HD.out⟩, HB.out.kept HD.out (by intro e; injection e with e; exact HPN.out e), (HFK.out.kept HD.out (fun r e => by cases e; exact .inl rfl)).turn HST.out.1⟩
          · go_simp
            refine (up_is x.path hxl u HU.out _).mono ?_
            rintro e v10 ⟨rfl, hba⟩
            have XW := Lib.hid (XW.out.on hba)
            have HFV := Lib.hid (HFV.out.on hba)
            refine hK.out _ _ (hHeld.trans (below_grown hba _)) (fun hHeld => ?_)
            clear hba
            (try simp only [Act.put, List.setIfInBounds_toArray, List.set_cons_zero, List.set_cons_succ])
            refine wpAnyH_ready (rs := [4]) (by kernel_rfl) (by simp) (AllReadyH.cons (o := { dst := some 27, op := Op.load 86 (Operand.tmp 26), type := 86, pos := "way.go:97", after := #[{ on := 3, ground := Ground.data }], guard := none }) rfl (fun K hK => ?_) AllReadyH.nil)
            · have p0 : v10.cell? ⟨q, 0, none⟩ = some (.func (.func 82) #[] #[.pointer (some ⟨g, 0, none⟩)]) := XW.out.cell (k := 0) rfl
              go_simp
              refine hK.out _ _ hHeld (fun hHeld => ?_)
              clear p0
              (try simp only [Act.put, List.setIfInBounds_toArray, List.set_cons_zero, List.set_cons_succ])
              refine wpAnyH_ready (rs := [11]) (by kernel_rfl) (by simp) (AllReadyH.cons (o := { dst := some 34, op := Op.call { callee := Callee.value (Operand.tmp 27), args := #[Operand.tmp 33], argTypes := #[9] }, type := 37, pos := "way.go:97", after := #[{ on := 4, ground := Ground.data }, { on := 10, ground := Ground.data }, { on := 10, ground := Ground.chain }], guard := none }) rfl (fun K hK => ?_) AllReadyH.nil)
              · go_simp
                refine (find_is g b l _ _ HFV.out HUS.out o HO.out).mono ?_
                rintro e v11 ⟨rfl, hba⟩
                rw [← HY.out, ← HI.out]
                unfold It.arr
                have XW := Lib.hid (XW.out.on hba)
                refine hK.out _ _ (hHeld.trans (below_grown hba _)) (fun hHeld => ?_)
                clear hba
                (try simp only [Act.put, List.setIfInBounds_toArray, List.set_cons_zero, List.set_cons_succ])
                refine wpAnyH_take (i := 12) (oi := { dst := some 22, op := Op.move (Operand.tmp 34), type := 37, pos := "way.go:97", after := #[{ on := 11, ground := Ground.data }], guard := none }) (v := ?_) rfl (by kernel_rfl) (by kernel_rfl) (by kernel_rfl) (fun _ _ _ h => h) (Or.inl ⟨by rfl, ?_⟩) hHeld ?_
                rotate_left
                · (intro w hSw; go_simp; try with_reducible rfl)
                (try simp only [Act.put, List.setIfInBounds_toArray, List.set_cons_zero, List.set_cons_succ])
                refine wpAnyH_take (i := 13) (oi := { dst := some 35, op := Op.extract (Operand.tmp 22) 0, type := 35, pos := "way.go:97", after := #[{ on := 12, ground := Ground.data }], guard := none }) (v := ?_) rfl (by kernel_rfl) (by kernel_rfl) (by kernel_rfl) (fun _ _ _ h => h) (Or.inl ⟨by rfl, ?_⟩) hHeld ?_
                rotate_left
                · (intro w hSw; go_simp; try with_reducible rfl)
                (try simp only [Act.put, List.setIfInBounds_toArray, List.set_cons_zero, List.set_cons_succ])
                refine wpAnyH_take (i := 14) (oi := { dst := some 36, op := Op.extract (Operand.tmp 22) 1, type := 4, pos := "way.go:97", after := #[{ on := 12, ground := Ground.data }, { on := 17, ground := Ground.gcOnly Departure.lateStores }], guard := none }) (v := ?_) rfl (by kernel_rfl) (by kernel_rfl) (by kernel_rfl) (fun _ _ _ h => h) (Or.inl ⟨by rfl, ?_⟩) hHeld ?_
                rotate_left
                · (intro w hSw; go_simp; try with_reducible rfl)
                (try simp only [Act.put, List.setIfInBounds_toArray, List.set_cons_zero, List.set_cons_succ])
                refine wpAnyH_take (i := 15) (oi := { dst := some 37, op := Op.nilCheck (Operand.tmp 23), type := 0, pos := "way.go:97", after := #[{ on := 0, ground := Ground.data }, { on := 0, ground := Ground.phase }, { on := 1, ground := Ground.phase }, { on := 2, ground := Ground.phase }, { on := 3, ground := Ground.phase }, { on := 4, ground := Ground.phase }, { on := 5, ground := Ground.phase }, { on := 6, ground := Ground.phase }, { on := 7, ground := Ground.phase }, { on := 8, ground := Ground.phase }, { on := 9, ground := Ground.phase }, { on := 10, ground := Ground.phase }, { on := 11, ground := Ground.phase }, { on := 12, ground := Ground.phase }, { on := 13, ground := Ground.phase }, { on := 14, ground := Ground.textOnly Departure.lateStores }], guard := none }) (v := ?_) rfl (by kernel_rfl) (by kernel_rfl) (by kernel_rfl) (fun _ _ _ h => h) (Or.inl ⟨by rfl, ?_⟩) hHeld ?_
                rotate_left
                · (intro w hSw; go_simp; try with_reducible rfl)
                (try simp only [Act.put, List.setIfInBounds_toArray, List.set_cons_zero, List.set_cons_succ])
                refine wpAnyH_take (i := 16) (oi := { dst := some 38, op := Op.fieldAddr 88 (Operand.tmp 37) 1, type := 0, pos := "way.go:97", after := #[{ on := 15, ground := Ground.data }, { on := 0, ground := Ground.phase }, { on := 1, ground := Ground.phase }, { on := 2, ground := Ground.phase }, { on := 3, ground := Ground.phase }, { on := 4, ground := Ground.phase }, { on := 5, ground := Ground.phase }, { on := 6, ground := Ground.phase }, { on := 7, ground := Ground.phase }, { on := 8, ground := Ground.phase }, { on := 9, ground := Ground.phase }, { on := 10, ground := Ground.phase }, { on := 11, ground := Ground.phase }, { on := 12, ground := Ground.phase }, { on := 13, ground := Ground.phase }, { on := 14, ground := Ground.textOnly Departure.lateStores }], guard := none }) (v := ?_) rfl (by kernel_rfl) (by kernel_rfl) (by kernel_rfl) (fun _ _ _ h => h) (Or.inl ⟨by rfl, ?_⟩) hHeld ?_
                rotate_left
                · (intro w hSw; go_simp; try with_reducible rfl)
                (try simp only [Act.put, List.setIfInBounds_toArray, List.set_cons_zero, List.set_cons_succ])
                refine wpAnyH_ready (rs := [17]) (by kernel_rfl) (by simp) (AllReadyH.cons (o := { dst := none, op := Op.store 35 (Operand.tmp 38) (Operand.tmp 35), type := 0, pos := "way.go:97", after := #[{ on := 16, ground := Ground.data }, { on := 13, ground := Ground.data }, { on := 11, ground := Ground.chain }, { on := 0, ground := Ground.phase }, { on := 1, ground := Ground.phase }, { on := 2, ground := Ground.phase }, { on := 3, ground := Ground.phase }, { on := 4, ground := Ground.phase }, { on := 5, ground := Ground.phase }, { on := 6, ground := Ground.phase }, { on := 7, ground := Ground.phase }, { on := 8, ground := Ground.phase }, { on := 9, ground := Ground.phase }, { on := 10, ground := Ground.phase }, { on := 11, ground := Ground.phase }, { on := 12, ground := Ground.phase }, { on := 13, ground := Ground.phase }, { on := 14, ground := Ground.textOnly Departure.lateStores }], guard := none }) rfl (fun K hK => ?_) AllReadyH.nil)
                · have p1 : v11.cell? ⟨q, 1, none⟩ = some (.string ⟨x.path.toArray⟩) := XW.out.cell (k := 1) rfl
                  have p2 : v11.cell? ⟨q, 2, none⟩ = some (.int .i64 x.kind) := XW.out.cell (k := 2) rfl
                  have p3 : v11.cell? ⟨q, 3, none⟩ = some (.string ⟨x.data.toArray⟩) := XW.out.cell (k := 3) rfl
                  have f1 := frozen_of_row v11 q 1 _ _ XW.out
                  have f2 := frozen_of_row v11 q 2 _ _ XW.out
                  have f3 := frozen_of_row v11 q 3 _ _ XW.out
                  go_simp
                  have X9 := Lib.hid (way_set3 XW.out y)
                  refine hK.out _ _ (grown_set3 hHeld _ _ _) (fun hHeld => ?_)
                  clear p1 p2 p3 f1 f2 f3 XW
                  (try simp only [Act.put])
                  refine wpAnyH_done (by kernel_rfl) ?_ _
                  have HD := Lib.hid hHeld
                  clear hHeld
                  exact ⟨Fix2.grown HD.out HQD.out HSZ.out, _, HST.out.2, y, L, k, rfl, ⟨_, X9.out, HRV.out.grown HD.out⟩, HB.out.kept HD.out (by intro e; injection e with e; exact HPN.out e), (HFK.out.kept HD.out (fun r e => by cases e; exact .inl rfl)).turn HST.out.1⟩
      · have e3 := beq_no hx3
        have HSM := Lib.hid (stepM_on (l := l) (last := last) (here := x) (rest := L) (hops := k) n1 n2 hx3)
        have hxl : x.path.length ≤ 1000000 := by have := valid_len _ (HFK.out.plain.stand.here.valid hok); omega
        have hpl : part.length ≤ 1000000 := by have := HFK.out.plain.short part (by simp); omega
        have hLl : L.length ≤ 1000000 := by have := HFK.out.plain.few; simp at this; omega
        have HST : Hid (Calls Tryd.prog 107 #[.pointer (some ⟨q, 0, none⟩), .string ⟨part.toArray⟩, .bool last] X (StepR q (fnd g) (stepD l last x part L k) X)) := Lib.hid (step_any q g b l hok last x part L k X HFK.out.finds HW.out HFK.out.tabs hxl hpl hLl HFK.out.side.sq.1 HFK.out.plain.stand.hops)
        obtain ⟨sr, hsr⟩ : ∃ z, z = stepD l last x part L k := ⟨_, rfl⟩
        rw [← hsr] at HST HSM
        clear hx0 n1 n2 hx3 hxl hpl hLl hsr f5
        gi_wp2_with (refine ⟨trivial, ?_⟩; gi_at_call 107; fail)
        refine ⟨trivial, (CallsIn.inRound lr (callsIn_wide.2 HST.out)).mono ?_⟩
        rintro e w1 ⟨hg1, hr1⟩
        have HF1 := Lib.hid (HFK.out.kept hg1 (fun r e => by cases e; exact .inl rfl))
        have HG1 := Lib.hid hg1
        have c5 : w1.cell? ⟨b5, 0, none⟩ = some (.int .i64 0) := HF1.out.k5.cell (k := 0) rfl
        have f5 := frozen_of_row w1 b5 0 _ _ HF1.out.k5
        clear hg1 c2 c3
        cases sr with
        | error z =>
          obtain ⟨rfl, hz⟩ := hr1
          have t1 : (z == 0) = false := by simp [hz]
          have t2 : (z != 0) = true := by simp [hz]
          have HZ := Lib.hid hz
          have HRR := Lib.hid (HFK.out.plain.err HSM.out)
          clear hz
          have X5 : Hid (Box (w1.setCell ⟨b5, 0, none⟩ (.int .i64 z)) b5 29 #[.int .i64 z]) := Lib.hid (HF1.out.k5.set (k := 0) _)
          have HGB : Hid (w.grownBy (w1.setCell ⟨b5, 0, none⟩ (.int .i64 z)) (some q)) := Lib.hid (HF1.out.from0.andThen (grownBy_setCell' _ _ _) (fun j e => by cases e; exact .inl HF5.out))
          have HFX : Hid (Fix2 D X (w1.setCell ⟨b5, 0, none⟩ (.int .i64 z))) := Lib.hid ((Fix2.grown HG1.out HQD.out HSZ.out).set HB5D.out)
          gi_wp2
          exact ⟨rfl, HFX.out, z, HRR.out, HZ.out, X5.out, HGB.out⟩
        | ok r =>
          obtain ⟨rfl, hW1⟩ := hr1
          obtain ⟨y2, L2, k2⟩ := r
          have HW1 := Lib.hid hW1
          have HST2 := Lib.hid (HFK.out.plain.step hok HSM.out)
          clear hW1
          have HFX : Hid (Fix2 D X (w1.setCell ⟨b5, 0, none⟩ (.int .i64 0))) := Lib.hid ((Fix2.grown HG1.out HQD.out HSZ.out).set HB5D.out)
          have HF2 : Hid (FK l q g b b2 b3 b5 D last w R y2 L2 k2 (w1.setCell ⟨b5, 0, none⟩ (.int .i64 0))) := Lib.hid (by
            rw [set_same HF1.out.k5]; exact HF1.out.turn HST2.out.1)
          have HW2 : Hid (WayW (w1.setCell ⟨b5, 0, none⟩ (.int .i64 0)) q (fnd g) y2 L2 k2) := Lib.hid (by rw [set_same HF1.out.k5]; exact HW1.out)
          have HB2 : Hid (Box (w1.setCell ⟨b5, 0, none⟩ (.int .i64 0)) pb 140 #[.pointer (some ⟨q, 0, none⟩)]) := Lib.hid (by rw [set_same HF1.out.k5]; exact HB.out.kept HG1.out (by intro e; injection e with e; exact HPN.out e))
          gi_wp2
          exact ⟨HFX.out, _, HST2.out.2, y2, L2, k2, rfl, HW2.out, HB2.out, HF2.out⟩
  case done =>
    intro x k X hW hFK hdef
    have c5 : X.cell? ⟨b5, 0, none⟩ = some (.int .i64 0) := hFK.k5.cell (k := 0) rfl
    have HR := Lib.hid hFK.plain.ends
    have HG : Hid (w.grownBy (X.putObj D (.deferred none)) (some q)) := Lib.hid (hFK.from0.andThen (grownBy_putObj' _ _ _) (fun j e => by cases e; exact .inl hFK.side.s0))
    have HW2 : Hid (WayW (X.putObj D (.deferred none)) q (fnd g) x [] k) := Lib.hid (hW.put hdef rfl _)
    clear hfk hFK hW hw2W xp
    gi_wp2
    refine ⟨by simp, .inl ⟨_, _, rfl, run_takeDeferred hdef, ?_⟩⟩
    exact ⟨_, results_tmp rfl _ _ _, HG.out, by rw [HR.out]; exact ⟨rfl, HW2.out⟩⟩
  case stop =>
    intro X hX hdef
    obtain ⟨z, hR, hz, hb5, hg0⟩ := hX
    have c5 : X.cell? ⟨b5, 0, none⟩ = some (.int .i64 z) := hb5.cell (k := 0) rfl
    have HR := Lib.hid hR
    have HZ := Lib.hid hz
    have HG : Hid (w.grownBy (X.putObj D (.deferred none)) (some q)) := Lib.hid (hg0.andThen (grownBy_putObj' _ _ _) (fun j e => by cases e; exact .inl hfk.side.s0))
    clear hfk hR hz hb5 hg0 hw2W xp
    gi_wp2
    refine ⟨by simp, .inl ⟨_, _, rfl, run_takeDeferred hdef, ?_⟩⟩
    exact ⟨_, results_tmp rfl _ _ _, HG.out, by rw [HR.out]; exact ⟨rfl, HZ.out⟩⟩
end Go.Proofs.YtiakedoebecgpaaDoor
