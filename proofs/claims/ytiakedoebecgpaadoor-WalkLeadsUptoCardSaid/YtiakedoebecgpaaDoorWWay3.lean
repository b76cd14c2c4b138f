/- Proved here: over and step of package walk: a part that leads on. -/
import Derived.Test.YtiakedoebecgpaaDoorWWay2
namespace Go.Proofs.YtiakedoebecgpaaDoor
open Go.RowKit Go.Shelf

def OverR (q : Nat) (fv : Value) (y : It) (L : List Str) (n : Nat) (w : World) (e : Ending) (w' : World) : Prop :=
  (n = 40 ∧ e = .returned (.int .i64 170) ∧ w = w') ∨ (n ≠ 40 ∧ e = .returned (.int .i64 0) ∧ WayW w' q fv y L (n + 1) ∧ w.grownBy w' (some q))

set_option maxRecDepth 100000 in
set_option maxHeartbeats 2000000 in
theorem over_any (q : Nat) (fv : Value) (x : It) (restL : List Str) (n : Nat) (s : ByteArray) (w : World) (hW : WayW w q fv x restL n) (hT : Tabs w) (hs : s.size ≤ 2000) (hl : restL.length ≤ 1000000) (hq : 6 ≤ q) (hn : n ≤ 40) :
    Calls Tryd.prog 126 #[.pointer (some ⟨q, 0, none⟩), .string s] w (OverR q fv (if s.data.toList.head? = some 47 then .root else x) (cutP s.data.toList ++ restL) n w) := by
  obtain ⟨rv, X, hR⟩ := hW
  obtain ⟨y, hy⟩ : ∃ y, y = if s.data.toList.head? = some 47 then It.root else x := ⟨_, rfl⟩
  rw [← hy]
  have HY := Lib.hid hy
  have HX := Lib.hid X
  have HR := Lib.hid hR
  have HT := Lib.hid hT
  have p5 : w.cell? ⟨q, 5, none⟩ = some (.int .i64 (n : Int)) := X.cell (k := 5) rfl
  have f5 := frozen_of_row w q 5 _ _ X
  clear hy X hR hT
  by_cases h40 : n = 40
  · subst h40
    go_enter Tryd.func126, Tryd.ntmps126
    go_wp2_with fail
    go_ret
    exact .inl ⟨rfl, rfl, rfl⟩
  · have t1 : ((n : Int) == 40) = false := by rw [beq_eq_false_iff_ne]; omega
    have k1 : IntKind.i64.wrap ((n : Int) + 1) = (n : Int) + 1 := IntWalk.i64_in _ (by omega)
    have H40 := Lib.hid h40
    clear h40
    obtain ⟨w1, hw1⟩ : ∃ z, z = w.setCell ⟨q, 5, none⟩ (.int .i64 ((n : Int) + 1)) := ⟨_, rfl⟩
    have HG : Hid (w.grownBy w1 (some q)) := Lib.hid (by rw [hw1]; exact grown_set (World.grownBy.refl _ _) 5 _)
    have X1 : Box w1 q 88 (wayA fv x rv (n + 1)) := by rw [hw1]; exact HX.out.set (k := 5) (.int .i64 ((n : Int) + 1))
    have HA : Hid (Calls Tryd.prog 84 #[.pointer (some ⟨q, 0, none⟩), .string s] w1 (AheadR q fv y (cutP s.data.toList ++ restL) (n + 1) w)) := Lib.hid (by
      rw [HY.out]
      exact ahead_gen q fv x restL (n + 1) s w w1 HG.out HX.out.lt ⟨rv, X1, HR.out.grown HG.out⟩ (HT.out.grown hq HG.out) hs hl hq)
    clear X1
    go_enter Tryd.func126, Tryd.ntmps126
    go_upto_region 4 with fail
    rw [← hw1]
    clear hw1 p5 f5
    go_wp2_with fail
    refine HA.out.mono ?_
    rintro e w2 ⟨rfl, hW2, hg2⟩
    go_wp2_with fail
    go_ret
    exact .inr ⟨H40.out, rfl, hW2, hg2⟩

theorem trimS_eq (p : Str) : Lib.trimSuffix p [47] = trimS p := by
  unfold Lib.trimSuffix Lib.hasSuffix trimS
  by_cases h : p.getLast? = some 47
  · obtain ⟨a, rfl⟩ := List.getLast?_eq_some_iff.1 h
    rw [if_pos h, if_pos (List.isSuffixOf_iff_suffix.2 ⟨a, rfl⟩)]
    simp
  · rw [if_neg h, if_neg]
    intro k
    obtain ⟨a, ha⟩ := List.isSuffixOf_iff_suffix.1 k
    exact h (by rw [← ha]; simp)
theorem trims_is (p : Str) (hp : p.length ≤ 1000000) (w : World) : Calls Tryd.prog 125 #[.string ⟨p.toArray⟩, .string ⟨#[47]⟩] w fun e w' => e = .returned (.string ⟨(trimS p).toArray⟩) ∧ w = w' := by
  refine (Tryd.strings_TrimSuffix ⟨p.toArray⟩ ⟨#[47]⟩ w (by show p.length ≤ _; omega)).mono fun e w' ⟨he, hw⟩ => ⟨?_, hw.symm⟩
  rw [he, ← trimS_eq]
theorem wp_store_if {P : Program} {op : Oper} {a : Act} {w : World} {K : Act → World → Prop} {Q : Exit → Act → World → Prop} {ops : Array Oper} (hw : Region.wanted op (yielded ops a.tmps) = true) (ty : TypeId) (x y : Operand) (ho : op.op = .store ty x y)
    (g t : Nat) (old cells : Array Value) (hx : a.eval x = .pointer (some ⟨g, 0, none⟩)) (hy : a.eval y = .agg cells) (hg : Box w g t old) (hi : (P.info? ty).map (·.size) = some cells.size) (hsz : old.size = cells.size) (h1 : cells.all (·.oneCell') = true)
    (h : K (a.put op.dst undef) (w.setRow g cells)) : if Region.wanted op (yielded ops a.tmps) = true then op.wp P a w K Q else K (a.put op.dst undef) w := by
  rw [if_pos hw]
  exact Go.wp_store_row ty x y ho g cells hx hy t old hg hi hsz h1 h
def stepO (last : Bool) (here : It) (rest : List Str) (hops : Nat) : Option It → Except Int (It × List Str × Nat)
  | none => .error 4
  | some x =>
    if x.kind = 2 ∧ rest ≠ [] then .error 161
    else if x.kind = 3 ∧ (rest ≠ [] ∨ last = true) then (if hops = 40 then .error 170 else .ok (if x.data.head? = some 47 then .root else here, cutP x.data ++ rest, hops + 1))
    else .ok (x, rest, hops)
/-- A step that leads on. -/
def stepD (l : List It) (last : Bool) (here : It) (part : Str) (rest : List Str) (hops : Nat) : Except Int (It × List Str × Nat) := stepO last here rest hops (getI l (toL here.path part))
theorem stepM_on {l : List It} {last : Bool} {here : It} {part : Str} {rest : List Str} {hops : Nat} (h1 : part ≠ []) (h2 : part ≠ [46]) (h3 : part ≠ [46, 46]) : stepM l last here part rest hops = stepD l last here part rest hops := by
  unfold stepM stepD
  rw [if_neg (by simp [h1, h2]), if_neg h3]
  cases getI l (toL here.path part) <;> rfl
def StepR (q : Nat) (fv : Value) (r : Except Int (It × List Str × Nat)) (w : World) (e : Ending) (w' : World) : Prop :=
  w.grownBy w' (some q) ∧ match r with
    | .error z => e = .returned (.int .i64 z) ∧ z ≠ 0
    | .ok k => e = .returned (.int .i64 0) ∧ WayW w' q fv k.1 k.2.1 k.2.2

set_option maxRecDepth 100000 in
set_option maxHeartbeats 16000000 in
theorem step_any (q g b : Nat) (l : List It) (hok : TreeOk l) (last : Bool) (x : It) (part : Str) (restL : List Str) (n : Nat) (w : World) (hF : Finds w g b l) (hW : WayW w q (fnd g) x restL n) (hT : Tabs w) (hx : x.path.length ≤ 1000000) (hp : part.length ≤ 1000000) (hl : restL.length ≤ 1000000) (hq : 6 ≤ q) (hn : n ≤ 40) :
    Calls Tryd.prog 107 #[.pointer (some ⟨q, 0, none⟩), .string ⟨part.toArray⟩, .bool last] w (StepR q (fnd g) (stepD l last x part restL n) w) := by
  obtain ⟨rv, X, hR⟩ := hW
  obtain ⟨o, ho⟩ : ∃ o, getM l (toL x.path part) = o := ⟨_, rfl⟩
  have HOI : Hid (getI l (toL x.path part) = o) := Lib.hid (by rw [← getM_tree hok]; exact ho)
  have hd2 : ((⟨(trimS x.path).toArray⟩ : ByteArray) ++ ⟨#[47]⟩ ++ ⟨part.toArray⟩).data.toList = toL x.path part := by
    rw [ByteArray.data_append, ByteArray.data_append, Array.toList_append, Array.toList_append]
    unfold toL
    simp
  have htl : (trimS x.path).length ≤ x.path.length := by
    unfold trimS
    split
    · rw [List.length_dropLast]; omega
    · exact Nat.le_refl _
  have hz2 : ((⟨(trimS x.path).toArray⟩ : ByteArray) ++ ⟨#[47]⟩ ++ ⟨part.toArray⟩).size = (trimS x.path).length + 1 + part.length := by rw [ByteArray.size_append, ByteArray.size_append]; rfl
  have HPS : Hid (((⟨(trimS x.path).toArray⟩ : ByteArray) ++ ⟨#[47]⟩ ++ ⟨part.toArray⟩).size ≤ 140737488355328) := Lib.hid (by omega)
  have HO : Hid (getM l ((⟨(trimS x.path).toArray⟩ : ByteArray) ++ ⟨#[47]⟩ ++ ⟨part.toArray⟩).data.toList = o) := Lib.hid (by rw [hd2]; exact ho)
  have hs1 : ¬ 9223372036854775807 < (trimS x.path).length + 1 := by omega
  have hs2 : ¬ 9223372036854775807 < (trimS x.path).length + 1 + part.length := by omega
  obtain ⟨y, hy⟩ : ∃ y, y = o.getD .nil := ⟨_, rfl⟩
  obtain ⟨is, his⟩ : ∃ q, q = o.isSome := ⟨_, rfl⟩
  have HY := Lib.hid hy
  have HI := Lib.hid his
  have HR := Lib.hid hR
  have HT := Lib.hid hT
  obtain ⟨v0, hv0⟩ : ∃ z, z = World.drew w := ⟨_, rfl⟩
  obtain ⟨vs, hvs⟩ : ∃ z, z = World.drew w := ⟨_, rfl⟩
  have XV : Hid (Box vs q 88 (wayA (fnd g) x rv n)) := Lib.hid (by rw [hvs]; exact X.drew)
  have HFI : Hid (Finds vs g b l) := Lib.hid (by rw [hvs]; exact ⟨hF.box.drew, hF.map.drew⟩)
  have HRV : Hid (RdT vs q rv restL) := Lib.hid (by rw [hvs]; exact hR.grown (grown_drew (World.grownBy.refl _ _)))
  have HTV : Hid (Tabs vs) := Lib.hid (by rw [hvs]; exact hT.grown hq (grown_drew (World.grownBy.refl _ _)))
  have HG0 : Hid (w.grownBy vs (some q)) := Lib.hid (by rw [hvs]; exact grown_drew (World.grownBy.refl _ _))
  clear hd2 htl hz2 ho hy his hR hT hF X
  go_enter Tryd.func107, Tryd.ntmps107
  go_upto_region 1 with fail
  go_cut [7, 8] (fun p7 p8 wx => ∃ b7, p7 = .pointer (some ⟨b7, 0, none⟩) ∧ p8 = .bool is ∧ Hid (Box wx b7 35 y.arr) ∧ Hid (Below vs.heap.size vs wx))
  case first =>
    rename_i J2 K2 hJ hK2
    refine wp_region_held_drew (S := fun w' => Below vs.heap.size vs w') (by kernel_rfl) (by rw [hvs]; exact Below.refl _ _) (fun hHeld => ?_)
    rw [← hv0] at hHeld ⊢
    clear hv0 hvs
    refine wpAnyH_take (i := 0) (oi := { dst := some 11, op := Op.move (Operand.tmp 0), type := 140, pos := "way.go:109", after := #[], guard := none }) (v := ?_) rfl (by kernel_rfl) (by kernel_rfl) (by kernel_rfl) (fun _ _ _ h => h) (Or.inl ⟨by rfl, ?_⟩) hHeld ?_
    rotate_left
    · (intro w hSw; go_simp; try with_reducible rfl)
    (try simp only [Act.put, List.setIfInBounds_toArray, List.set_cons_zero, List.set_cons_succ])
    refine wpAnyH_take (i := 1) (oi := { dst := some 12, op := Op.nilCheck (Operand.tmp 11), type := 0, pos := "way.go:109", after := #[{ on := 0, ground := Ground.data }], guard := none }) (v := ?_) rfl (by kernel_rfl) (by kernel_rfl) (by kernel_rfl) (fun _ _ _ h => h) (Or.inl ⟨by rfl, ?_⟩) hHeld ?_
    rotate_left
    · (intro w hSw; go_simp; try with_reducible rfl)
    (try simp only [Act.put, List.setIfInBounds_toArray, List.set_cons_zero, List.set_cons_succ])
    refine wpAnyH_take (i := 2) (oi := { dst := some 13, op := Op.fieldAddr 88 (Operand.tmp 12) 0, type := 0, pos := "way.go:109", after := #[{ on := 1, ground := Ground.data }], guard := none }) (v := ?_) rfl (by kernel_rfl) (by kernel_rfl) (by kernel_rfl) (fun _ _ _ h => h) (Or.inl ⟨by rfl, ?_⟩) hHeld ?_
    rotate_left
    · (intro w hSw; go_simp; try with_reducible rfl)
    (try simp only [Act.put, List.setIfInBounds_toArray, List.set_cons_zero, List.set_cons_succ])
    refine wpAnyH_take (i := 3) (oi := { dst := some 14, op := Op.load 86 (Operand.tmp 13), type := 86, pos := "way.go:109", after := #[{ on := 2, ground := Ground.data }], guard := none }) (v := ?_) rfl (by kernel_rfl) (by kernel_rfl) (by kernel_rfl) (fun _ _ _ h => h) (Or.inl ⟨by rfl, ?_⟩) hHeld ?_
    rotate_left
    · (intro w hSw; have p0 : w.cell? ⟨q, 0, none⟩ = some (.func (.func 82) #[] #[.pointer (some ⟨g, 0, none⟩)]) := (XV.out.on hSw).cell (k := 0) rfl; go_simp; try with_reducible rfl)
    (try simp only [Act.put, List.setIfInBounds_toArray, List.set_cons_zero, List.set_cons_succ])
    refine wpAnyH_take (i := 4) (oi := { dst := some 15, op := Op.move (Operand.tmp 0), type := 140, pos := "way.go:109", after := #[], guard := none }) (v := ?_) rfl (by kernel_rfl) (by kernel_rfl) (by kernel_rfl) (fun _ _ _ h => h) (Or.inl ⟨by rfl, ?_⟩) hHeld ?_
    rotate_left
    · (intro w hSw; go_simp; try with_reducible rfl)
    (try simp only [Act.put, List.setIfInBounds_toArray, List.set_cons_zero, List.set_cons_succ])
    refine wpAnyH_take (i := 5) (oi := { dst := some 16, op := Op.nilCheck (Operand.tmp 15), type := 0, pos := "way.go:109", after := #[{ on := 4, ground := Ground.data }], guard := none }) (v := ?_) rfl (by kernel_rfl) (by kernel_rfl) (by kernel_rfl) (fun _ _ _ h => h) (Or.inl ⟨by rfl, ?_⟩) hHeld ?_
    rotate_left
    · (intro w hSw; go_simp; try with_reducible rfl)
    (try simp only [Act.put, List.setIfInBounds_toArray, List.set_cons_zero, List.set_cons_succ])
    refine wpAnyH_take (i := 6) (oi := { dst := some 17, op := Op.fieldAddr 88 (Operand.tmp 16) 1, type := 0, pos := "way.go:109", after := #[{ on := 5, ground := Ground.data }], guard := none }) (v := ?_) rfl (by kernel_rfl) (by kernel_rfl) (by kernel_rfl) (fun _ _ _ h => h) (Or.inl ⟨by rfl, ?_⟩) hHeld ?_
    rotate_left
    · (intro w hSw; go_simp; try with_reducible rfl)
    (try simp only [Act.put, List.setIfInBounds_toArray, List.set_cons_zero, List.set_cons_succ])
    refine wpAnyH_take (i := 7) (oi := { dst := some 18, op := Op.fieldAddr 35 (Operand.tmp 17) 0, type := 0, pos := "way.go:109", after := #[{ on := 6, ground := Ground.data }], guard := none }) (v := ?_) rfl (by kernel_rfl) (by kernel_rfl) (by kernel_rfl) (fun _ _ _ h => h) (Or.inl ⟨by rfl, ?_⟩) hHeld ?_
    rotate_left
    · (intro w hSw; go_simp; try with_reducible rfl)
    (try simp only [Act.put, List.setIfInBounds_toArray, List.set_cons_zero, List.set_cons_succ])
    refine wpAnyH_take (i := 8) (oi := { dst := some 19, op := Op.load 9 (Operand.tmp 18), type := 9, pos := "way.go:109", after := #[{ on := 7, ground := Ground.data }], guard := none }) (v := ?_) rfl (by kernel_rfl) (by kernel_rfl) (by kernel_rfl) (fun _ _ _ h => h) (Or.inl ⟨by rfl, ?_⟩) hHeld ?_
    rotate_left
    · (intro w hSw; have p0 : w.cell? ⟨q, 1, none⟩ = some (.string ⟨x.path.toArray⟩) := (XV.out.on hSw).cell (k := 1) rfl; go_simp; try with_reducible rfl)
    (try simp only [Act.put, List.setIfInBounds_toArray, List.set_cons_zero, List.set_cons_succ])
    refine wpAnyH_take (i := 11) (oi := { dst := some 22, op := Op.move (Operand.tmp 1), type := 9, pos := "way.go:109", after := #[], guard := none }) (v := ?_) rfl (by kernel_rfl) (by kernel_rfl) (by kernel_rfl) (fun _ _ _ h => h) (Or.inl ⟨by rfl, ?_⟩) hHeld ?_
    rotate_left
    · (intro w hSw; go_simp; try with_reducible rfl)
    (try simp only [Act.put, List.setIfInBounds_toArray, List.set_cons_zero, List.set_cons_succ])
    refine wpAnyH_ready (rs := [9, 17]) (by kernel_rfl) (by simp) (AllReadyH.cons (o := { dst := some 20, op := Op.call { callee := Callee.value (Operand.func 125), args := #[Operand.tmp 19, Operand.const (Value.string { data := #[47] })], argTypes := #[9, 9] }, type := 9, pos := "way.go:109", after := #[{ on := 8, ground := Ground.data }], guard := none }) rfl (fun K hK => ?_) (AllReadyH.cons (o := { dst := some 7, op := Op.alloc 35, type := 0, pos := "way.go:109", after := #[], guard := none }) rfl (fun K hK => ?_) AllReadyH.nil))
    · go_simp
      refine (trims_is x.path hx _).mono ?_
      rintro e wz ⟨rfl, rfl⟩
      refine hK.out _ _ hHeld (fun hHeld => ?_)
      (try simp only [Act.put, List.setIfInBounds_toArray, List.set_cons_zero, List.set_cons_succ])
      refine wpAnyH_take (i := 10) (oi := { dst := some 21, op := Op.binOp BinOp.add 9 (Operand.tmp 20) (Operand.const (Value.string { data := #[47] })) 9, type := 9, pos := "way.go:109", after := #[{ on := 9, ground := Ground.data }], guard := none }) (v := ?_) rfl (by kernel_rfl) (by kernel_rfl) (by kernel_rfl) (fun _ _ _ h => h) (Or.inl ⟨by rfl, ?_⟩) hHeld ?_
      rotate_left
      · (intro w hSw; go_simp; try with_reducible rfl)
      (try simp only [Act.put, List.setIfInBounds_toArray, List.set_cons_zero, List.set_cons_succ])
      refine wpAnyH_take (i := 12) (oi := { dst := some 23, op := Op.binOp BinOp.add 9 (Operand.tmp 21) (Operand.tmp 22) 9, type := 9, pos := "way.go:109", after := #[{ on := 10, ground := Ground.data }, { on := 11, ground := Ground.data }], guard := none }) (v := ?_) rfl (by kernel_rfl) (by kernel_rfl) (by kernel_rfl) (fun _ _ _ h => h) (Or.inl ⟨by rfl, ?_⟩) hHeld ?_
      rotate_left
      · (intro w hSw; go_simp; try with_reducible rfl)
      (try simp only [Act.put, List.setIfInBounds_toArray, List.set_cons_zero, List.set_cons_succ])
      refine wpAnyH_ready (rs := [13, 17]) (by kernel_rfl) (by simp) (AllReadyH.cons (o := { dst := some 24, op := Op.call { callee := Callee.value (Operand.tmp 14), args := #[Operand.tmp 23], argTypes := #[9] }, type := 37, pos := "way.go:109", after := #[{ on := 3, ground := Ground.data }, { on := 12, ground := Ground.data }, { on := 9, ground := Ground.chain }], guard := none }) rfl (fun K hK => ?_) (AllReadyH.cons (o := { dst := some 7, op := Op.alloc 35, type := 0, pos := "way.go:109", after := #[], guard := none }) rfl (fun K hK => ?_) AllReadyH.nil))
      · go_simp
        refine (find_is g b l _ _ (HFI.out.on hHeld) HPS.out o HO.out).mono ?_
        rintro e v13 ⟨rfl, hba⟩
        rw [← HY.out, ← HI.out]
        refine hK.out _ _ (bch hHeld hba) (fun hHeld => ?_)
        clear hba
        (try simp only [Act.put, List.setIfInBounds_toArray, List.set_cons_zero, List.set_cons_succ])
        refine wpAnyH_take (i := 14) (oi := { dst := some 10, op := Op.move (Operand.tmp 24), type := 37, pos := "way.go:109", after := #[{ on := 13, ground := Ground.data }], guard := none }) (v := ?_) rfl (by kernel_rfl) (by kernel_rfl) (by kernel_rfl) (fun _ _ _ h => h) (Or.inl ⟨by rfl, ?_⟩) hHeld ?_
        rotate_left
        · (intro w hSw; go_simp; try with_reducible rfl)
        (try simp only [Act.put, List.setIfInBounds_toArray, List.set_cons_zero, List.set_cons_succ])
        refine wpAnyH_take (i := 15) (oi := { dst := some 25, op := Op.extract (Operand.tmp 10) 0, type := 35, pos := "way.go:109", after := #[{ on := 14, ground := Ground.data }], guard := none }) (v := ?_) rfl (by kernel_rfl) (by kernel_rfl) (by kernel_rfl) (fun _ _ _ h => h) (Or.inl ⟨by rfl, ?_⟩) hHeld ?_
        rotate_left
        · (intro w hSw; go_simp; try with_reducible rfl)
        (try simp only [Act.put, List.setIfInBounds_toArray, List.set_cons_zero, List.set_cons_succ])
        refine wpAnyH_take (i := 16) (oi := { dst := some 26, op := Op.extract (Operand.tmp 10) 1, type := 4, pos := "way.go:109", after := #[{ on := 14, ground := Ground.data }, { on := 18, ground := Ground.gcOnly Departure.lateStores }], guard := none }) (v := ?_) rfl (by kernel_rfl) (by kernel_rfl) (by kernel_rfl) (fun _ _ _ h => h) (Or.inl ⟨by rfl, ?_⟩) hHeld ?_
        rotate_left
        · (intro w hSw; go_simp; try with_reducible rfl)
        (try simp only [Act.put, List.setIfInBounds_toArray, List.set_cons_zero, List.set_cons_succ])
        refine wpAnyH_ready (rs := [17]) (by kernel_rfl) (by simp) (AllReadyH.cons (o := { dst := some 7, op := Op.alloc 35, type := 0, pos := "way.go:109", after := #[], guard := none }) rfl (fun K hK => ?_) AllReadyH.nil)
        · go_simp
          have hba : Below v13.heap.size v13 (v13.alloc (.cells #[.string ⟨#[]⟩, .int .i64 0, .string ⟨#[]⟩] 35)) := below_new _ _
          have Z7 : Hid (Box (v13.alloc (.cells #[.string ⟨#[]⟩, .int .i64 0, .string ⟨#[]⟩] 35)) v13.heap.size 35 It.nil.arr) := Lib.hid box_new
          have HB7 : Hid (vs.heap.size ≤ v13.heap.size) := Lib.hid hHeld.size
          obtain ⟨v17, hv9⟩ : ∃ q, q = (v13.alloc (.cells #[.string ⟨#[]⟩, .int .i64 0, .string ⟨#[]⟩] 35)) := ⟨_, rfl⟩
          refine hK.out _ _ (bch hHeld hba) (fun hHeld => ?_)
          clear hba
          rw [← hv9] at Z7 hHeld ⊢
          clear hv9
          obtain ⟨b7, hg9⟩ : ∃ q, q = v13.heap.size := ⟨_, rfl⟩
          rw [← hg9] at Z7 HB7 ⊢
          clear hg9
          (try simp only [Act.put, List.setIfInBounds_toArray, List.set_cons_zero, List.set_cons_succ])
          refine wpAnyH_ready (rs := [18]) (by kernel_rfl) (by simp) (AllReadyH.cons (o := { dst := none, op := Op.store 35 (Operand.tmp 7) (Operand.tmp 25), type := 0, pos := "way.go:109", after := #[{ on := 17, ground := Ground.data }, { on := 15, ground := Ground.data }, { on := 13, ground := Ground.chain }, { on := 0, ground := Ground.phase }, { on := 1, ground := Ground.phase }, { on := 2, ground := Ground.phase }, { on := 3, ground := Ground.phase }, { on := 4, ground := Ground.phase }, { on := 5, ground := Ground.phase }, { on := 6, ground := Ground.phase }, { on := 7, ground := Ground.phase }, { on := 8, ground := Ground.phase }, { on := 9, ground := Ground.phase }, { on := 10, ground := Ground.phase }, { on := 11, ground := Ground.phase }, { on := 12, ground := Ground.phase }, { on := 13, ground := Ground.phase }, { on := 14, ground := Ground.phase }, { on := 15, ground := Ground.phase }, { on := 16, ground := Ground.textOnly Departure.lateStores }, { on := 17, ground := Ground.phase }], guard := none }) rfl (fun K hK => ?_) AllReadyH.nil)
          · refine wp_store_if (by rfl) 35 (.tmp 7) (.tmp 25) rfl b7 35 It.nil.arr y.arr rfl rfl Z7.out (info35 _) rfl (iarr_one _) ?_
            have Z8 : Hid (Box (v17.setRow b7 y.arr) b7 35 y.arr) := Lib.hid (Z7.out.row _)
            refine hK.out _ _ (below_row hHeld HB7.out _) (fun hHeld => ?_)
            clear Z7
            (try simp only [Act.put])
            refine wpAnyH_take (i := 19) (oi := { dst := some 8, op := Op.assign (Operand.tmp 26), type := 4, pos := "way.go:109", after := #[{ on := 16, ground := Ground.data }, { on := 18, ground := Ground.chain }, { on := 0, ground := Ground.phase }, { on := 1, ground := Ground.phase }, { on := 2, ground := Ground.phase }, { on := 3, ground := Ground.phase }, { on := 4, ground := Ground.phase }, { on := 5, ground := Ground.phase }, { on := 6, ground := Ground.phase }, { on := 7, ground := Ground.phase }, { on := 8, ground := Ground.phase }, { on := 9, ground := Ground.phase }, { on := 10, ground := Ground.phase }, { on := 11, ground := Ground.phase }, { on := 12, ground := Ground.phase }, { on := 13, ground := Ground.phase }, { on := 14, ground := Ground.phase }, { on := 15, ground := Ground.phase }, { on := 16, ground := Ground.phase }, { on := 17, ground := Ground.phase }, { on := 18, ground := Ground.phase }], guard := none }) (v := ?_) rfl (by kernel_rfl) (by kernel_rfl) (by kernel_rfl) (fun _ _ _ h => h) (Or.inl ⟨by rfl, ?_⟩) hHeld ?_
            rotate_left
            · (intro w hSw; go_simp; try with_reducible rfl)
            (try simp only [Act.put, List.setIfInBounds_toArray, List.set_cons_zero, List.set_cons_succ])
            refine wpAnyH_done (by kernel_rfl) ?_ _
            first | refine hK2 _ _ (Met.intro (hJ _ _ ?_)) | refine Met.intro (hJ _ _ ?_)
            (repeat apply Exists.intro)
            refine ⟨?_, rfl⟩
            exact ⟨_, rfl, rfl, Z8, Lib.hid hHeld⟩
      · go_simp
        have hba : Below v0.heap.size v0 (v0.alloc (.cells #[.string ⟨#[]⟩, .int .i64 0, .string ⟨#[]⟩] 35)) := below_new _ _
        have Z7 : Hid (Box (v0.alloc (.cells #[.string ⟨#[]⟩, .int .i64 0, .string ⟨#[]⟩] 35)) v0.heap.size 35 It.nil.arr) := Lib.hid box_new
        have HB7 : Hid (vs.heap.size ≤ v0.heap.size) := Lib.hid hHeld.size
        obtain ⟨v17, hv9⟩ : ∃ q, q = (v0.alloc (.cells #[.string ⟨#[]⟩, .int .i64 0, .string ⟨#[]⟩] 35)) := ⟨_, rfl⟩
        refine hK.out _ _ (bch hHeld hba) (fun hHeld => ?_)
        clear hba
        rw [← hv9] at Z7 hHeld ⊢
        clear hv9
        obtain ⟨b7, hg9⟩ : ∃ q, q = v0.heap.size := ⟨_, rfl⟩
        rw [← hg9] at Z7 HB7 ⊢
        clear hg9
        (try simp only [Act.put, List.setIfInBounds_toArray, List.set_cons_zero, List.set_cons_succ])
        refine wpAnyH_ready (rs := [13]) (by kernel_rfl) (by simp) (AllReadyH.cons (o := { dst := some 24, op := Op.call { callee := Callee.value (Operand.tmp 14), args := #[Operand.tmp 23], argTypes := #[9] }, type := 37, pos := "way.go:109", after := #[{ on := 3, ground := Ground.data }, { on := 12, ground := Ground.data }, { on := 9, ground := Ground.chain }], guard := none }) rfl (fun K hK => ?_) AllReadyH.nil)
        · go_simp
          refine (find_is g b l _ _ (HFI.out.on hHeld) HPS.out o HO.out).mono ?_
          rintro e v13 ⟨rfl, hba⟩
          rw [← HY.out, ← HI.out]
          have Z7 := Lib.hid (Z7.out.on hba)
          refine hK.out _ _ (bch hHeld hba) (fun hHeld => ?_)
          clear hba
          (try simp only [Act.put, List.setIfInBounds_toArray, List.set_cons_zero, List.set_cons_succ])
          refine wpAnyH_take (i := 14) (oi := { dst := some 10, op := Op.move (Operand.tmp 24), type := 37, pos := "way.go:109", after := #[{ on := 13, ground := Ground.data }], guard := none }) (v := ?_) rfl (by kernel_rfl) (by kernel_rfl) (by kernel_rfl) (fun _ _ _ h => h) (Or.inl ⟨by rfl, ?_⟩) hHeld ?_
          rotate_left
          · (intro w hSw; go_simp; try with_reducible rfl)
          (try simp only [Act.put, List.setIfInBounds_toArray, List.set_cons_zero, List.set_cons_succ])
          refine wpAnyH_take (i := 15) (oi := { dst := some 25, op := Op.extract (Operand.tmp 10) 0, type := 35, pos := "way.go:109", after := #[{ on := 14, ground := Ground.data }], guard := none }) (v := ?_) rfl (by kernel_rfl) (by kernel_rfl) (by kernel_rfl) (fun _ _ _ h => h) (Or.inl ⟨by rfl, ?_⟩) hHeld ?_
          rotate_left
          · (intro w hSw; go_simp; try with_reducible rfl)
          (try simp only [Act.put, List.setIfInBounds_toArray, List.set_cons_zero, List.set_cons_succ])
          refine wpAnyH_take (i := 16) (oi := { dst := some 26, op := Op.extract (Operand.tmp 10) 1, type := 4, pos := "way.go:109", after := #[{ on := 14, ground := Ground.data }, { on := 18, ground := Ground.gcOnly Departure.lateStores }], guard := none }) (v := ?_) rfl (by kernel_rfl) (by kernel_rfl) (by kernel_rfl) (fun _ _ _ h => h) (Or.inl ⟨by rfl, ?_⟩) hHeld ?_
          rotate_left
          · (intro w hSw; go_simp; try with_reducible rfl)
          (try simp only [Act.put, List.setIfInBounds_toArray, List.set_cons_zero, List.set_cons_succ])
          refine wpAnyH_ready (rs := [18]) (by kernel_rfl) (by simp) (AllReadyH.cons (o := { dst := none, op := Op.store 35 (Operand.tmp 7) (Operand.tmp 25), type := 0, pos := "way.go:109", after := #[{ on := 17, ground := Ground.data }, { on := 15, ground := Ground.data }, { on := 13, ground := Ground.chain }, { on := 0, ground := Ground.phase }, { on := 1, ground := Ground.phase }, { on := 2, ground := Ground.phase }, { on := 3, ground := Ground.phase }, { on := 4, ground := Ground.phase }, { on := 5, ground := Ground.phase }, { on := 6, ground := Ground.phase }, { on := 7, ground := Ground.phase }, { on := 8, ground := Ground.phase }, { on := 9, ground := Ground.phase }, { on := 10, ground := Ground.phase }, { on := 11, ground := Ground.phase }, { on := 12, ground := Ground.phase }, { on := 13, ground := Ground.phase }, { on := 14, ground := Ground.phase }, { on := 15, ground := Ground.phase }, { on := 16, ground := Ground.textOnly Departure.lateStores }, { on := 17, ground := Ground.phase }], guard := none }) rfl (fun K hK => ?_) AllReadyH.nil)
          · refine wp_store_if (by rfl) 35 (.tmp 7) (.tmp 25) rfl b7 35 It.nil.arr y.arr rfl rfl Z7.out (info35 _) rfl (iarr_one _) ?_
            have Z8 : Hid (Box (v13.setRow b7 y.arr) b7 35 y.arr) := Lib.hid (Z7.out.row _)
            refine hK.out _ _ (below_row hHeld HB7.out _) (fun hHeld => ?_)
            clear Z7
            (try simp only [Act.put])
            refine wpAnyH_take (i := 19) (oi := { dst := some 8, op := Op.assign (Operand.tmp 26), type := 4, pos := "way.go:109", after := #[{ on := 16, ground := Ground.data }, { on := 18, ground := Ground.chain }, { on := 0, ground := Ground.phase }, { on := 1, ground := Ground.phase }, { on := 2, ground := Ground.phase }, { on := 3, ground := Ground.phase }, { on := 4, ground := Ground.phase }, { on := 5, ground := Ground.phase }, { on := 6, ground := Ground.phase }, { on := 7, ground := Ground.phase }, { on := 8, ground := Ground.phase }, { on := 9, ground := Ground.phase }, { on := 10, ground := Ground.phase }, { on := 11, ground := Ground.phase }, { on := 12, ground := Ground.phase }, { on := 13, ground := Ground.phase }, { on := 14, ground := Ground.phase }, { on := 15, ground := Ground.phase }, { on := 16, ground := Ground.phase }, { on := 17, ground := Ground.phase }, { on := 18, ground := Ground.phase }], guard := none }) (v := ?_) rfl (by kernel_rfl) (by kernel_rfl) (by kernel_rfl) (fun _ _ _ h => h) (Or.inl ⟨by rfl, ?_⟩) hHeld ?_
            rotate_left
            · (intro w hSw; go_simp; try with_reducible rfl)
            (try simp only [Act.put, List.setIfInBounds_toArray, List.set_cons_zero, List.set_cons_succ])
            refine wpAnyH_done (by kernel_rfl) ?_ _
            first | refine hK2 _ _ (Met.intro (hJ _ _ ?_)) | refine Met.intro (hJ _ _ ?_)
            (repeat apply Exists.intro)
            refine ⟨?_, rfl⟩
            exact ⟨_, rfl, rfl, Z8, Lib.hid hHeld⟩
    · go_simp
      have hba : Below v0.heap.size v0 (v0.alloc (.cells #[.string ⟨#[]⟩, .int .i64 0, .string ⟨#[]⟩] 35)) := below_new _ _
      have Z7 : Hid (Box (v0.alloc (.cells #[.string ⟨#[]⟩, .int .i64 0, .string ⟨#[]⟩] 35)) v0.heap.size 35 It.nil.arr) := Lib.hid box_new
      have HB7 : Hid (vs.heap.size ≤ v0.heap.size) := Lib.hid hHeld.size
      obtain ⟨v17, hv9⟩ : ∃ q, q = (v0.alloc (.cells #[.string ⟨#[]⟩, .int .i64 0, .string ⟨#[]⟩] 35)) := ⟨_, rfl⟩
      refine hK.out _ _ (bch hHeld hba) (fun hHeld => ?_)
      clear hba
      rw [← hv9] at Z7 hHeld ⊢
      clear hv9
      obtain ⟨b7, hg9⟩ : ∃ q, q = v0.heap.size := ⟨_, rfl⟩
      rw [← hg9] at Z7 HB7 ⊢
      clear hg9
      (try simp only [Act.put, List.setIfInBounds_toArray, List.set_cons_zero, List.set_cons_succ])
      refine wpAnyH_ready (rs := [9]) (by kernel_rfl) (by simp) (AllReadyH.cons (o := { dst := some 20, op := Op.call { callee := Callee.value (Operand.func 125), args := #[Operand.tmp 19, Operand.const (Value.string { data := #[47] })], argTypes := #[9, 9] }, type := 9, pos := "way.go:109", after := #[{ on := 8, ground := Ground.data }], guard := none }) rfl (fun K hK => ?_) AllReadyH.nil)
      · go_simp
        refine (trims_is x.path hx _).mono ?_
        rintro e wz ⟨rfl, rfl⟩
        refine hK.out _ _ hHeld (fun hHeld => ?_)
        (try simp only [Act.put, List.setIfInBounds_toArray, List.set_cons_zero, List.set_cons_succ])
        refine wpAnyH_take (i := 10) (oi := { dst := some 21, op := Op.binOp BinOp.add 9 (Operand.tmp 20) (Operand.const (Value.string { data := #[47] })) 9, type := 9, pos := "way.go:109", after := #[{ on := 9, ground := Ground.data }], guard := none }) (v := ?_) rfl (by kernel_rfl) (by kernel_rfl) (by kernel_rfl) (fun _ _ _ h => h) (Or.inl ⟨by rfl, ?_⟩) hHeld ?_
        rotate_left
        · (intro w hSw; go_simp; try with_reducible rfl)
        (try simp only [Act.put, List.setIfInBounds_toArray, List.set_cons_zero, List.set_cons_succ])
        refine wpAnyH_take (i := 12) (oi := { dst := some 23, op := Op.binOp BinOp.add 9 (Operand.tmp 21) (Operand.tmp 22) 9, type := 9, pos := "way.go:109", after := #[{ on := 10, ground := Ground.data }, { on := 11, ground := Ground.data }], guard := none }) (v := ?_) rfl (by kernel_rfl) (by kernel_rfl) (by kernel_rfl) (fun _ _ _ h => h) (Or.inl ⟨by rfl, ?_⟩) hHeld ?_
        rotate_left
        · (intro w hSw; go_simp; try with_reducible rfl)
        (try simp only [Act.put, List.setIfInBounds_toArray, List.set_cons_zero, List.set_cons_succ])
        refine wpAnyH_ready (rs := [13]) (by kernel_rfl) (by simp) (AllReadyH.cons (o := { dst := some 24, op := Op.call { callee := Callee.value (Operand.tmp 14), args := #[Operand.tmp 23], argTypes := #[9] }, type := 37, pos := "way.go:109", after := #[{ on := 3, ground := Ground.data }, { on := 12, ground := Ground.data }, { on := 9, ground := Ground.chain }], guard := none }) rfl (fun K hK => ?_) AllReadyH.nil)
        · go_simp
          refine (find_is g b l _ _ (HFI.out.on hHeld) HPS.out o HO.out).mono ?_
          rintro e v13 ⟨rfl, hba⟩
          rw [← HY.out, ← HI.out]
          have Z7 := Lib.hid (Z7.out.on hba)
          refine hK.out _ _ (bch hHeld hba) (fun hHeld => ?_)
          clear hba
          (try simp only [Act.put, List.setIfInBounds_toArray, List.set_cons_zero, List.set_cons_succ])
          refine wpAnyH_take (i := 14) (oi := { dst := some 10, op := Op.move (Operand.tmp 24), type := 37, pos := "way.go:109", after := #[{ on := 13, ground := Ground.data }], guard := none }) (v := ?_) rfl (by kernel_rfl) (by kernel_rfl) (by kernel_rfl) (fun _ _ _ h => h) (Or.inl ⟨by rfl, ?_⟩) hHeld ?_
          rotate_left
          · (intro w hSw; go_simp; try with_reducible rfl)
          (try simp only [Act.put, List.setIfInBounds_toArray, List.set_cons_zero, List.set_cons_succ])
          refine wpAnyH_take (i := 15) (oi := { dst := some 25, op := Op.extract (Operand.tmp 10) 0, type := 35, pos := "way.go:109", after := #[{ on := 14, ground := Ground.data }], guard := none }) (v := ?_) rfl (by kernel_rfl) (by kernel_rfl) (by kernel_rfl) (fun _ _ _ h => h) (Or.inl ⟨by rfl, ?_⟩) hHeld ?_
          rotate_left
          · (intro w hSw; go_simp; try with_reducible rfl)
          (try simp only [Act.put, List.setIfInBounds_toArray, List.set_cons_zero, List.set_cons_succ])
          refine wpAnyH_take (i := 16) (oi := { dst := some 26, op := Op.extract (Operand.tmp 10) 1, type := 4, pos := "way.go:109", after := #[{ on := 14, ground := Ground.data }, { on := 18, ground := Ground.gcOnly Departure.lateStores }], guard := none }) (v := ?_) rfl (by kernel_rfl) (by kernel_rfl) (by kernel_rfl) (fun _ _ _ h => h) (Or.inl ⟨by rfl, ?_⟩) hHeld ?_
          rotate_left
          · (intro w hSw; go_simp; try with_reducible rfl)
          (try simp only [Act.put, List.setIfInBounds_toArray, List.set_cons_zero, List.set_cons_succ])
          refine wpAnyH_ready (rs := [18]) (by kernel_rfl) (by simp) (AllReadyH.cons (o := { dst := none, op := Op.store 35 (Operand.tmp 7) (Operand.tmp 25), type := 0, pos := "way.go:109", after := #[{ on := 17, ground := Ground.data }, { on := 15, ground := Ground.data }, { on := 13, ground := Ground.chain }, { on := 0, ground := Ground.phase }, { on := 1, ground := Ground.phase }, { on := 2, ground := Ground.phase }, { on := 3, ground := Ground.phase }, { on := 4, ground := Ground.phase }, { on := 5, ground := Ground.phase }, { on := 6, ground := Ground.phase }, { on := 7, ground := Ground.phase }, { on := 8, ground := Ground.phase }, { on := 9, ground := Ground.phase }, { on := 10, ground := Ground.phase }, { on := 11, ground := Ground.phase }, { on := 12, ground := Ground.phase }, { on := 13, ground := Ground.phase }, { on := 14, ground := Ground.phase }, { on := 15, ground := Ground.phase }, { on := 16, ground := Ground.textOnly Departure.lateStores }, { on := 17, ground := Ground.phase }], guard := none }) rfl (fun K hK => ?_) AllReadyH.nil)
          · refine wp_store_if (by rfl) 35 (.tmp 7) (.tmp 25) rfl b7 35 It.nil.arr y.arr rfl rfl Z7.out (info35 _) rfl (iarr_one _) ?_
            have Z8 : Hid (Box (v13.setRow b7 y.arr) b7 35 y.arr) := Lib.hid (Z7.out.row _)
            refine hK.out _ _ (below_row hHeld HB7.out _) (fun hHeld => ?_)
            clear Z7
            (try simp only [Act.put])
            refine wpAnyH_take (i := 19) (oi := { dst := some 8, op := Op.assign (Operand.tmp 26), type := 4, pos := "way.go:109", after := #[{ on := 16, ground := Ground.data }, { on := 18, ground := Ground.chain }, { on := 0, ground := Ground.phase }, { on := 1, ground := Ground.phase }, { on := 2, ground := Ground.phase }, { on := 3, ground := Ground.phase }, { on := 4, ground := Ground.phase }, { on := 5, ground := Ground.phase }, { on := 6, ground := Ground.phase }, { on := 7, ground := Ground.phase }, { on := 8, ground := Ground.phase }, { on := 9, ground := Ground.phase }, { on := 10, ground := Ground.phase }, { on := 11, ground := Ground.phase }, { on := 12, ground := Ground.phase }, { on := 13, ground := Ground.phase }, { on := 14, ground := Ground.phase }, { on := 15, ground := Ground.phase }, { on := 16, ground := Ground.phase }, { on := 17, ground := Ground.phase }, { on := 18, ground := Ground.phase }], guard := none }) (v := ?_) rfl (by kernel_rfl) (by kernel_rfl) (by kernel_rfl) (fun _ _ _ h => h) (Or.inl ⟨by rfl, ?_⟩) hHeld ?_
            rotate_left
            · (intro w hSw; go_simp; try with_reducible rfl)
            (try simp only [Act.put, List.setIfInBounds_toArray, List.set_cons_zero, List.set_cons_succ])
            refine wpAnyH_done (by kernel_rfl) ?_ _
            first | refine hK2 _ _ (Met.intro (hJ _ _ ?_)) | refine Met.intro (hJ _ _ ?_)
            (repeat apply Exists.intro)
            refine ⟨?_, rfl⟩
            exact ⟨_, rfl, rfl, Z8, Lib.hid hHeld⟩
  case rest =>
    obtain ⟨b7, rfl, rfl, Z7, HB⟩ := hcut
    obtain ⟨w2, hw2⟩ : ∃ z, z = wc := ⟨_, rfl⟩
    rw [← hw2] at Z7 HB ⊢
    have HX := Lib.hid (XV.out.on HB.out)
    have HR := Lib.hid (HRV.out.on HB.out)
    have HT := Lib.hid (HTV.out.on HB.out)
    have HG : Hid (w.grownBy w2 (some q)) := Lib.hid (HG0.out.trans (below_grown HB.out _))
    clear hw2 XV HFI HRV HTV HG0 HB HPS HO hs1 hs2
    obtain ⟨a3, c3, rfl, _⟩ := id HR.out
    obtain ⟨m, hm⟩ : ∃ m, m = restL.length := ⟨_, rfl⟩
    rw [← hm] at HX HR hl
    have HM := Lib.hid hm
    have p4 : w2.cell? ⟨q, 4, none⟩ = some (.slice a3 m c3) := HX.out.cell (k := 4) rfl
    obtain ⟨c0, c1, c2⟩ := Z7.out.it
    clear hm
    have HS : Hid (stepD l last x part restL n = stepO last x restL n o) := Lib.hid (by unfold stepD; rw [HOI.out])
    have HWW : Hid (WayW w2 q (fnd g) x restL n) := Lib.hid ⟨_, HX.out, HR.out⟩
    cases o with
    | none =>
      obtain rfl : is = false := HI.out
      go_wp2_with fail
      go_ret
      exact ⟨HG.out, by rw [HS.out]; exact ⟨rfl, by decide⟩⟩
    | some z =>
      obtain rfl : is = true := HI.out
      obtain rfl : y = z := HY.out
      have hyh := (get_here HOI.out).1
      by_cases hm0 : m = 0
      · have hrl : restL = [] := List.eq_nil_of_length_eq_zero (by have := HM.out; omega)
        have hnl : ¬ (restL ≠ []) := fun k => k hrl
        subst hm0
        by_cases hk2 : y.kind = 2
        · have t2 : (y.kind == 2) = true := by simp [hk2]
          have t3 : (y.kind == 3) = false := by simp [hk2]
          have HE : Hid (stepD l last x part restL n = .ok (y, restL, n)) := Lib.hid (by rw [HS.out]; unfold stepO; simp only; rw [if_neg (fun k => hnl k.2), if_neg (fun k => by have := k.1; omega)])
          clear hk2 hrl hnl hyh
          obtain ⟨w3, hw3⟩ : ∃ z, z = ((w2.setCell ⟨q, 1, none⟩ (.string ⟨y.path.toArray⟩)).setCell ⟨q, 2, none⟩ (.int .i64 y.kind)).setCell ⟨q, 3, none⟩ (.string ⟨y.data.toArray⟩) := ⟨_, rfl⟩
          have X3 : Hid (Box w3 q 88 (wayA (fnd g) y (.slice a3 0 c3) n)) := Lib.hid (by rw [hw3]; exact way_set3 HX.out y)
          have HG3 : Hid (w2.grownBy w3 (some q)) := Lib.hid (by rw [hw3]; exact grown_set3 (World.grownBy.refl _ _) _ _ _)
          have HW3 : Hid (WayW w3 q (fnd g) y restL n) := Lib.hid ⟨_, X3.out, HR.out.grown HG3.out⟩
          have p1 : w2.cell? ⟨q, 1, none⟩ = some (.string ⟨x.path.toArray⟩) := HX.out.cell (k := 1) rfl
          have p2 : w2.cell? ⟨q, 2, none⟩ = some (.int .i64 x.kind) := HX.out.cell (k := 2) rfl
          have p3 : w2.cell? ⟨q, 3, none⟩ = some (.string ⟨x.data.toArray⟩) := HX.out.cell (k := 3) rfl
          have f1 := frozen_of_row w2 q 1 _ _ HX.out
          have f2 := frozen_of_row w2 q 2 _ _ HX.out
          have f3 := frozen_of_row w2 q 3 _ _ HX.out
          go_upto_region 10 with fail
          rw [← hw3]
          clear hw3 p1 p2 p3 f1 f2 f3 p4 c0 c1 c2
          go_wp2_with fail
          go_ret
          exact ⟨HG.out.trans HG3.out, by rw [HE.out]; exact ⟨rfl, HW3.out⟩⟩
        · have t2 : (y.kind == 2) = false := by simp [hk2]
          by_cases hk3 : y.kind = 3
          · have t3 : (y.kind == 3) = true := by simp [hk3]
            cases last with
            | true =>
              have hdl := hyh.link hok hk3
              have HE : Hid (stepD l true x part restL n = if n = 40 then .error 170 else .ok (if y.data.head? = some 47 then .root else x, cutP y.data ++ restL, n + 1)) := Lib.hid (by rw [HS.out]; unfold stepO; simp only; rw [if_neg (fun k => hk2 k.1), if_pos ⟨hk3, .inr (by trivial)⟩])
              have HV : Hid (Calls Tryd.prog 126 #[.pointer (some ⟨q, 0, none⟩), .string ⟨y.data.toArray⟩] w2 (OverR q (fnd g) (if y.data.head? = some 47 then .root else x) (cutP y.data ++ restL) n w2)) := Lib.hid (over_any q (fnd g) x restL n ⟨y.data.toArray⟩ w2 HWW.out HT.out hdl (by rw [hrl]; exact Nat.zero_le _) hq hn)
              clear hk2 hk3 hrl hnl hyh hdl
              go_wp2_with fail
              refine HV.out.mono ?_
              rintro e w3 (⟨h40, rfl, rfl⟩ | ⟨h40, rfl, hW3, hg3⟩)
              · go_wp2_with fail
                go_ret
                exact ⟨HG.out, by rw [HE.out, if_pos h40]; exact ⟨rfl, by decide⟩⟩
              · go_wp2_with fail
                go_ret
                exact ⟨HG.out.trans hg3, by rw [HE.out, if_neg h40]; exact ⟨rfl, hW3⟩⟩
            | false =>
              have HE : Hid (stepD l false x part restL n = .ok (y, restL, n)) := Lib.hid (by rw [HS.out]; unfold stepO; simp only; rw [if_neg (fun k => hnl k.2), if_neg (fun k => k.2.elim hnl (fun z => by cases z))])
              clear hk2 hk3 hrl hnl hyh
              obtain ⟨w3, hw3⟩ : ∃ z, z = ((w2.setCell ⟨q, 1, none⟩ (.string ⟨y.path.toArray⟩)).setCell ⟨q, 2, none⟩ (.int .i64 y.kind)).setCell ⟨q, 3, none⟩ (.string ⟨y.data.toArray⟩) := ⟨_, rfl⟩
              have X3 : Hid (Box w3 q 88 (wayA (fnd g) y (.slice a3 0 c3) n)) := Lib.hid (by rw [hw3]; exact way_set3 HX.out y)
              have HG3 : Hid (w2.grownBy w3 (some q)) := Lib.hid (by rw [hw3]; exact grown_set3 (World.grownBy.refl _ _) _ _ _)
              have HW3 : Hid (WayW w3 q (fnd g) y restL n) := Lib.hid ⟨_, X3.out, HR.out.grown HG3.out⟩
              have p1 : w2.cell? ⟨q, 1, none⟩ = some (.string ⟨x.path.toArray⟩) := HX.out.cell (k := 1) rfl
              have p2 : w2.cell? ⟨q, 2, none⟩ = some (.int .i64 x.kind) := HX.out.cell (k := 2) rfl
              have p3 : w2.cell? ⟨q, 3, none⟩ = some (.string ⟨x.data.toArray⟩) := HX.out.cell (k := 3) rfl
              have f1 := frozen_of_row w2 q 1 _ _ HX.out
              have f2 := frozen_of_row w2 q 2 _ _ HX.out
              have f3 := frozen_of_row w2 q 3 _ _ HX.out
              go_upto_region 10 with fail
              rw [← hw3]
              clear hw3 p1 p2 p3 f1 f2 f3 p4 c0 c1 c2
              go_wp2_with fail
              go_ret
              exact ⟨HG.out.trans HG3.out, by rw [HE.out]; exact ⟨rfl, HW3.out⟩⟩
          · have t3 : (y.kind == 3) = false := by simp [hk3]
            have HE : Hid (stepD l last x part restL n = .ok (y, restL, n)) := Lib.hid (by rw [HS.out]; unfold stepO; simp only; rw [if_neg (fun k => hk2 k.1), if_neg (fun k => hk3 k.1)])
            clear hk2 hk3 hrl hnl hyh
            obtain ⟨w3, hw3⟩ : ∃ z, z = ((w2.setCell ⟨q, 1, none⟩ (.string ⟨y.path.toArray⟩)).setCell ⟨q, 2, none⟩ (.int .i64 y.kind)).setCell ⟨q, 3, none⟩ (.string ⟨y.data.toArray⟩) := ⟨_, rfl⟩
            have X3 : Hid (Box w3 q 88 (wayA (fnd g) y (.slice a3 0 c3) n)) := Lib.hid (by rw [hw3]; exact way_set3 HX.out y)
            have HG3 : Hid (w2.grownBy w3 (some q)) := Lib.hid (by rw [hw3]; exact grown_set3 (World.grownBy.refl _ _) _ _ _)
            have HW3 : Hid (WayW w3 q (fnd g) y restL n) := Lib.hid ⟨_, X3.out, HR.out.grown HG3.out⟩
            have p1 : w2.cell? ⟨q, 1, none⟩ = some (.string ⟨x.path.toArray⟩) := HX.out.cell (k := 1) rfl
            have p2 : w2.cell? ⟨q, 2, none⟩ = some (.int .i64 x.kind) := HX.out.cell (k := 2) rfl
            have p3 : w2.cell? ⟨q, 3, none⟩ = some (.string ⟨x.data.toArray⟩) := HX.out.cell (k := 3) rfl
            have f1 := frozen_of_row w2 q 1 _ _ HX.out
            have f2 := frozen_of_row w2 q 2 _ _ HX.out
            have f3 := frozen_of_row w2 q 3 _ _ HX.out
            go_upto_region 10 with fail
            rw [← hw3]
            clear hw3 p1 p2 p3 f1 f2 f3 p4 c0 c1 c2
            go_wp2_with fail
            go_ret
            exact ⟨HG.out.trans HG3.out, by rw [HE.out]; exact ⟨rfl, HW3.out⟩⟩
      · have hrl : restL ≠ [] := fun e => hm0 (by have := HM.out; rw [e] at this; exact this)
        have d0 : decide (0 < m) = true := decide_eq_true (by omega)
        have d1 : 0 < m := by omega
        by_cases hk2 : y.kind = 2
        · have t2 : (y.kind == 2) = true := by simp [hk2]
          have HE : Hid (stepD l last x part restL n = .error 161) := Lib.hid (by rw [HS.out]; unfold stepO; simp only; rw [if_pos ⟨hk2, hrl⟩])
          clear hk2 hrl hm0
          go_wp2_with fail
          go_ret
          exact ⟨HG.out, by rw [HE.out]; exact ⟨rfl, by decide⟩⟩
        · have t2 : (y.kind == 2) = false := by simp [hk2]
          by_cases hk3 : y.kind = 3
          · have t3 : (y.kind == 3) = true := by simp [hk3]
            have hdl := hyh.link hok hk3
            have HE : Hid (stepD l last x part restL n = if n = 40 then .error 170 else .ok (if y.data.head? = some 47 then .root else x, cutP y.data ++ restL, n + 1)) := Lib.hid (by rw [HS.out]; unfold stepO; simp only; rw [if_neg (fun k => hk2 k.1), if_pos ⟨hk3, .inl hrl⟩])
            have HV : Hid (Calls Tryd.prog 126 #[.pointer (some ⟨q, 0, none⟩), .string ⟨y.data.toArray⟩] w2 (OverR q (fnd g) (if y.data.head? = some 47 then .root else x) (cutP y.data ++ restL) n w2)) := Lib.hid (over_any q (fnd g) x restL n ⟨y.data.toArray⟩ w2 HWW.out HT.out hdl (by have := HM.out; omega) hq hn)
            clear hk2 hk3 hrl hm0 hyh hdl
            go_wp2_with fail
            refine HV.out.mono ?_
            rintro e w3 (⟨h40, rfl, rfl⟩ | ⟨h40, rfl, hW3, hg3⟩)
            · go_wp2_with fail
              go_ret
              exact ⟨HG.out, by rw [HE.out, if_pos h40]; exact ⟨rfl, by decide⟩⟩
            · go_wp2_with fail
              go_ret
              exact ⟨HG.out.trans hg3, by rw [HE.out, if_neg h40]; exact ⟨rfl, hW3⟩⟩
          · have t3 : (y.kind == 3) = false := by simp [hk3]
            have HE : Hid (stepD l last x part restL n = .ok (y, restL, n)) := Lib.hid (by rw [HS.out]; unfold stepO; simp only; rw [if_neg (fun k => hk2 k.1), if_neg (fun k => hk3 k.1)])
            clear hk2 hk3 hrl hm0 hyh
            obtain ⟨w3, hw3⟩ : ∃ z, z = ((w2.setCell ⟨q, 1, none⟩ (.string ⟨y.path.toArray⟩)).setCell ⟨q, 2, none⟩ (.int .i64 y.kind)).setCell ⟨q, 3, none⟩ (.string ⟨y.data.toArray⟩) := ⟨_, rfl⟩
            have X3 : Hid (Box w3 q 88 (wayA (fnd g) y (.slice a3 m c3) n)) := Lib.hid (by rw [hw3]; exact way_set3 HX.out y)
            have HG3 : Hid (w2.grownBy w3 (some q)) := Lib.hid (by rw [hw3]; exact grown_set3 (World.grownBy.refl _ _) _ _ _)
            have HW3 : Hid (WayW w3 q (fnd g) y restL n) := Lib.hid ⟨_, X3.out, HR.out.grown HG3.out⟩
            have p1 : w2.cell? ⟨q, 1, none⟩ = some (.string ⟨x.path.toArray⟩) := HX.out.cell (k := 1) rfl
            have p2 : w2.cell? ⟨q, 2, none⟩ = some (.int .i64 x.kind) := HX.out.cell (k := 2) rfl
            have p3 : w2.cell? ⟨q, 3, none⟩ = some (.string ⟨x.data.toArray⟩) := HX.out.cell (k := 3) rfl
            have f1 := frozen_of_row w2 q 1 _ _ HX.out
            have f2 := frozen_of_row w2 q 2 _ _ HX.out
            have f3 := frozen_of_row w2 q 3 _ _ HX.out
            go_upto_region 10 with fail
            rw [← hw3]
            clear hw3 p1 p2 p3 f1 f2 f3 p4 c0 c1 c2
            go_wp2_with fail
            go_ret
            exact ⟨HG.out.trans HG3.out, by rw [HE.out]; exact ⟨rfl, HW3.out⟩⟩
end Go.Proofs.YtiakedoebecgpaaDoor
