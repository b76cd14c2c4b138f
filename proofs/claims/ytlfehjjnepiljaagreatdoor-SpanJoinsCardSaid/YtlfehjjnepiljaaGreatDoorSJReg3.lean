/- Proved here: the first region of SpanJoins that draws its order: few of both spans, each in a variable of its own. -/
import Derived.Test.YtlfehjjnepiljaaGreatDoorMJoins1
namespace Go.Proofs.YtlfehjjnepiljaaGreatDoor
open Go.RowKit Go.Shelf

set_option maxRecDepth 100000 in
set_option maxHeartbeats 40000000 in
theorem joins_reg3 (la lb fa fb : List (List Bd)) (x y : Value) (na nb g2 g3 : Nat) (w2 w3 : World) (hw3 : w3 = World.drew w2) (HX : Hid (RdR w3 x la)) (HY : Hid (RdR w3 y lb)) (X1 : Hid (Box w3 g2 27 #[x])) (X2 : Hid (Box w3 g3 27 #[y]))
    (HFA : Hid (fa = fewR la)) (HFB : Hid (fb = fewR lb)) (HNA : Hid (na = fa.length)) (HNB : Hid (nb = fb.length)) (s0 s1 s4 s5 s6 s7 s8 s9 s10 s11 s12 s13 s14 s15 s16 s17 s18 s19 s20 s21 s22 s23 s24 s25 s26 s27 s28 s29 s30 s31 s32 s33 s34 s35 s36 s37 s38 s39 s40 s41 s42 s43 s44 s45 s46 s47 s48 s49 s50 s51 s52 s53 s54 s55 s56 s57 s58 s59 s60 s61 s62 s63 s64 s65 s66 s67 s68 s69 s70 s71 s72 s73 s74 s75 s76 s77 s78 s79 s80 s81 s82 s83 s84 s85 s86 s87 s88 s89 s90 s91 s92 s93 s94 s95 s96 s97 s98 s99 s100 s101 s102 s103 s104 s105 s106 s107 s108 s109 s110 s111 s112 s113 s114 s115 s116 s117 s118 s119 s120 s121 s122 s123 s124 s125 s126 s127 s128 s129 s130 s131 s132 s133 s134 s135 s136 s137 s138 s139 s140 s141 s142 s143 s144 s145 s146 s147 s148 s149 s150 s151 s152 s153 s154 s155 s156 s157 s158 s159 s160 s161 s162 s163 s164 s165 s166 : Value) (K : Act → World → Prop) (Q' : Exit → Act → World → Prop)
    (hQ : ∀ ch (a : Act) (k : Nat) v w, Q' (.panic ch) (a.put (some k) v) w → Q' (.panic ch) a w) (hEnd : ∀ (u5 u6 u22 u23 u24 u25 : Value) (wx : World), (∃ g7 g8 aa ca ab cb, u5 = .pointer (some ⟨g7, 0, none⟩) ∧ u6 = .pointer (some ⟨g8, 0, none⟩) ∧ Hid (w3.heap.size ≤ g7) ∧ Hid (w3.heap.size ≤ g8) ∧ Hid (Box wx g7 27 #[.slice aa na ca]) ∧ Hid (Box wx g8 27 #[.slice ab nb cb]) ∧ Hid (OwnR wx w3.heap.size (.slice aa na ca) fa) ∧ Hid (OwnR wx w3.heap.size (.slice ab nb cb) fb) ∧ Hid (Below w3.heap.size w3 wx)) → K ⟨List.toArray (s0 :: s1 :: .pointer (some ⟨g2, 0, none⟩) :: .pointer (some ⟨g3, 0, none⟩) :: s4 :: u5 :: u6 :: s7 :: s8 :: s9 :: s10 :: s11 :: s12 :: s13 :: s14 :: s15 :: s16 :: s17 :: s18 :: s19 :: s20 :: s21 :: u22 :: u23 :: u24 :: u25 :: s26 :: s27 :: s28 :: s29 :: s30 :: s31 :: s32 :: s33 :: s34 :: s35 :: s36 :: s37 :: s38 :: s39 :: s40 :: s41 :: s42 :: s43 :: s44 :: s45 :: s46 :: s47 :: s48 :: s49 :: s50 :: s51 :: s52 :: s53 :: s54 :: s55 :: s56 :: s57 :: s58 :: s59 :: s60 :: s61 :: s62 :: s63 :: s64 :: s65 :: s66 :: s67 :: s68 :: s69 :: s70 :: s71 :: s72 :: s73 :: s74 :: s75 :: s76 :: s77 :: s78 :: s79 :: s80 :: s81 :: s82 :: s83 :: s84 :: s85 :: s86 :: s87 :: s88 :: s89 :: s90 :: s91 :: s92 :: s93 :: s94 :: s95 :: s96 :: s97 :: s98 :: s99 :: s100 :: s101 :: s102 :: s103 :: s104 :: s105 :: s106 :: s107 :: s108 :: s109 :: s110 :: s111 :: s112 :: s113 :: s114 :: s115 :: s116 :: s117 :: s118 :: s119 :: s120 :: s121 :: s122 :: s123 :: s124 :: s125 :: s126 :: s127 :: s128 :: s129 :: s130 :: s131 :: s132 :: s133 :: s134 :: s135 :: s136 :: s137 :: s138 :: s139 :: s140 :: s141 :: s142 :: s143 :: s144 :: s145 :: s146 :: s147 :: s148 :: s149 :: s150 :: s151 :: s152 :: s153 :: s154 :: s155 :: s156 :: s157 :: s158 :: s159 :: s160 :: s161 :: s162 :: s163 :: s164 :: s165 :: s166 :: []), []⟩ wx) :
    (Code.region 3 #[{ dst := some 22, op := Op.load 27 (Operand.tmp 2), type := 27, pos := "law.go:89", after := #[], guard := none }, { dst := some 23, op := Op.call { callee := Callee.value (Operand.func 10), args := #[Operand.tmp 22], argTypes := #[27] }, type := 27, pos := "law.go:89", after := #[{ on := 0, ground := Ground.data }], guard := none }, { dst := some 24, op := Op.load 27 (Operand.tmp 3), type := 27, pos := "law.go:89", after := #[], guard := none }, { dst := some 25, op := Op.call { callee := Callee.value (Operand.func 10), args := #[Operand.tmp 24], argTypes := #[27] }, type := 27, pos := "law.go:89", after := #[{ on := 2, ground := Ground.data }, { on := 1, ground := Ground.chain }], guard := none }, { dst := some 5, op := Op.alloc 27, type := 0, pos := "law.go:89", after := #[], guard := none }, { dst := some 6, op := Op.alloc 27, type := 0, pos := "law.go:89", after := #[], guard := none }, { dst := none, op := Op.store 27 (Operand.tmp 5) (Operand.tmp 23), type := 0, pos := "law.go:89", after := #[{ on := 4, ground := Ground.data }, { on := 1, ground := Ground.data }, { on := 3, ground := Ground.chain }, { on := 0, ground := Ground.phase }, { on := 1, ground := Ground.phase }, { on := 2, ground := Ground.textOnly Departure.lateStores }, { on := 3, ground := Ground.textOnly Departure.lateStoresUnsure }, { on := 4, ground := Ground.phase }, { on := 5, ground := Ground.phase }], guard := none }, { dst := none, op := Op.store 27 (Operand.tmp 6) (Operand.tmp 25), type := 0, pos := "law.go:89", after := #[{ on := 5, ground := Ground.data }, { on := 3, ground := Ground.data }, { on := 6, ground := Ground.chain }, { on := 0, ground := Ground.phase }, { on := 1, ground := Ground.phase }, { on := 2, ground := Ground.phase }, { on := 3, ground := Ground.phase }, { on := 4, ground := Ground.phase }, { on := 5, ground := Ground.phase }, { on := 6, ground := Ground.phase }], guard := none }] true).wp Tryz.prog (Exit.then K Q') ⟨List.toArray (s0 :: s1 :: .pointer (some ⟨g2, 0, none⟩) :: .pointer (some ⟨g3, 0, none⟩) :: s4 :: s5 :: s6 :: s7 :: s8 :: s9 :: s10 :: s11 :: s12 :: s13 :: s14 :: s15 :: s16 :: s17 :: s18 :: s19 :: s20 :: s21 :: s22 :: s23 :: s24 :: s25 :: s26 :: s27 :: s28 :: s29 :: s30 :: s31 :: s32 :: s33 :: s34 :: s35 :: s36 :: s37 :: s38 :: s39 :: s40 :: s41 :: s42 :: s43 :: s44 :: s45 :: s46 :: s47 :: s48 :: s49 :: s50 :: s51 :: s52 :: s53 :: s54 :: s55 :: s56 :: s57 :: s58 :: s59 :: s60 :: s61 :: s62 :: s63 :: s64 :: s65 :: s66 :: s67 :: s68 :: s69 :: s70 :: s71 :: s72 :: s73 :: s74 :: s75 :: s76 :: s77 :: s78 :: s79 :: s80 :: s81 :: s82 :: s83 :: s84 :: s85 :: s86 :: s87 :: s88 :: s89 :: s90 :: s91 :: s92 :: s93 :: s94 :: s95 :: s96 :: s97 :: s98 :: s99 :: s100 :: s101 :: s102 :: s103 :: s104 :: s105 :: s106 :: s107 :: s108 :: s109 :: s110 :: s111 :: s112 :: s113 :: s114 :: s115 :: s116 :: s117 :: s118 :: s119 :: s120 :: s121 :: s122 :: s123 :: s124 :: s125 :: s126 :: s127 :: s128 :: s129 :: s130 :: s131 :: s132 :: s133 :: s134 :: s135 :: s136 :: s137 :: s138 :: s139 :: s140 :: s141 :: s142 :: s143 :: s144 :: s145 :: s146 :: s147 :: s148 :: s149 :: s150 :: s151 :: s152 :: s153 :: s154 :: s155 :: s156 :: s157 :: s158 :: s159 :: s160 :: s161 :: s162 :: s163 :: s164 :: s165 :: s166 :: []), []⟩ w2 := by
  obtain ⟨ax, cx, rfl, -⟩ := HX.out.open
  obtain ⟨ay, cy, rfl, -⟩ := HY.out.open
  obtain ⟨v0, hv0⟩ : ∃ q, q = World.drew w2 := ⟨_, rfl⟩
  refine wp_region_held_drew (S := fun w' => Below w3.heap.size w3 w') (by kernel_rfl) (by rw [← hw3]; exact Below.refl _ _) (fun hHeld => ?_)
  rw [← hv0] at hHeld ⊢
  clear hv0 hw3
  refine wpAnyH_take (i := 0) (oi := { dst := some 22, op := Op.load 27 (Operand.tmp 2), type := 27, pos := "law.go:89", after := #[], guard := none }) (v := ?_) rfl (by kernel_rfl) (by kernel_rfl) (by kernel_rfl) (fun _ _ _ h => hQ _ _ _ _ _ h) (Or.inl ⟨by rfl, ?_⟩) hHeld ?_
  rotate_left
  · (intro w hSw; have p0 := (X1.out.on hSw).cell (k := 0) rfl; go_simp; try with_reducible rfl)
  (try simp only [Act.put, List.setIfInBounds_toArray, List.set_cons_zero, List.set_cons_succ])
  refine wpAnyH_take (i := 2) (oi := { dst := some 24, op := Op.load 27 (Operand.tmp 3), type := 27, pos := "law.go:89", after := #[], guard := none }) (v := ?_) rfl (by kernel_rfl) (by kernel_rfl) (by kernel_rfl) (fun _ _ _ h => hQ _ _ _ _ _ h) (Or.inl ⟨by rfl, ?_⟩) hHeld ?_
  rotate_left
  · (intro w hSw; have p0 := (X2.out.on hSw).cell (k := 0) rfl; go_simp; try with_reducible rfl)
  (try simp only [Act.put, List.setIfInBounds_toArray, List.set_cons_zero, List.set_cons_succ])
  refine wpAnyH_ready (rs := [1, 4, 5]) (by kernel_rfl) (by simp) (AllReadyH.cons (o := { dst := some 23, op := Op.call { callee := Callee.value (Operand.func 10), args := #[Operand.tmp 22], argTypes := #[27] }, type := 27, pos := "law.go:89", after := #[{ on := 0, ground := Ground.data }], guard := none }) rfl (fun K hK => ?_) (AllReadyH.cons (o := { dst := some 5, op := Op.alloc 27, type := 0, pos := "law.go:89", after := #[], guard := none }) rfl (fun K hK => ?_) (AllReadyH.cons (o := { dst := some 6, op := Op.alloc 27, type := 0, pos := "law.go:89", after := #[], guard := none }) rfl (fun K hK => ?_) AllReadyH.nil)))
  · go_simp
    refine (few_any la _ v0 (HX.out.on hHeld)).mono ?_
    rintro e v1 ⟨x9, rfl, hown, hba⟩
    rw [← HFA.out] at hown
    obtain ⟨aa, ca, rfl⟩ := hown.form
    have OA := Lib.hid (OwnR.base hown hHeld.size)
    rw [← HNA.out] at OA ⊢
    refine hK.out _ _ (bch hHeld hba) (fun hHeld => ?_)
    clear hown hba
    (try simp only [Act.put, List.setIfInBounds_toArray, List.set_cons_zero, List.set_cons_succ])
    refine wpAnyH_ready (rs := [3, 4, 5]) (by kernel_rfl) (by simp) (AllReadyH.cons (o := { dst := some 25, op := Op.call { callee := Callee.value (Operand.func 10), args := #[Operand.tmp 24], argTypes := #[27] }, type := 27, pos := "law.go:89", after := #[{ on := 2, ground := Ground.data }, { on := 1, ground := Ground.chain }], guard := none }) rfl (fun K hK => ?_) (AllReadyH.cons (o := { dst := some 5, op := Op.alloc 27, type := 0, pos := "law.go:89", after := #[], guard := none }) rfl (fun K hK => ?_) (AllReadyH.cons (o := { dst := some 6, op := Op.alloc 27, type := 0, pos := "law.go:89", after := #[], guard := none }) rfl (fun K hK => ?_) AllReadyH.nil)))
    · go_simp
      refine (few_any lb _ v1 (HY.out.on hHeld)).mono ?_
      rintro e v3 ⟨x9, rfl, hown, hba⟩
      rw [← HFB.out] at hown
      obtain ⟨ab, cb, rfl⟩ := hown.form
      have OB := Lib.hid (OwnR.base hown hHeld.size)
      rw [← HNB.out] at OB ⊢
      have OA := Lib.hid (OA.out.on hba)
      refine hK.out _ _ (bch hHeld hba) (fun hHeld => ?_)
      clear hown hba
      (try simp only [Act.put, List.setIfInBounds_toArray, List.set_cons_zero, List.set_cons_succ])
      refine wpAnyH_ready (rs := [4, 5]) (by kernel_rfl) (by simp) (AllReadyH.cons (o := { dst := some 5, op := Op.alloc 27, type := 0, pos := "law.go:89", after := #[], guard := none }) rfl (fun K hK => ?_) (AllReadyH.cons (o := { dst := some 6, op := Op.alloc 27, type := 0, pos := "law.go:89", after := #[], guard := none }) rfl (fun K hK => ?_) AllReadyH.nil))
      · go_simp
        have hba : Below v3.heap.size v3 (v3.alloc (.cells #[.slice none 0 0] 27)) := below_new _ _
        have Z7 : Hid (Box (v3.alloc (.cells #[.slice none 0 0] 27)) v3.heap.size 27 #[.slice none 0 0]) := Lib.hid box_new
        have g70 : Hid (w3.heap.size ≤ v3.heap.size) := Lib.hid hHeld.size
        have OA := Lib.hid (OA.out.on hba)
        have OB := Lib.hid (OB.out.on hba)
        obtain ⟨v4, hv9⟩ : ∃ q, q = v3.alloc (.cells #[.slice none 0 0] 27) := ⟨_, rfl⟩
        refine hK.out _ _ (bch hHeld hba) (fun hHeld => ?_)
        clear hba
        rw [← hv9] at Z7 hHeld OA OB ⊢
        clear hv9
        obtain ⟨g7, hg9⟩ : ∃ q, q = v3.heap.size := ⟨_, rfl⟩
        rw [← hg9] at Z7 g70 ⊢
        clear hg9
        (try simp only [Act.put, List.setIfInBounds_toArray, List.set_cons_zero, List.set_cons_succ])
        refine wpAnyH_ready (rs := [5]) (by kernel_rfl) (by simp) (AllReadyH.cons (o := { dst := some 6, op := Op.alloc 27, type := 0, pos := "law.go:89", after := #[], guard := none }) rfl (fun K hK => ?_) AllReadyH.nil)
        · go_simp
          have hba : Below v4.heap.size v4 (v4.alloc (.cells #[.slice none 0 0] 27)) := below_new _ _
          have Z8 : Hid (Box (v4.alloc (.cells #[.slice none 0 0] 27)) v4.heap.size 27 #[.slice none 0 0]) := Lib.hid box_new
          have g80 : Hid (w3.heap.size ≤ v4.heap.size) := Lib.hid hHeld.size
          have HNE0 : Hid (g7 < v4.heap.size) := Lib.hid Z7.out.lt
          have OA := Lib.hid (OA.out.on hba)
          have OB := Lib.hid (OB.out.on hba)
          have Z7 := Lib.hid (Z7.out.on hba)
          obtain ⟨v5, hv9⟩ : ∃ q, q = v4.alloc (.cells #[.slice none 0 0] 27) := ⟨_, rfl⟩
          refine hK.out _ _ (bch hHeld hba) (fun hHeld => ?_)
          clear hba
          rw [← hv9] at Z8 hHeld OA OB Z7 ⊢
          clear hv9
          obtain ⟨g8, hg9⟩ : ∃ q, q = v4.heap.size := ⟨_, rfl⟩
          rw [← hg9] at Z8 g80 HNE0 ⊢
          clear hg9
          have HNE : Hid (g7 ≠ g8) := Lib.hid (by have := HNE0.out; omega)
          (try simp only [Act.put, List.setIfInBounds_toArray, List.set_cons_zero, List.set_cons_succ])
          refine wpAnyH_ready (rs := [6]) (by kernel_rfl) (by simp) (AllReadyH.cons (o := { dst := none, op := Op.store 27 (Operand.tmp 5) (Operand.tmp 23), type := 0, pos := "law.go:89", after := #[{ on := 4, ground := Ground.data }, { on := 1, ground := Ground.data }, { on := 3, ground := Ground.chain }, { on := 0, ground := Ground.phase }, { on := 1, ground := Ground.phase }, { on := 2, ground := Ground.textOnly Departure.lateStores }, { on := 3, ground := Ground.textOnly Departure.lateStoresUnsure }, { on := 4, ground := Ground.phase }, { on := 5, ground := Ground.phase }], guard := none }) rfl (fun K hK => ?_) AllReadyH.nil)
          · have p0 := Z7.out.cell (k := 0) rfl
            have f0 := frozen_of_row v5 _ 0 _ _ Z7.out
            go_simp
            have OA := Lib.hid (OA.out.box Z7.out 0 (.slice aa na ca))
            have OB := Lib.hid (OB.out.box Z7.out 0 (.slice aa na ca))
            have Z8 := Lib.hid (Z8.out.far (p := ⟨g7, 0, none⟩) (by have := HNE.out; show g8 ≠ g7; omega) (.slice aa na ca))
            have Z7 := Lib.hid (Z7.out.set (k := 0) (.slice aa na ca))
            refine hK.out _ _ (hHeld.setCell (p := ⟨g7, 0, none⟩) g70.out (.slice aa na ca)) (fun hHeld => ?_)
            clear p0 f0
            obtain ⟨vq, hv9⟩ : ∃ q, q = v5.setCell ⟨g7, 0, none⟩ (.slice aa na ca) := ⟨_, rfl⟩
            rw [← hv9] at Z7 Z8 OA OB hHeld ⊢
            clear hv9
            (try simp only [Act.put, List.setIfInBounds_toArray, List.set_cons_zero, List.set_cons_succ])
            refine wpAnyH_ready (rs := [7]) (by kernel_rfl) (by simp) (AllReadyH.cons (o := { dst := none, op := Op.store 27 (Operand.tmp 6) (Operand.tmp 25), type := 0, pos := "law.go:89", after := #[{ on := 5, ground := Ground.data }, { on := 3, ground := Ground.data }, { on := 6, ground := Ground.chain }, { on := 0, ground := Ground.phase }, { on := 1, ground := Ground.phase }, { on := 2, ground := Ground.phase }, { on := 3, ground := Ground.phase }, { on := 4, ground := Ground.phase }, { on := 5, ground := Ground.phase }, { on := 6, ground := Ground.phase }], guard := none }) rfl (fun K hK => ?_) AllReadyH.nil)
            · have p0 := Z8.out.cell (k := 0) rfl
              have f0 := frozen_of_row vq _ 0 _ _ Z8.out
              go_simp
              have OA := Lib.hid (OA.out.box Z8.out 0 (.slice ab nb cb))
              have OB := Lib.hid (OB.out.box Z8.out 0 (.slice ab nb cb))
              have Z7 := Lib.hid (Z7.out.far (p := ⟨g8, 0, none⟩) (by have := HNE.out; show g7 ≠ g8; omega) (.slice ab nb cb))
              have Z8 := Lib.hid (Z8.out.set (k := 0) (.slice ab nb cb))
              refine hK.out _ _ (hHeld.setCell (p := ⟨g8, 0, none⟩) g80.out (.slice ab nb cb)) (fun hHeld => ?_)
              clear p0 f0
              (try simp only [Act.put, List.setIfInBounds_toArray, List.set_cons_zero, List.set_cons_succ])
              refine wpAnyH_done (by kernel_rfl) ?_ _
              refine hEnd _ _ _ _ _ _ _ ?_
              exact ⟨_, _, _, _, _, _, rfl, rfl, g70, g80, Z7, Z8, OA, OB, Lib.hid hHeld⟩
      · go_simp
        have hba : Below v3.heap.size v3 (v3.alloc (.cells #[.slice none 0 0] 27)) := below_new _ _
        have Z8 : Hid (Box (v3.alloc (.cells #[.slice none 0 0] 27)) v3.heap.size 27 #[.slice none 0 0]) := Lib.hid box_new
        have g80 : Hid (w3.heap.size ≤ v3.heap.size) := Lib.hid hHeld.size
        have OA := Lib.hid (OA.out.on hba)
        have OB := Lib.hid (OB.out.on hba)
        obtain ⟨v5, hv9⟩ : ∃ q, q = v3.alloc (.cells #[.slice none 0 0] 27) := ⟨_, rfl⟩
        refine hK.out _ _ (bch hHeld hba) (fun hHeld => ?_)
        clear hba
        rw [← hv9] at Z8 hHeld OA OB ⊢
        clear hv9
        obtain ⟨g8, hg9⟩ : ∃ q, q = v3.heap.size := ⟨_, rfl⟩
        rw [← hg9] at Z8 g80 ⊢
        clear hg9
        (try simp only [Act.put, List.setIfInBounds_toArray, List.set_cons_zero, List.set_cons_succ])
        refine wpAnyH_ready (rs := [4]) (by kernel_rfl) (by simp) (AllReadyH.cons (o := { dst := some 5, op := Op.alloc 27, type := 0, pos := "law.go:89", after := #[], guard := none }) rfl (fun K hK => ?_) AllReadyH.nil)
        · go_simp
          have hba : Below v5.heap.size v5 (v5.alloc (.cells #[.slice none 0 0] 27)) := below_new _ _
          have Z7 : Hid (Box (v5.alloc (.cells #[.slice none 0 0] 27)) v5.heap.size 27 #[.slice none 0 0]) := Lib.hid box_new
          have g70 : Hid (w3.heap.size ≤ v5.heap.size) := Lib.hid hHeld.size
          have HNE0 : Hid (g8 < v5.heap.size) := Lib.hid Z8.out.lt
          have OA := Lib.hid (OA.out.on hba)
          have OB := Lib.hid (OB.out.on hba)
          have Z8 := Lib.hid (Z8.out.on hba)
          obtain ⟨v4, hv9⟩ : ∃ q, q = v5.alloc (.cells #[.slice none 0 0] 27) := ⟨_, rfl⟩
          refine hK.out _ _ (bch hHeld hba) (fun hHeld => ?_)
          clear hba
          rw [← hv9] at Z7 hHeld OA OB Z8 ⊢
          clear hv9
          obtain ⟨g7, hg9⟩ : ∃ q, q = v5.heap.size := ⟨_, rfl⟩
          rw [← hg9] at Z7 g70 HNE0 ⊢
          clear hg9
          have HNE : Hid (g7 ≠ g8) := Lib.hid (by have := HNE0.out; omega)
          (try simp only [Act.put, List.setIfInBounds_toArray, List.set_cons_zero, List.set_cons_succ])
          refine wpAnyH_ready (rs := [6]) (by kernel_rfl) (by simp) (AllReadyH.cons (o := { dst := none, op := Op.store 27 (Operand.tmp 5) (Operand.tmp 23), type := 0, pos := "law.go:89", after := #[{ on := 4, ground := Ground.data }, { on := 1, ground := Ground.data }, { on := 3, ground := Ground.chain }, { on := 0, ground := Ground.phase }, { on := 1, ground := Ground.phase }, { on := 2, ground := Ground.textOnly Departure.lateStores }, { on := 3, ground := Ground.textOnly Departure.lateStoresUnsure }, { on := 4, ground := Ground.phase }, { on := 5, ground := Ground.phase }], guard := none }) rfl (fun K hK => ?_) AllReadyH.nil)
          · have p0 := Z7.out.cell (k := 0) rfl
            have f0 := frozen_of_row v4 _ 0 _ _ Z7.out
            go_simp
            have OA := Lib.hid (OA.out.box Z7.out 0 (.slice aa na ca))
            have OB := Lib.hid (OB.out.box Z7.out 0 (.slice aa na ca))
            have Z8 := Lib.hid (Z8.out.far (p := ⟨g7, 0, none⟩) (by have := HNE.out; show g8 ≠ g7; omega) (.slice aa na ca))
            have Z7 := Lib.hid (Z7.out.set (k := 0) (.slice aa na ca))
            refine hK.out _ _ (hHeld.setCell (p := ⟨g7, 0, none⟩) g70.out (.slice aa na ca)) (fun hHeld => ?_)
            clear p0 f0
            obtain ⟨vq, hv9⟩ : ∃ q, q = v4.setCell ⟨g7, 0, none⟩ (.slice aa na ca) := ⟨_, rfl⟩
            rw [← hv9] at Z7 Z8 OA OB hHeld ⊢
            clear hv9
            (try simp only [Act.put, List.setIfInBounds_toArray, List.set_cons_zero, List.set_cons_succ])
            refine wpAnyH_ready (rs := [7]) (by kernel_rfl) (by simp) (AllReadyH.cons (o := { dst := none, op := Op.store 27 (Operand.tmp 6) (Operand.tmp 25), type := 0, pos := "law.go:89", after := #[{ on := 5, ground := Ground.data }, { on := 3, ground := Ground.data }, { on := 6, ground := Ground.chain }, { on := 0, ground := Ground.phase }, { on := 1, ground := Ground.phase }, { on := 2, ground := Ground.phase }, { on := 3, ground := Ground.phase }, { on := 4, ground := Ground.phase }, { on := 5, ground := Ground.phase }, { on := 6, ground := Ground.phase }], guard := none }) rfl (fun K hK => ?_) AllReadyH.nil)
            · have p0 := Z8.out.cell (k := 0) rfl
              have f0 := frozen_of_row vq _ 0 _ _ Z8.out
              go_simp
              have OA := Lib.hid (OA.out.box Z8.out 0 (.slice ab nb cb))
              have OB := Lib.hid (OB.out.box Z8.out 0 (.slice ab nb cb))
              have Z7 := Lib.hid (Z7.out.far (p := ⟨g8, 0, none⟩) (by have := HNE.out; show g7 ≠ g8; omega) (.slice ab nb cb))
              have Z8 := Lib.hid (Z8.out.set (k := 0) (.slice ab nb cb))
              refine hK.out _ _ (hHeld.setCell (p := ⟨g8, 0, none⟩) g80.out (.slice ab nb cb)) (fun hHeld => ?_)
              clear p0 f0
              (try simp only [Act.put, List.setIfInBounds_toArray, List.set_cons_zero, List.set_cons_succ])
              refine wpAnyH_done (by kernel_rfl) ?_ _
              refine hEnd _ _ _ _ _ _ _ ?_
              exact ⟨_, _, _, _, _, _, rfl, rfl, g70, g80, Z7, Z8, OA, OB, Lib.hid hHeld⟩
    · go_simp
      have hba : Below v1.heap.size v1 (v1.alloc (.cells #[.slice none 0 0] 27)) := below_new _ _
      have Z7 : Hid (Box (v1.alloc (.cells #[.slice none 0 0] 27)) v1.heap.size 27 #[.slice none 0 0]) := Lib.hid box_new
      have g70 : Hid (w3.heap.size ≤ v1.heap.size) := Lib.hid hHeld.size
      have OA := Lib.hid (OA.out.on hba)
      obtain ⟨v4, hv9⟩ : ∃ q, q = v1.alloc (.cells #[.slice none 0 0] 27) := ⟨_, rfl⟩
      refine hK.out _ _ (bch hHeld hba) (fun hHeld => ?_)
      clear hba
      rw [← hv9] at Z7 hHeld OA ⊢
      clear hv9
      obtain ⟨g7, hg9⟩ : ∃ q, q = v1.heap.size := ⟨_, rfl⟩
      rw [← hg9] at Z7 g70 ⊢
      clear hg9
      (try simp only [Act.put, List.setIfInBounds_toArray, List.set_cons_zero, List.set_cons_succ])
      refine wpAnyH_ready (rs := [3, 5]) (by kernel_rfl) (by simp) (AllReadyH.cons (o := { dst := some 25, op := Op.call { callee := Callee.value (Operand.func 10), args := #[Operand.tmp 24], argTypes := #[27] }, type := 27, pos := "law.go:89", after := #[{ on := 2, ground := Ground.data }, { on := 1, ground := Ground.chain }], guard := none }) rfl (fun K hK => ?_) (AllReadyH.cons (o := { dst := some 6, op := Op.alloc 27, type := 0, pos := "law.go:89", after := #[], guard := none }) rfl (fun K hK => ?_) AllReadyH.nil))
      · go_simp
        refine (few_any lb _ v4 (HY.out.on hHeld)).mono ?_
        rintro e v3 ⟨x9, rfl, hown, hba⟩
        rw [← HFB.out] at hown
        obtain ⟨ab, cb, rfl⟩ := hown.form
        have OB := Lib.hid (OwnR.base hown hHeld.size)
        rw [← HNB.out] at OB ⊢
        have OA := Lib.hid (OA.out.on hba)
        have Z7 := Lib.hid (Z7.out.on hba)
        refine hK.out _ _ (bch hHeld hba) (fun hHeld => ?_)
        clear hown hba
        (try simp only [Act.put, List.setIfInBounds_toArray, List.set_cons_zero, List.set_cons_succ])
        refine wpAnyH_ready (rs := [5]) (by kernel_rfl) (by simp) (AllReadyH.cons (o := { dst := some 6, op := Op.alloc 27, type := 0, pos := "law.go:89", after := #[], guard := none }) rfl (fun K hK => ?_) AllReadyH.nil)
        · go_simp
          have hba : Below v3.heap.size v3 (v3.alloc (.cells #[.slice none 0 0] 27)) := below_new _ _
          have Z8 : Hid (Box (v3.alloc (.cells #[.slice none 0 0] 27)) v3.heap.size 27 #[.slice none 0 0]) := Lib.hid box_new
          have g80 : Hid (w3.heap.size ≤ v3.heap.size) := Lib.hid hHeld.size
          have HNE0 : Hid (g7 < v3.heap.size) := Lib.hid Z7.out.lt
          have OA := Lib.hid (OA.out.on hba)
          have OB := Lib.hid (OB.out.on hba)
          have Z7 := Lib.hid (Z7.out.on hba)
          obtain ⟨v5, hv9⟩ : ∃ q, q = v3.alloc (.cells #[.slice none 0 0] 27) := ⟨_, rfl⟩
          refine hK.out _ _ (bch hHeld hba) (fun hHeld => ?_)
          clear hba
          rw [← hv9] at Z8 hHeld OA OB Z7 ⊢
          clear hv9
          obtain ⟨g8, hg9⟩ : ∃ q, q = v3.heap.size := ⟨_, rfl⟩
          rw [← hg9] at Z8 g80 HNE0 ⊢
          clear hg9
          have HNE : Hid (g7 ≠ g8) := Lib.hid (by have := HNE0.out; omega)
          (try simp only [Act.put, List.setIfInBounds_toArray, List.set_cons_zero, List.set_cons_succ])
          refine wpAnyH_ready (rs := [6]) (by kernel_rfl) (by simp) (AllReadyH.cons (o := { dst := none, op := Op.store 27 (Operand.tmp 5) (Operand.tmp 23), type := 0, pos := "law.go:89", after := #[{ on := 4, ground := Ground.data }, { on := 1, ground := Ground.data }, { on := 3, ground := Ground.chain }, { on := 0, ground := Ground.phase }, { on := 1, ground := Ground.phase }, { on := 2, ground := Ground.textOnly Departure.lateStores }, { on := 3, ground := Ground.textOnly Departure.lateStoresUnsure }, { on := 4, ground := Ground.phase }, { on := 5, ground := Ground.phase }], guard := none }) rfl (fun K hK => ?_) AllReadyH.nil)
          · have p0 := Z7.out.cell (k := 0) rfl
            have f0 := frozen_of_row v5 _ 0 _ _ Z7.out
            go_simp
            have OA := Lib.hid (OA.out.box Z7.out 0 (.slice aa na ca))
            have OB := Lib.hid (OB.out.box Z7.out 0 (.slice aa na ca))
            have Z8 := Lib.hid (Z8.out.far (p := ⟨g7, 0, none⟩) (by have := HNE.out; show g8 ≠ g7; omega) (.slice aa na ca))
            have Z7 := Lib.hid (Z7.out.set (k := 0) (.slice aa na ca))
            refine hK.out _ _ (hHeld.setCell (p := ⟨g7, 0, none⟩) g70.out (.slice aa na ca)) (fun hHeld => ?_)
            clear p0 f0
            obtain ⟨vq, hv9⟩ : ∃ q, q = v5.setCell ⟨g7, 0, none⟩ (.slice aa na ca) := ⟨_, rfl⟩
            rw [← hv9] at Z7 Z8 OA OB hHeld ⊢
            clear hv9
            (try simp only [Act.put, List.setIfInBounds_toArray, List.set_cons_zero, List.set_cons_succ])
            refine wpAnyH_ready (rs := [7]) (by kernel_rfl) (by simp) (AllReadyH.cons (o := { dst := none, op := Op.store 27 (Operand.tmp 6) (Operand.tmp 25), type := 0, pos := "law.go:89", after := #[{ on := 5, ground := Ground.data }, { on := 3, ground := Ground.data }, { on := 6, ground := Ground.chain }, { on := 0, ground := Ground.phase }, { on := 1, ground := Ground.phase }, { on := 2, ground := Ground.phase }, { on := 3, ground := Ground.phase }, { on := 4, ground := Ground.phase }, { on := 5, ground := Ground.phase }, { on := 6, ground := Ground.phase }], guard := none }) rfl (fun K hK => ?_) AllReadyH.nil)
            · have p0 := Z8.out.cell (k := 0) rfl
              have f0 := frozen_of_row vq _ 0 _ _ Z8.out
              go_simp
              have OA := Lib.hid (OA.out.box Z8.out 0 (.slice ab nb cb))
              have OB := Lib.hid (OB.out.box Z8.out 0 (.slice ab nb cb))
              have Z7 := Lib.hid (Z7.out.far (p := ⟨g8, 0, none⟩) (by have := HNE.out; show g7 ≠ g8; omega) (.slice ab nb cb))
              have Z8 := Lib.hid (Z8.out.set (k := 0) (.slice ab nb cb))
              refine hK.out _ _ (hHeld.setCell (p := ⟨g8, 0, none⟩) g80.out (.slice ab nb cb)) (fun hHeld => ?_)
              clear p0 f0
              (try simp only [Act.put, List.setIfInBounds_toArray, List.set_cons_zero, List.set_cons_succ])
              refine wpAnyH_done (by kernel_rfl) ?_ _
              refine hEnd _ _ _ _ _ _ _ ?_
              exact ⟨_, _, _, _, _, _, rfl, rfl, g70, g80, Z7, Z8, OA, OB, Lib.hid hHeld⟩
      · go_simp
        have hba : Below v4.heap.size v4 (v4.alloc (.cells #[.slice none 0 0] 27)) := below_new _ _
        have Z8 : Hid (Box (v4.alloc (.cells #[.slice none 0 0] 27)) v4.heap.size 27 #[.slice none 0 0]) := Lib.hid box_new
        have g80 : Hid (w3.heap.size ≤ v4.heap.size) := Lib.hid hHeld.size
        have HNE0 : Hid (g7 < v4.heap.size) := Lib.hid Z7.out.lt
        have OA := Lib.hid (OA.out.on hba)
        have Z7 := Lib.hid (Z7.out.on hba)
        obtain ⟨v5, hv9⟩ : ∃ q, q = v4.alloc (.cells #[.slice none 0 0] 27) := ⟨_, rfl⟩
        refine hK.out _ _ (bch hHeld hba) (fun hHeld => ?_)
        clear hba
        rw [← hv9] at Z8 hHeld OA Z7 ⊢
        clear hv9
        obtain ⟨g8, hg9⟩ : ∃ q, q = v4.heap.size := ⟨_, rfl⟩
        rw [← hg9] at Z8 g80 HNE0 ⊢
        clear hg9
        have HNE : Hid (g7 ≠ g8) := Lib.hid (by have := HNE0.out; omega)
        (try simp only [Act.put, List.setIfInBounds_toArray, List.set_cons_zero, List.set_cons_succ])
        refine wpAnyH_ready (rs := [3]) (by kernel_rfl) (by simp) (AllReadyH.cons (o := { dst := some 25, op := Op.call { callee := Callee.value (Operand.func 10), args := #[Operand.tmp 24], argTypes := #[27] }, type := 27, pos := "law.go:89", after := #[{ on := 2, ground := Ground.data }, { on := 1, ground := Ground.chain }], guard := none }) rfl (fun K hK => ?_) AllReadyH.nil)
        · go_simp
          refine (few_any lb _ v5 (HY.out.on hHeld)).mono ?_
          rintro e v3 ⟨x9, rfl, hown, hba⟩
          rw [← HFB.out] at hown
          obtain ⟨ab, cb, rfl⟩ := hown.form
          have OB := Lib.hid (OwnR.base hown hHeld.size)
          rw [← HNB.out] at OB ⊢
          have OA := Lib.hid (OA.out.on hba)
          have Z7 := Lib.hid (Z7.out.on hba)
          have Z8 := Lib.hid (Z8.out.on hba)
          refine hK.out _ _ (bch hHeld hba) (fun hHeld => ?_)
          clear hown hba
          (try simp only [Act.put, List.setIfInBounds_toArray, List.set_cons_zero, List.set_cons_succ])
          refine wpAnyH_ready (rs := [6]) (by kernel_rfl) (by simp) (AllReadyH.cons (o := { dst := none, op := Op.store 27 (Operand.tmp 5) (Operand.tmp 23), type := 0, pos := "law.go:89", after := #[{ on := 4, ground := Ground.data }, { on := 1, ground := Ground.data }, { on := 3, ground := Ground.chain }, { on := 0, ground := Ground.phase }, { on := 1, ground := Ground.phase }, { on := 2, ground := Ground.textOnly Departure.lateStores }, { on := 3, ground := Ground.textOnly Departure.lateStoresUnsure }, { on := 4, ground := Ground.phase }, { on := 5, ground := Ground.phase }], guard := none }) rfl (fun K hK => ?_) AllReadyH.nil)
          · have p0 := Z7.out.cell (k := 0) rfl
            have f0 := frozen_of_row v3 _ 0 _ _ Z7.out
            go_simp
            have OA := Lib.hid (OA.out.box Z7.out 0 (.slice aa na ca))
            have OB := Lib.hid (OB.out.box Z7.out 0 (.slice aa na ca))
            have Z8 := Lib.hid (Z8.out.far (p := ⟨g7, 0, none⟩) (by have := HNE.out; show g8 ≠ g7; omega) (.slice aa na ca))
            have Z7 := Lib.hid (Z7.out.set (k := 0) (.slice aa na ca))
            refine hK.out _ _ (hHeld.setCell (p := ⟨g7, 0, none⟩) g70.out (.slice aa na ca)) (fun hHeld => ?_)
            clear p0 f0
            obtain ⟨vq, hv9⟩ : ∃ q, q = v3.setCell ⟨g7, 0, none⟩ (.slice aa na ca) := ⟨_, rfl⟩
            rw [← hv9] at Z7 Z8 OA OB hHeld ⊢
            clear hv9
            (try simp only [Act.put, List.setIfInBounds_toArray, List.set_cons_zero, List.set_cons_succ])
            refine wpAnyH_ready (rs := [7]) (by kernel_rfl) (by simp) (AllReadyH.cons (o := { dst := none, op := Op.store 27 (Operand.tmp 6) (Operand.tmp 25), type := 0, pos := "law.go:89", after := #[{ on := 5, ground := Ground.data }, { on := 3, ground := Ground.data }, { on := 6, ground := Ground.chain }, { on := 0, ground := Ground.phase }, { on := 1, ground := Ground.phase }, { on := 2, ground := Ground.phase }, { on := 3, ground := Ground.phase }, { on := 4, ground := Ground.phase }, { on := 5, ground := Ground.phase }, { on := 6, ground := Ground.phase }], guard := none }) rfl (fun K hK => ?_) AllReadyH.nil)
            · have p0 := Z8.out.cell (k := 0) rfl
              have f0 := frozen_of_row vq _ 0 _ _ Z8.out
              go_simp
              have OA := Lib.hid (OA.out.box Z8.out 0 (.slice ab nb cb))
              have OB := Lib.hid (OB.out.box Z8.out 0 (.slice ab nb cb))
              have Z7 := Lib.hid (Z7.out.far (p := ⟨g8, 0, none⟩) (by have := HNE.out; show g7 ≠ g8; omega) (.slice ab nb cb))
              have Z8 := Lib.hid (Z8.out.set (k := 0) (.slice ab nb cb))
              refine hK.out _ _ (hHeld.setCell (p := ⟨g8, 0, none⟩) g80.out (.slice ab nb cb)) (fun hHeld => ?_)
              clear p0 f0
              (try simp only [Act.put, List.setIfInBounds_toArray, List.set_cons_zero, List.set_cons_succ])
              refine wpAnyH_done (by kernel_rfl) ?_ _
              refine hEnd _ _ _ _ _ _ _ ?_
              exact ⟨_, _, _, _, _, _, rfl, rfl, g70, g80, Z7, Z8, OA, OB, Lib.hid hHeld⟩
    · go_simp
      have hba : Below v1.heap.size v1 (v1.alloc (.cells #[.slice none 0 0] 27)) := below_new _ _
      have Z8 : Hid (Box (v1.alloc (.cells #[.slice none 0 0] 27)) v1.heap.size 27 #[.slice none 0 0]) := Lib.hid box_new
      have g80 : Hid (w3.heap.size ≤ v1.heap.size) := Lib.hid hHeld.size
      have OA := Lib.hid (OA.out.on hba)
      obtain ⟨v5, hv9⟩ : ∃ q, q = v1.alloc (.cells #[.slice none 0 0] 27) := ⟨_, rfl⟩
      refine hK.out _ _ (bch hHeld hba) (fun hHeld => ?_)
      clear hba
      rw [← hv9] at Z8 hHeld OA ⊢
      clear hv9
      obtain ⟨g8, hg9⟩ : ∃ q, q = v1.heap.size := ⟨_, rfl⟩
      rw [← hg9] at Z8 g80 ⊢
      clear hg9
      (try simp only [Act.put, List.setIfInBounds_toArray, List.set_cons_zero, List.set_cons_succ])
      refine wpAnyH_ready (rs := [3, 4]) (by kernel_rfl) (by simp) (AllReadyH.cons (o := { dst := some 25, op := Op.call { callee := Callee.value (Operand.func 10), args := #[Operand.tmp 24], argTypes := #[27] }, type := 27, pos := "law.go:89", after := #[{ on := 2, ground := Ground.data }, { on := 1, ground := Ground.chain }], guard := none }) rfl (fun K hK => ?_) (AllReadyH.cons (o := { dst := some 5, op := Op.alloc 27, type := 0, pos := "law.go:89", after := #[], guard := none }) rfl (fun K hK => ?_) AllReadyH.nil))
      · go_simp
        refine (few_any lb _ v5 (HY.out.on hHeld)).mono ?_
        rintro e v3 ⟨x9, rfl, hown, hba⟩
        rw [← HFB.out] at hown
        obtain ⟨ab, cb, rfl⟩ := hown.form
        have OB := Lib.hid (OwnR.base hown hHeld.size)
        rw [← HNB.out] at OB ⊢
        have OA := Lib.hid (OA.out.on hba)
        have Z8 := Lib.hid (Z8.out.on hba)
        refine hK.out _ _ (bch hHeld hba) (fun hHeld => ?_)
        clear hown hba
        (try simp only [Act.put, List.setIfInBounds_toArray, List.set_cons_zero, List.set_cons_succ])
        refine wpAnyH_ready (rs := [4]) (by kernel_rfl) (by simp) (AllReadyH.cons (o := { dst := some 5, op := Op.alloc 27, type := 0, pos := "law.go:89", after := #[], guard := none }) rfl (fun K hK => ?_) AllReadyH.nil)
        · go_simp
          have hba : Below v3.heap.size v3 (v3.alloc (.cells #[.slice none 0 0] 27)) := below_new _ _
          have Z7 : Hid (Box (v3.alloc (.cells #[.slice none 0 0] 27)) v3.heap.size 27 #[.slice none 0 0]) := Lib.hid box_new
          have g70 : Hid (w3.heap.size ≤ v3.heap.size) := Lib.hid hHeld.size
          have HNE0 : Hid (g8 < v3.heap.size) := Lib.hid Z8.out.lt
          have OA := Lib.hid (OA.out.on hba)
          have OB := Lib.hid (OB.out.on hba)
          have Z8 := Lib.hid (Z8.out.on hba)
          obtain ⟨v4, hv9⟩ : ∃ q, q = v3.alloc (.cells #[.slice none 0 0] 27) := ⟨_, rfl⟩
          refine hK.out _ _ (bch hHeld hba) (fun hHeld => ?_)
          clear hba
          rw [← hv9] at Z7 hHeld OA OB Z8 ⊢
          clear hv9
          obtain ⟨g7, hg9⟩ : ∃ q, q = v3.heap.size := ⟨_, rfl⟩
          rw [← hg9] at Z7 g70 HNE0 ⊢
          clear hg9
          have HNE : Hid (g7 ≠ g8) := Lib.hid (by have := HNE0.out; omega)
          (try simp only [Act.put, List.setIfInBounds_toArray, List.set_cons_zero, List.set_cons_succ])
          refine wpAnyH_ready (rs := [6]) (by kernel_rfl) (by simp) (AllReadyH.cons (o := { dst := none, op := Op.store 27 (Operand.tmp 5) (Operand.tmp 23), type := 0, pos := "law.go:89", after := #[{ on := 4, ground := Ground.data }, { on := 1, ground := Ground.data }, { on := 3, ground := Ground.chain }, { on := 0, ground := Ground.phase }, { on := 1, ground := Ground.phase }, { on := 2, ground := Ground.textOnly Departure.lateStores }, { on := 3, ground := Ground.textOnly Departure.lateStoresUnsure }, { on := 4, ground := Ground.phase }, { on := 5, ground := Ground.phase }], guard := none }) rfl (fun K hK => ?_) AllReadyH.nil)
          · have p0 := Z7.out.cell (k := 0) rfl
            have f0 := frozen_of_row v4 _ 0 _ _ Z7.out
            go_simp
            have OA := Lib.hid (OA.out.box Z7.out 0 (.slice aa na ca))
            have OB := Lib.hid (OB.out.box Z7.out 0 (.slice aa na ca))
            have Z8 := Lib.hid (Z8.out.far (p := ⟨g7, 0, none⟩) (by have := HNE.out; show g8 ≠ g7; omega) (.slice aa na ca))
            have Z7 := Lib.hid (Z7.out.set (k := 0) (.slice aa na ca))
            refine hK.out _ _ (hHeld.setCell (p := ⟨g7, 0, none⟩) g70.out (.slice aa na ca)) (fun hHeld => ?_)
            clear p0 f0
            obtain ⟨vq, hv9⟩ : ∃ q, q = v4.setCell ⟨g7, 0, none⟩ (.slice aa na ca) := ⟨_, rfl⟩
            rw [← hv9] at Z7 Z8 OA OB hHeld ⊢
            clear hv9
            (try simp only [Act.put, List.setIfInBounds_toArray, List.set_cons_zero, List.set_cons_succ])
            refine wpAnyH_ready (rs := [7]) (by kernel_rfl) (by simp) (AllReadyH.cons (o := { dst := none, op := Op.store 27 (Operand.tmp 6) (Operand.tmp 25), type := 0, pos := "law.go:89", after := #[{ on := 5, ground := Ground.data }, { on := 3, ground := Ground.data }, { on := 6, ground := Ground.chain }, { on := 0, ground := Ground.phase }, { on := 1, ground := Ground.phase }, { on := 2, ground := Ground.phase }, { on := 3, ground := Ground.phase }, { on := 4, ground := Ground.phase }, { on := 5, ground := Ground.phase }, { on := 6, ground := Ground.phase }], guard := none }) rfl (fun K hK => ?_) AllReadyH.nil)
            · have p0 := Z8.out.cell (k := 0) rfl
              have f0 := frozen_of_row vq _ 0 _ _ Z8.out
              go_simp
              have OA := Lib.hid (OA.out.box Z8.out 0 (.slice ab nb cb))
              have OB := Lib.hid (OB.out.box Z8.out 0 (.slice ab nb cb))
              have Z7 := Lib.hid (Z7.out.far (p := ⟨g8, 0, none⟩) (by have := HNE.out; show g7 ≠ g8; omega) (.slice ab nb cb))
              have Z8 := Lib.hid (Z8.out.set (k := 0) (.slice ab nb cb))
              refine hK.out _ _ (hHeld.setCell (p := ⟨g8, 0, none⟩) g80.out (.slice ab nb cb)) (fun hHeld => ?_)
              clear p0 f0
              (try simp only [Act.put, List.setIfInBounds_toArray, List.set_cons_zero, List.set_cons_succ])
              refine wpAnyH_done (by kernel_rfl) ?_ _
              refine hEnd _ _ _ _ _ _ _ ?_
              exact ⟨_, _, _, _, _, _, rfl, rfl, g70, g80, Z7, Z8, OA, OB, Lib.hid hHeld⟩
      · go_simp
        have hba : Below v5.heap.size v5 (v5.alloc (.cells #[.slice none 0 0] 27)) := below_new _ _
        have Z7 : Hid (Box (v5.alloc (.cells #[.slice none 0 0] 27)) v5.heap.size 27 #[.slice none 0 0]) := Lib.hid box_new
        have g70 : Hid (w3.heap.size ≤ v5.heap.size) := Lib.hid hHeld.size
        have HNE0 : Hid (g8 < v5.heap.size) := Lib.hid Z8.out.lt
        have OA := Lib.hid (OA.out.on hba)
        have Z8 := Lib.hid (Z8.out.on hba)
        obtain ⟨v4, hv9⟩ : ∃ q, q = v5.alloc (.cells #[.slice none 0 0] 27) := ⟨_, rfl⟩
        refine hK.out _ _ (bch hHeld hba) (fun hHeld => ?_)
        clear hba
        rw [← hv9] at Z7 hHeld OA Z8 ⊢
        clear hv9
        obtain ⟨g7, hg9⟩ : ∃ q, q = v5.heap.size := ⟨_, rfl⟩
        rw [← hg9] at Z7 g70 HNE0 ⊢
        clear hg9
        have HNE : Hid (g7 ≠ g8) := Lib.hid (by have := HNE0.out; omega)
        (try simp only [Act.put, List.setIfInBounds_toArray, List.set_cons_zero, List.set_cons_succ])
        refine wpAnyH_ready (rs := [3]) (by kernel_rfl) (by simp) (AllReadyH.cons (o := { dst := some 25, op := Op.call { callee := Callee.value (Operand.func 10), args := #[Operand.tmp 24], argTypes := #[27] }, type := 27, pos := "law.go:89", after := #[{ on := 2, ground := Ground.data }, { on := 1, ground := Ground.chain }], guard := none }) rfl (fun K hK => ?_) AllReadyH.nil)
        · go_simp
          refine (few_any lb _ v4 (HY.out.on hHeld)).mono ?_
          rintro e v3 ⟨x9, rfl, hown, hba⟩
          rw [← HFB.out] at hown
          obtain ⟨ab, cb, rfl⟩ := hown.form
          have OB := Lib.hid (OwnR.base hown hHeld.size)
          rw [← HNB.out] at OB ⊢
          have OA := Lib.hid (OA.out.on hba)
          have Z7 := Lib.hid (Z7.out.on hba)
          have Z8 := Lib.hid (Z8.out.on hba)
          refine hK.out _ _ (bch hHeld hba) (fun hHeld => ?_)
          clear hown hba
          (try simp only [Act.put, List.setIfInBounds_toArray, List.set_cons_zero, List.set_cons_succ])
          refine wpAnyH_ready (rs := [6]) (by kernel_rfl) (by simp) (AllReadyH.cons (o := { dst := none, op := Op.store 27 (Operand.tmp 5) (Operand.tmp 23), type := 0, pos := "law.go:89", after := #[{ on := 4, ground := Ground.data }, { on := 1, ground := Ground.data }, { on := 3, ground := Ground.chain }, { on := 0, ground := Ground.phase }, { on := 1, ground := Ground.phase }, { on := 2, ground := Ground.textOnly Departure.lateStores }, { on := 3, ground := Ground.textOnly Departure.lateStoresUnsure }, { on := 4, ground := Ground.phase }, { on := 5, ground := Ground.phase }], guard := none }) rfl (fun K hK => ?_) AllReadyH.nil)
          · have p0 := Z7.out.cell (k := 0) rfl
            have f0 := frozen_of_row v3 _ 0 _ _ Z7.out
            go_simp
            have OA := Lib.hid (OA.out.box Z7.out 0 (.slice aa na ca))
            have OB := Lib.hid (OB.out.box Z7.out 0 (.slice aa na ca))
            have Z8 := Lib.hid (Z8.out.far (p := ⟨g7, 0, none⟩) (by have := HNE.out; show g8 ≠ g7; omega) (.slice aa na ca))
            have Z7 := Lib.hid (Z7.out.set (k := 0) (.slice aa na ca))
            refine hK.out _ _ (hHeld.setCell (p := ⟨g7, 0, none⟩) g70.out (.slice aa na ca)) (fun hHeld => ?_)
            clear p0 f0
            obtain ⟨vq, hv9⟩ : ∃ q, q = v3.setCell ⟨g7, 0, none⟩ (.slice aa na ca) := ⟨_, rfl⟩
            rw [← hv9] at Z7 Z8 OA OB hHeld ⊢
            clear hv9
            (try simp only [Act.put, List.setIfInBounds_toArray, List.set_cons_zero, List.set_cons_succ])
            refine wpAnyH_ready (rs := [7]) (by kernel_rfl) (by simp) (AllReadyH.cons (o := { dst := none, op := Op.store 27 (Operand.tmp 6) (Operand.tmp 25), type := 0, pos := "law.go:89", after := #[{ on := 5, ground := Ground.data }, { on := 3, ground := Ground.data }, { on := 6, ground := Ground.chain }, { on := 0, ground := Ground.phase }, { on := 1, ground := Ground.phase }, { on := 2, ground := Ground.phase }, { on := 3, ground := Ground.phase }, { on := 4, ground := Ground.phase }, { on := 5, ground := Ground.phase }, { on := 6, ground := Ground.phase }], guard := none }) rfl (fun K hK => ?_) AllReadyH.nil)
            · have p0 := Z8.out.cell (k := 0) rfl
              have f0 := frozen_of_row vq _ 0 _ _ Z8.out
              go_simp
              have OA := Lib.hid (OA.out.box Z8.out 0 (.slice ab nb cb))
              have OB := Lib.hid (OB.out.box Z8.out 0 (.slice ab nb cb))
              have Z7 := Lib.hid (Z7.out.far (p := ⟨g8, 0, none⟩) (by have := HNE.out; show g7 ≠ g8; omega) (.slice ab nb cb))
              have Z8 := Lib.hid (Z8.out.set (k := 0) (.slice ab nb cb))
              refine hK.out _ _ (hHeld.setCell (p := ⟨g8, 0, none⟩) g80.out (.slice ab nb cb)) (fun hHeld => ?_)
              clear p0 f0
              (try simp only [Act.put, List.setIfInBounds_toArray, List.set_cons_zero, List.set_cons_succ])
              refine wpAnyH_done (by kernel_rfl) ?_ _
              refine hEnd _ _ _ _ _ _ _ ?_
              exact ⟨_, _, _, _, _, _, rfl, rfl, g70, g80, Z7, Z8, OA, OB, Lib.hid hHeld⟩
  · go_simp
    have hba : Below v0.heap.size v0 (v0.alloc (.cells #[.slice none 0 0] 27)) := below_new _ _
    have Z7 : Hid (Box (v0.alloc (.cells #[.slice none 0 0] 27)) v0.heap.size 27 #[.slice none 0 0]) := Lib.hid box_new
    have g70 : Hid (w3.heap.size ≤ v0.heap.size) := Lib.hid hHeld.size
    obtain ⟨v4, hv9⟩ : ∃ q, q = v0.alloc (.cells #[.slice none 0 0] 27) := ⟨_, rfl⟩
    refine hK.out _ _ (bch hHeld hba) (fun hHeld => ?_)
    clear hba
    rw [← hv9] at Z7 hHeld ⊢
    clear hv9
    obtain ⟨g7, hg9⟩ : ∃ q, q = v0.heap.size := ⟨_, rfl⟩
    rw [← hg9] at Z7 g70 ⊢
    clear hg9
    (try simp only [Act.put, List.setIfInBounds_toArray, List.set_cons_zero, List.set_cons_succ])
    refine wpAnyH_ready (rs := [1, 5]) (by kernel_rfl) (by simp) (AllReadyH.cons (o := { dst := some 23, op := Op.call { callee := Callee.value (Operand.func 10), args := #[Operand.tmp 22], argTypes := #[27] }, type := 27, pos := "law.go:89", after := #[{ on := 0, ground := Ground.data }], guard := none }) rfl (fun K hK => ?_) (AllReadyH.cons (o := { dst := some 6, op := Op.alloc 27, type := 0, pos := "law.go:89", after := #[], guard := none }) rfl (fun K hK => ?_) AllReadyH.nil))
    · go_simp
      refine (few_any la _ v4 (HX.out.on hHeld)).mono ?_
      rintro e v1 ⟨x9, rfl, hown, hba⟩
      rw [← HFA.out] at hown
      obtain ⟨aa, ca, rfl⟩ := hown.form
      have OA := Lib.hid (OwnR.base hown hHeld.size)
      rw [← HNA.out] at OA ⊢
      have Z7 := Lib.hid (Z7.out.on hba)
      refine hK.out _ _ (bch hHeld hba) (fun hHeld => ?_)
      clear hown hba
      (try simp only [Act.put, List.setIfInBounds_toArray, List.set_cons_zero, List.set_cons_succ])
      refine wpAnyH_ready (rs := [3, 5]) (by kernel_rfl) (by simp) (AllReadyH.cons (o := { dst := some 25, op := Op.call { callee := Callee.value (Operand.func 10), args := #[Operand.tmp 24], argTypes := #[27] }, type := 27, pos := "law.go:89", after := #[{ on := 2, ground := Ground.data }, { on := 1, ground := Ground.chain }], guard := none }) rfl (fun K hK => ?_) (AllReadyH.cons (o := { dst := some 6, op := Op.alloc 27, type := 0, pos := "law.go:89", after := #[], guard := none }) rfl (fun K hK => ?_) AllReadyH.nil))
      · go_simp
        refine (few_any lb _ v1 (HY.out.on hHeld)).mono ?_
        rintro e v3 ⟨x9, rfl, hown, hba⟩
        rw [← HFB.out] at hown
        obtain ⟨ab, cb, rfl⟩ := hown.form
        have OB := Lib.hid (OwnR.base hown hHeld.size)
        rw [← HNB.out] at OB ⊢
        have OA := Lib.hid (OA.out.on hba)
        have Z7 := Lib.hid (Z7.out.on hba)
        refine hK.out _ _ (bch hHeld hba) (fun hHeld => ?_)
        clear hown hba
        (try simp only [Act.put, List.setIfInBounds_toArray, List.set_cons_zero, List.set_cons_succ])
        refine wpAnyH_ready (rs := [5]) (by kernel_rfl) (by simp) (AllReadyH.cons (o := { dst := some 6, op := Op.alloc 27, type := 0, pos := "law.go:89", after := #[], guard := none }) rfl (fun K hK => ?_) AllReadyH.nil)
        · go_simp
          have hba : Below v3.heap.size v3 (v3.alloc (.cells #[.slice none 0 0] 27)) := below_new _ _
          have Z8 : Hid (Box (v3.alloc (.cells #[.slice none 0 0] 27)) v3.heap.size 27 #[.slice none 0 0]) := Lib.hid box_new
          have g80 : Hid (w3.heap.size ≤ v3.heap.size) := Lib.hid hHeld.size
          have HNE0 : Hid (g7 < v3.heap.size) := Lib.hid Z7.out.lt
          have OA := Lib.hid (OA.out.on hba)
          have OB := Lib.hid (OB.out.on hba)
          have Z7 := Lib.hid (Z7.out.on hba)
          obtain ⟨v5, hv9⟩ : ∃ q, q = v3.alloc (.cells #[.slice none 0 0] 27) := ⟨_, rfl⟩
          refine hK.out _ _ (bch hHeld hba) (fun hHeld => ?_)
          clear hba
          rw [← hv9] at Z8 hHeld OA OB Z7 ⊢
          clear hv9
          obtain ⟨g8, hg9⟩ : ∃ q, q = v3.heap.size := ⟨_, rfl⟩
          rw [← hg9] at Z8 g80 HNE0 ⊢
          clear hg9
          have HNE : Hid (g7 ≠ g8) := Lib.hid (by have := HNE0.out; omega)
          (try simp only [Act.put, List.setIfInBounds_toArray, List.set_cons_zero, List.set_cons_succ])
          refine wpAnyH_ready (rs := [6]) (by kernel_rfl) (by simp) (AllReadyH.cons (o := { dst := none, op := Op.store 27 (Operand.tmp 5) (Operand.tmp 23), type := 0, pos := "law.go:89", after := #[{ on := 4, ground := Ground.data }, { on := 1, ground := Ground.data }, { on := 3, ground := Ground.chain }, { on := 0, ground := Ground.phase }, { on := 1, ground := Ground.phase }, { on := 2, ground := Ground.textOnly Departure.lateStores }, { on := 3, ground := Ground.textOnly Departure.lateStoresUnsure }, { on := 4, ground := Ground.phase }, { on := 5, ground := Ground.phase }], guard := none }) rfl (fun K hK => ?_) AllReadyH.nil)
          · have p0 := Z7.out.cell (k := 0) rfl
            have f0 := frozen_of_row v5 _ 0 _ _ Z7.out
            go_simp
            have OA := Lib.hid (OA.out.box Z7.out 0 (.slice aa na ca))
            have OB := Lib.hid (OB.out.box Z7.out 0 (.slice aa na ca))
            have Z8 := Lib.hid (Z8.out.far (p := ⟨g7, 0, none⟩) (by have := HNE.out; show g8 ≠ g7; omega) (.slice aa na ca))
            have Z7 := Lib.hid (Z7.out.set (k := 0) (.slice aa na ca))
            refine hK.out _ _ (hHeld.setCell (p := ⟨g7, 0, none⟩) g70.out (.slice aa na ca)) (fun hHeld => ?_)
            clear p0 f0
            obtain ⟨vq, hv9⟩ : ∃ q, q = v5.setCell ⟨g7, 0, none⟩ (.slice aa na ca) := ⟨_, rfl⟩
            rw [← hv9] at Z7 Z8 OA OB hHeld ⊢
            clear hv9
            (try simp only [Act.put, List.setIfInBounds_toArray, List.set_cons_zero, List.set_cons_succ])
            refine wpAnyH_ready (rs := [7]) (by kernel_rfl) (by simp) (AllReadyH.cons (o := { dst := none, op := Op.store 27 (Operand.tmp 6) (Operand.tmp 25), type := 0, pos := "law.go:89", after := #[{ on := 5, ground := Ground.data }, { on := 3, ground := Ground.data }, { on := 6, ground := Ground.chain }, { on := 0, ground := Ground.phase }, { on := 1, ground := Ground.phase }, { on := 2, ground := Ground.phase }, { on := 3, ground := Ground.phase }, { on := 4, ground := Ground.phase }, { on := 5, ground := Ground.phase }, { on := 6, ground := Ground.phase }], guard := none }) rfl (fun K hK => ?_) AllReadyH.nil)
            · have p0 := Z8.out.cell (k := 0) rfl
              have f0 := frozen_of_row vq _ 0 _ _ Z8.out
              go_simp
              have OA := Lib.hid (OA.out.box Z8.out 0 (.slice ab nb cb))
              have OB := Lib.hid (OB.out.box Z8.out 0 (.slice ab nb cb))
              have Z7 := Lib.hid (Z7.out.far (p := ⟨g8, 0, none⟩) (by have := HNE.out; show g7 ≠ g8; omega) (.slice ab nb cb))
              have Z8 := Lib.hid (Z8.out.set (k := 0) (.slice ab nb cb))
              refine hK.out _ _ (hHeld.setCell (p := ⟨g8, 0, none⟩) g80.out (.slice ab nb cb)) (fun hHeld => ?_)
              clear p0 f0
              (try simp only [Act.put, List.setIfInBounds_toArray, List.set_cons_zero, List.set_cons_succ])
              refine wpAnyH_done (by kernel_rfl) ?_ _
              refine hEnd _ _ _ _ _ _ _ ?_
              exact ⟨_, _, _, _, _, _, rfl, rfl, g70, g80, Z7, Z8, OA, OB, Lib.hid hHeld⟩
      · go_simp
        have hba : Below v1.heap.size v1 (v1.alloc (.cells #[.slice none 0 0] 27)) := below_new _ _
        have Z8 : Hid (Box (v1.alloc (.cells #[.slice none 0 0] 27)) v1.heap.size 27 #[.slice none 0 0]) := Lib.hid box_new
        have g80 : Hid (w3.heap.size ≤ v1.heap.size) := Lib.hid hHeld.size
        have HNE0 : Hid (g7 < v1.heap.size) := Lib.hid Z7.out.lt
        have OA := Lib.hid (OA.out.on hba)
        have Z7 := Lib.hid (Z7.out.on hba)
        obtain ⟨v5, hv9⟩ : ∃ q, q = v1.alloc (.cells #[.slice none 0 0] 27) := ⟨_, rfl⟩
        refine hK.out _ _ (bch hHeld hba) (fun hHeld => ?_)
        clear hba
        rw [← hv9] at Z8 hHeld OA Z7 ⊢
        clear hv9
        obtain ⟨g8, hg9⟩ : ∃ q, q = v1.heap.size := ⟨_, rfl⟩
        rw [← hg9] at Z8 g80 HNE0 ⊢
        clear hg9
        have HNE : Hid (g7 ≠ g8) := Lib.hid (by have := HNE0.out; omega)
        (try simp only [Act.put, List.setIfInBounds_toArray, List.set_cons_zero, List.set_cons_succ])
        refine wpAnyH_ready (rs := [3]) (by kernel_rfl) (by simp) (AllReadyH.cons (o := { dst := some 25, op := Op.call { callee := Callee.value (Operand.func 10), args := #[Operand.tmp 24], argTypes := #[27] }, type := 27, pos := "law.go:89", after := #[{ on := 2, ground := Ground.data }, { on := 1, ground := Ground.chain }], guard := none }) rfl (fun K hK => ?_) AllReadyH.nil)
        · go_simp
          refine (few_any lb _ v5 (HY.out.on hHeld)).mono ?_
          rintro e v3 ⟨x9, rfl, hown, hba⟩
          rw [← HFB.out] at hown
          obtain ⟨ab, cb, rfl⟩ := hown.form
          have OB := Lib.hid (OwnR.base hown hHeld.size)
          rw [← HNB.out] at OB ⊢
          have OA := Lib.hid (OA.out.on hba)
          have Z7 := Lib.hid (Z7.out.on hba)
          have Z8 := Lib.hid (Z8.out.on hba)
          refine hK.out _ _ (bch hHeld hba) (fun hHeld => ?_)
          clear hown hba
          (try simp only [Act.put, List.setIfInBounds_toArray, List.set_cons_zero, List.set_cons_succ])
          refine wpAnyH_ready (rs := [6]) (by kernel_rfl) (by simp) (AllReadyH.cons (o := { dst := none, op := Op.store 27 (Operand.tmp 5) (Operand.tmp 23), type := 0, pos := "law.go:89", after := #[{ on := 4, ground := Ground.data }, { on := 1, ground := Ground.data }, { on := 3, ground := Ground.chain }, { on := 0, ground := Ground.phase }, { on := 1, ground := Ground.phase }, { on := 2, ground := Ground.textOnly Departure.lateStores }, { on := 3, ground := Ground.textOnly Departure.lateStoresUnsure }, { on := 4, ground := Ground.phase }, { on := 5, ground := Ground.phase }], guard := none }) rfl (fun K hK => ?_) AllReadyH.nil)
          · have p0 := Z7.out.cell (k := 0) rfl
            have f0 := frozen_of_row v3 _ 0 _ _ Z7.out
            go_simp
            have OA := Lib.hid (OA.out.box Z7.out 0 (.slice aa na ca))
            have OB := Lib.hid (OB.out.box Z7.out 0 (.slice aa na ca))
            have Z8 := Lib.hid (Z8.out.far (p := ⟨g7, 0, none⟩) (by have := HNE.out; show g8 ≠ g7; omega) (.slice aa na ca))
            have Z7 := Lib.hid (Z7.out.set (k := 0) (.slice aa na ca))
            refine hK.out _ _ (hHeld.setCell (p := ⟨g7, 0, none⟩) g70.out (.slice aa na ca)) (fun hHeld => ?_)
            clear p0 f0
            obtain ⟨vq, hv9⟩ : ∃ q, q = v3.setCell ⟨g7, 0, none⟩ (.slice aa na ca) := ⟨_, rfl⟩
            rw [← hv9] at Z7 Z8 OA OB hHeld ⊢
            clear hv9
            (try simp only [Act.put, List.setIfInBounds_toArray, List.set_cons_zero, List.set_cons_succ])
            refine wpAnyH_ready (rs := [7]) (by kernel_rfl) (by simp) (AllReadyH.cons (o := { dst := none, op := Op.store 27 (Operand.tmp 6) (Operand.tmp 25), type := 0, pos := "law.go:89", after := #[{ on := 5, ground := Ground.data }, { on := 3, ground := Ground.data }, { on := 6, ground := Ground.chain }, { on := 0, ground := Ground.phase }, { on := 1, ground := Ground.phase }, { on := 2, ground := Ground.phase }, { on := 3, ground := Ground.phase }, { on := 4, ground := Ground.phase }, { on := 5, ground := Ground.phase }, { on := 6, ground := Ground.phase }], guard := none }) rfl (fun K hK => ?_) AllReadyH.nil)
            · have p0 := Z8.out.cell (k := 0) rfl
              have f0 := frozen_of_row vq _ 0 _ _ Z8.out
              go_simp
              have OA := Lib.hid (OA.out.box Z8.out 0 (.slice ab nb cb))
              have OB := Lib.hid (OB.out.box Z8.out 0 (.slice ab nb cb))
              have Z7 := Lib.hid (Z7.out.far (p := ⟨g8, 0, none⟩) (by have := HNE.out; show g7 ≠ g8; omega) (.slice ab nb cb))
              have Z8 := Lib.hid (Z8.out.set (k := 0) (.slice ab nb cb))
              refine hK.out _ _ (hHeld.setCell (p := ⟨g8, 0, none⟩) g80.out (.slice ab nb cb)) (fun hHeld => ?_)
              clear p0 f0
              (try simp only [Act.put, List.setIfInBounds_toArray, List.set_cons_zero, List.set_cons_succ])
              refine wpAnyH_done (by kernel_rfl) ?_ _
              refine hEnd _ _ _ _ _ _ _ ?_
              exact ⟨_, _, _, _, _, _, rfl, rfl, g70, g80, Z7, Z8, OA, OB, Lib.hid hHeld⟩
    · go_simp
      have hba : Below v4.heap.size v4 (v4.alloc (.cells #[.slice none 0 0] 27)) := below_new _ _
      have Z8 : Hid (Box (v4.alloc (.cells #[.slice none 0 0] 27)) v4.heap.size 27 #[.slice none 0 0]) := Lib.hid box_new
      have g80 : Hid (w3.heap.size ≤ v4.heap.size) := Lib.hid hHeld.size
      have HNE0 : Hid (g7 < v4.heap.size) := Lib.hid Z7.out.lt
      have Z7 := Lib.hid (Z7.out.on hba)
      obtain ⟨v5, hv9⟩ : ∃ q, q = v4.alloc (.cells #[.slice none 0 0] 27) := ⟨_, rfl⟩
      refine hK.out _ _ (bch hHeld hba) (fun hHeld => ?_)
      clear hba
      rw [← hv9] at Z8 hHeld Z7 ⊢
      clear hv9
      obtain ⟨g8, hg9⟩ : ∃ q, q = v4.heap.size := ⟨_, rfl⟩
      rw [← hg9] at Z8 g80 HNE0 ⊢
      clear hg9
      have HNE : Hid (g7 ≠ g8) := Lib.hid (by have := HNE0.out; omega)
      (try simp only [Act.put, List.setIfInBounds_toArray, List.set_cons_zero, List.set_cons_succ])
      refine wpAnyH_ready (rs := [1]) (by kernel_rfl) (by simp) (AllReadyH.cons (o := { dst := some 23, op := Op.call { callee := Callee.value (Operand.func 10), args := #[Operand.tmp 22], argTypes := #[27] }, type := 27, pos := "law.go:89", after := #[{ on := 0, ground := Ground.data }], guard := none }) rfl (fun K hK => ?_) AllReadyH.nil)
      · go_simp
        refine (few_any la _ v5 (HX.out.on hHeld)).mono ?_
        rintro e v1 ⟨x9, rfl, hown, hba⟩
        rw [← HFA.out] at hown
        obtain ⟨aa, ca, rfl⟩ := hown.form
        have OA := Lib.hid (OwnR.base hown hHeld.size)
        rw [← HNA.out] at OA ⊢
        have Z7 := Lib.hid (Z7.out.on hba)
        have Z8 := Lib.hid (Z8.out.on hba)
        refine hK.out _ _ (bch hHeld hba) (fun hHeld => ?_)
        clear hown hba
        (try simp only [Act.put, List.setIfInBounds_toArray, List.set_cons_zero, List.set_cons_succ])
        refine wpAnyH_ready (rs := [3]) (by kernel_rfl) (by simp) (AllReadyH.cons (o := { dst := some 25, op := Op.call { callee := Callee.value (Operand.func 10), args := #[Operand.tmp 24], argTypes := #[27] }, type := 27, pos := "law.go:89", after := #[{ on := 2, ground := Ground.data }, { on := 1, ground := Ground.chain }], guard := none }) rfl (fun K hK => ?_) AllReadyH.nil)
        · go_simp
          refine (few_any lb _ v1 (HY.out.on hHeld)).mono ?_
          rintro e v3 ⟨x9, rfl, hown, hba⟩
          rw [← HFB.out] at hown
          obtain ⟨ab, cb, rfl⟩ := hown.form
          have OB := Lib.hid (OwnR.base hown hHeld.size)
          rw [← HNB.out] at OB ⊢
          have OA := Lib.hid (OA.out.on hba)
          have Z7 := Lib.hid (Z7.out.on hba)
          have Z8 := Lib.hid (Z8.out.on hba)
          refine hK.out _ _ (bch hHeld hba) (fun hHeld => ?_)
          clear hown hba
          (try simp only [Act.put, List.setIfInBounds_toArray, List.set_cons_zero, List.set_cons_succ])
          refine wpAnyH_ready (rs := [6]) (by kernel_rfl) (by simp) (AllReadyH.cons (o := { dst := none, op := Op.store 27 (Operand.tmp 5) (Operand.tmp 23), type := 0, pos := "law.go:89", after := #[{ on := 4, ground := Ground.data }, { on := 1, ground := Ground.data }, { on := 3, ground := Ground.chain }, { on := 0, ground := Ground.phase }, { on := 1, ground := Ground.phase }, { on := 2, ground := Ground.textOnly Departure.lateStores }, { on := 3, ground := Ground.textOnly Departure.lateStoresUnsure }, { on := 4, ground := Ground.phase }, { on := 5, ground := Ground.phase }], guard := none }) rfl (fun K hK => ?_) AllReadyH.nil)
          · have p0 := Z7.out.cell (k := 0) rfl
            have f0 := frozen_of_row v3 _ 0 _ _ Z7.out
            go_simp
            have OA := Lib.hid (OA.out.box Z7.out 0 (.slice aa na ca))
            have OB := Lib.hid (OB.out.box Z7.out 0 (.slice aa na ca))
            have Z8 := Lib.hid (Z8.out.far (p := ⟨g7, 0, none⟩) (by have := HNE.out; show g8 ≠ g7; omega) (.slice aa na ca))
            have Z7 := Lib.hid (Z7.out.set (k := 0) (.slice aa na ca))
            refine hK.out _ _ (hHeld.setCell (p := ⟨g7, 0, none⟩) g70.out (.slice aa na ca)) (fun hHeld => ?_)
            clear p0 f0
            obtain ⟨vq, hv9⟩ : ∃ q, q = v3.setCell ⟨g7, 0, none⟩ (.slice aa na ca) := ⟨_, rfl⟩
            rw [← hv9] at Z7 Z8 OA OB hHeld ⊢
            clear hv9
            (try simp only [Act.put, List.setIfInBounds_toArray, List.set_cons_zero, List.set_cons_succ])
            refine wpAnyH_ready (rs := [7]) (by kernel_rfl) (by simp) (AllReadyH.cons (o := { dst := none, op := Op.store 27 (Operand.tmp 6) (Operand.tmp 25), type := 0, pos := "law.go:89", after := #[{ on := 5, ground := Ground.data }, { on := 3, ground := Ground.data }, { on := 6, ground := Ground.chain }, { on := 0, ground := Ground.phase }, { on := 1, ground := Ground.phase }, { on := 2, ground := Ground.phase }, { on := 3, ground := Ground.phase }, { on := 4, ground := Ground.phase }, { on := 5, ground := Ground.phase }, { on := 6, ground := Ground.phase }], guard := none }) rfl (fun K hK => ?_) AllReadyH.nil)
            · have p0 := Z8.out.cell (k := 0) rfl
              have f0 := frozen_of_row vq _ 0 _ _ Z8.out
              go_simp
              have OA := Lib.hid (OA.out.box Z8.out 0 (.slice ab nb cb))
              have OB := Lib.hid (OB.out.box Z8.out 0 (.slice ab nb cb))
              have Z7 := Lib.hid (Z7.out.far (p := ⟨g8, 0, none⟩) (by have := HNE.out; show g7 ≠ g8; omega) (.slice ab nb cb))
              have Z8 := Lib.hid (Z8.out.set (k := 0) (.slice ab nb cb))
              refine hK.out _ _ (hHeld.setCell (p := ⟨g8, 0, none⟩) g80.out (.slice ab nb cb)) (fun hHeld => ?_)
              clear p0 f0
              (try simp only [Act.put, List.setIfInBounds_toArray, List.set_cons_zero, List.set_cons_succ])
              refine wpAnyH_done (by kernel_rfl) ?_ _
              refine hEnd _ _ _ _ _ _ _ ?_
              exact ⟨_, _, _, _, _, _, rfl, rfl, g70, g80, Z7, Z8, OA, OB, Lib.hid hHeld⟩
  · go_simp
    have hba : Below v0.heap.size v0 (v0.alloc (.cells #[.slice none 0 0] 27)) := below_new _ _
    have Z8 : Hid (Box (v0.alloc (.cells #[.slice none 0 0] 27)) v0.heap.size 27 #[.slice none 0 0]) := Lib.hid box_new
    have g80 : Hid (w3.heap.size ≤ v0.heap.size) := Lib.hid hHeld.size
    obtain ⟨v5, hv9⟩ : ∃ q, q = v0.alloc (.cells #[.slice none 0 0] 27) := ⟨_, rfl⟩
    refine hK.out _ _ (bch hHeld hba) (fun hHeld => ?_)
    clear hba
    rw [← hv9] at Z8 hHeld ⊢
    clear hv9
    obtain ⟨g8, hg9⟩ : ∃ q, q = v0.heap.size := ⟨_, rfl⟩
    rw [← hg9] at Z8 g80 ⊢
    clear hg9
    (try simp only [Act.put, List.setIfInBounds_toArray, List.set_cons_zero, List.set_cons_succ])
    refine wpAnyH_ready (rs := [1, 4]) (by kernel_rfl) (by simp) (AllReadyH.cons (o := { dst := some 23, op := Op.call { callee := Callee.value (Operand.func 10), args := #[Operand.tmp 22], argTypes := #[27] }, type := 27, pos := "law.go:89", after := #[{ on := 0, ground := Ground.data }], guard := none }) rfl (fun K hK => ?_) (AllReadyH.cons (o := { dst := some 5, op := Op.alloc 27, type := 0, pos := "law.go:89", after := #[], guard := none }) rfl (fun K hK => ?_) AllReadyH.nil))
    · go_simp
      refine (few_any la _ v5 (HX.out.on hHeld)).mono ?_
      rintro e v1 ⟨x9, rfl, hown, hba⟩
      rw [← HFA.out] at hown
      obtain ⟨aa, ca, rfl⟩ := hown.form
      have OA := Lib.hid (OwnR.base hown hHeld.size)
      rw [← HNA.out] at OA ⊢
      have Z8 := Lib.hid (Z8.out.on hba)
      refine hK.out _ _ (bch hHeld hba) (fun hHeld => ?_)
      clear hown hba
      (try simp only [Act.put, List.setIfInBounds_toArray, List.set_cons_zero, List.set_cons_succ])
      refine wpAnyH_ready (rs := [3, 4]) (by kernel_rfl) (by simp) (AllReadyH.cons (o := { dst := some 25, op := Op.call { callee := Callee.value (Operand.func 10), args := #[Operand.tmp 24], argTypes := #[27] }, type := 27, pos := "law.go:89", after := #[{ on := 2, ground := Ground.data }, { on := 1, ground := Ground.chain }], guard := none }) rfl (fun K hK => ?_) (AllReadyH.cons (o := { dst := some 5, op := Op.alloc 27, type := 0, pos := "law.go:89", after := #[], guard := none }) rfl (fun K hK => ?_) AllReadyH.nil))
      · go_simp
        refine (few_any lb _ v1 (HY.out.on hHeld)).mono ?_
        rintro e v3 ⟨x9, rfl, hown, hba⟩
        rw [← HFB.out] at hown
        obtain ⟨ab, cb, rfl⟩ := hown.form
        have OB := Lib.hid (OwnR.base hown hHeld.size)
        rw [← HNB.out] at OB ⊢
        have OA := Lib.hid (OA.out.on hba)
        have Z8 := Lib.hid (Z8.out.on hba)
        refine hK.out _ _ (bch hHeld hba) (fun hHeld => ?_)
        clear hown hba
        (try simp only [Act.put, List.setIfInBounds_toArray, List.set_cons_zero, List.set_cons_succ])
        refine wpAnyH_ready (rs := [4]) (by kernel_rfl) (by simp) (AllReadyH.cons (o := { dst := some 5, op := Op.alloc 27, type := 0, pos := "law.go:89", after := #[], guard := none }) rfl (fun K hK => ?_) AllReadyH.nil)
        · go_simp
          have hba : Below v3.heap.size v3 (v3.alloc (.cells #[.slice none 0 0] 27)) := below_new _ _
          have Z7 : Hid (Box (v3.alloc (.cells #[.slice none 0 0] 27)) v3.heap.size 27 #[.slice none 0 0]) := Lib.hid box_new
          have g70 : Hid (w3.heap.size ≤ v3.heap.size) := Lib.hid hHeld.size
          have HNE0 : Hid (g8 < v3.heap.size) := Lib.hid Z8.out.lt
          have OA := Lib.hid (OA.out.on hba)
          have OB := Lib.hid (OB.out.on hba)
          have Z8 := Lib.hid (Z8.out.on hba)
          obtain ⟨v4, hv9⟩ : ∃ q, q = v3.alloc (.cells #[.slice none 0 0] 27) := ⟨_, rfl⟩
          refine hK.out _ _ (bch hHeld hba) (fun hHeld => ?_)
          clear hba
          rw [← hv9] at Z7 hHeld OA OB Z8 ⊢
          clear hv9
          obtain ⟨g7, hg9⟩ : ∃ q, q = v3.heap.size := ⟨_, rfl⟩
          rw [← hg9] at Z7 g70 HNE0 ⊢
          clear hg9
          have HNE : Hid (g7 ≠ g8) := Lib.hid (by have := HNE0.out; omega)
          (try simp only [Act.put, List.setIfInBounds_toArray, List.set_cons_zero, List.set_cons_succ])
          refine wpAnyH_ready (rs := [6]) (by kernel_rfl) (by simp) (AllReadyH.cons (o := { dst := none, op := Op.store 27 (Operand.tmp 5) (Operand.tmp 23), type := 0, pos := "law.go:89", after := #[{ on := 4, ground := Ground.data }, { on := 1, ground := Ground.data }, { on := 3, ground := Ground.chain }, { on := 0, ground := Ground.phase }, { on := 1, ground := Ground.phase }, { on := 2, ground := Ground.textOnly Departure.lateStores }, { on := 3, ground := Ground.textOnly Departure.lateStoresUnsure }, { on := 4, ground := Ground.phase }, { on := 5, ground := Ground.phase }], guard := none }) rfl (fun K hK => ?_) AllReadyH.nil)
          · have p0 := Z7.out.cell (k := 0) rfl
            have f0 := frozen_of_row v4 _ 0 _ _ Z7.out
            go_simp
            have OA := Lib.hid (OA.out.box Z7.out 0 (.slice aa na ca))
            have OB := Lib.hid (OB.out.box Z7.out 0 (.slice aa na ca))
            have Z8 := Lib.hid (Z8.out.far (p := ⟨g7, 0, none⟩) (by have := HNE.out; show g8 ≠ g7; omega) (.slice aa na ca))
            have Z7 := Lib.hid (Z7.out.set (k := 0) (.slice aa na ca))
            refine hK.out _ _ (hHeld.setCell (p := ⟨g7, 0, none⟩) g70.out (.slice aa na ca)) (fun hHeld => ?_)
            clear p0 f0
            obtain ⟨vq, hv9⟩ : ∃ q, q = v4.setCell ⟨g7, 0, none⟩ (.slice aa na ca) := ⟨_, rfl⟩
            rw [← hv9] at Z7 Z8 OA OB hHeld ⊢
            clear hv9
            (try simp only [Act.put, List.setIfInBounds_toArray, List.set_cons_zero, List.set_cons_succ])
            refine wpAnyH_ready (rs := [7]) (by kernel_rfl) (by simp) (AllReadyH.cons (o := { dst := none, op := Op.store 27 (Operand.tmp 6) (Operand.tmp 25), type := 0, pos := "law.go:89", after := #[{ on := 5, ground := Ground.data }, { on := 3, ground := Ground.data }, { on := 6, ground := Ground.chain }, { on := 0, ground := Ground.phase }, { on := 1, ground := Ground.phase }, { on := 2, ground := Ground.phase }, { on := 3, ground := Ground.phase }, { on := 4, ground := Ground.phase }, { on := 5, ground := Ground.phase }, { on := 6, ground := Ground.phase }], guard := none }) rfl (fun K hK => ?_) AllReadyH.nil)
            · have p0 := Z8.out.cell (k := 0) rfl
              have f0 := frozen_of_row vq _ 0 _ _ Z8.out
              go_simp
              have OA := Lib.hid (OA.out.box Z8.out 0 (.slice ab nb cb))
              have OB := Lib.hid (OB.out.box Z8.out 0 (.slice ab nb cb))
              have Z7 := Lib.hid (Z7.out.far (p := ⟨g8, 0, none⟩) (by have := HNE.out; show g7 ≠ g8; omega) (.slice ab nb cb))
              have Z8 := Lib.hid (Z8.out.set (k := 0) (.slice ab nb cb))
              refine hK.out _ _ (hHeld.setCell (p := ⟨g8, 0, none⟩) g80.out (.slice ab nb cb)) (fun hHeld => ?_)
              clear p0 f0
              (try simp only [Act.put, List.setIfInBounds_toArray, List.set_cons_zero, List.set_cons_succ])
              refine wpAnyH_done (by kernel_rfl) ?_ _
              refine hEnd _ _ _ _ _ _ _ ?_
              exact ⟨_, _, _, _, _, _, rfl, rfl, g70, g80, Z7, Z8, OA, OB, Lib.hid hHeld⟩
      · go_simp
        have hba : Below v1.heap.size v1 (v1.alloc (.cells #[.slice none 0 0] 27)) := below_new _ _
        have Z7 : Hid (Box (v1.alloc (.cells #[.slice none 0 0] 27)) v1.heap.size 27 #[.slice none 0 0]) := Lib.hid box_new
        have g70 : Hid (w3.heap.size ≤ v1.heap.size) := Lib.hid hHeld.size
        have HNE0 : Hid (g8 < v1.heap.size) := Lib.hid Z8.out.lt
        have OA := Lib.hid (OA.out.on hba)
        have Z8 := Lib.hid (Z8.out.on hba)
        obtain ⟨v4, hv9⟩ : ∃ q, q = v1.alloc (.cells #[.slice none 0 0] 27) := ⟨_, rfl⟩
        refine hK.out _ _ (bch hHeld hba) (fun hHeld => ?_)
        clear hba
        rw [← hv9] at Z7 hHeld OA Z8 ⊢
        clear hv9
        obtain ⟨g7, hg9⟩ : ∃ q, q = v1.heap.size := ⟨_, rfl⟩
        rw [← hg9] at Z7 g70 HNE0 ⊢
        clear hg9
        have HNE : Hid (g7 ≠ g8) := Lib.hid (by have := HNE0.out; omega)
        (try simp only [Act.put, List.setIfInBounds_toArray, List.set_cons_zero, List.set_cons_succ])
        refine wpAnyH_ready (rs := [3]) (by kernel_rfl) (by simp) (AllReadyH.cons (o := { dst := some 25, op := Op.call { callee := Callee.value (Operand.func 10), args := #[Operand.tmp 24], argTypes := #[27] }, type := 27, pos := "law.go:89", after := #[{ on := 2, ground := Ground.data }, { on := 1, ground := Ground.chain }], guard := none }) rfl (fun K hK => ?_) AllReadyH.nil)
        · go_simp
          refine (few_any lb _ v4 (HY.out.on hHeld)).mono ?_
          rintro e v3 ⟨x9, rfl, hown, hba⟩
          rw [← HFB.out] at hown
          obtain ⟨ab, cb, rfl⟩ := hown.form
          have OB := Lib.hid (OwnR.base hown hHeld.size)
          rw [← HNB.out] at OB ⊢
          have OA := Lib.hid (OA.out.on hba)
          have Z7 := Lib.hid (Z7.out.on hba)
          have Z8 := Lib.hid (Z8.out.on hba)
          refine hK.out _ _ (bch hHeld hba) (fun hHeld => ?_)
          clear hown hba
          (try simp only [Act.put, List.setIfInBounds_toArray, List.set_cons_zero, List.set_cons_succ])
          refine wpAnyH_ready (rs := [6]) (by kernel_rfl) (by simp) (AllReadyH.cons (o := { dst := none, op := Op.store 27 (Operand.tmp 5) (Operand.tmp 23), type := 0, pos := "law.go:89", after := #[{ on := 4, ground := Ground.data }, { on := 1, ground := Ground.data }, { on := 3, ground := Ground.chain }, { on := 0, ground := Ground.phase }, { on := 1, ground := Ground.phase }, { on := 2, ground := Ground.textOnly Departure.lateStores }, { on := 3, ground := Ground.textOnly Departure.lateStoresUnsure }, { on := 4, ground := Ground.phase }, { on := 5, ground := Ground.phase }], guard := none }) rfl (fun K hK => ?_) AllReadyH.nil)
          · have p0 := Z7.out.cell (k := 0) rfl
            have f0 := frozen_of_row v3 _ 0 _ _ Z7.out
            go_simp
            have OA := Lib.hid (OA.out.box Z7.out 0 (.slice aa na ca))
            have OB := Lib.hid (OB.out.box Z7.out 0 (.slice aa na ca))
            have Z8 := Lib.hid (Z8.out.far (p := ⟨g7, 0, none⟩) (by have := HNE.out; show g8 ≠ g7; omega) (.slice aa na ca))
            have Z7 := Lib.hid (Z7.out.set (k := 0) (.slice aa na ca))
            refine hK.out _ _ (hHeld.setCell (p := ⟨g7, 0, none⟩) g70.out (.slice aa na ca)) (fun hHeld => ?_)
            clear p0 f0
            obtain ⟨vq, hv9⟩ : ∃ q, q = v3.setCell ⟨g7, 0, none⟩ (.slice aa na ca) := ⟨_, rfl⟩
            rw [← hv9] at Z7 Z8 OA OB hHeld ⊢
            clear hv9
            (try simp only [Act.put, List.setIfInBounds_toArray, List.set_cons_zero, List.set_cons_succ])
            refine wpAnyH_ready (rs := [7]) (by kernel_rfl) (by simp) (AllReadyH.cons (o := { dst := none, op := Op.store 27 (Operand.tmp 6) (Operand.tmp 25), type := 0, pos := "law.go:89", after := #[{ on := 5, ground := Ground.data }, { on := 3, ground := Ground.data }, { on := 6, ground := Ground.chain }, { on := 0, ground := Ground.phase }, { on := 1, ground := Ground.phase }, { on := 2, ground := Ground.phase }, { on := 3, ground := Ground.phase }, { on := 4, ground := Ground.phase }, { on := 5, ground := Ground.phase }, { on := 6, ground := Ground.phase }], guard := none }) rfl (fun K hK => ?_) AllReadyH.nil)
            · have p0 := Z8.out.cell (k := 0) rfl
              have f0 := frozen_of_row vq _ 0 _ _ Z8.out
              go_simp
              have OA := Lib.hid (OA.out.box Z8.out 0 (.slice ab nb cb))
              have OB := Lib.hid (OB.out.box Z8.out 0 (.slice ab nb cb))
              have Z7 := Lib.hid (Z7.out.far (p := ⟨g8, 0, none⟩) (by have := HNE.out; show g7 ≠ g8; omega) (.slice ab nb cb))
              have Z8 := Lib.hid (Z8.out.set (k := 0) (.slice ab nb cb))
              refine hK.out _ _ (hHeld.setCell (p := ⟨g8, 0, none⟩) g80.out (.slice ab nb cb)) (fun hHeld => ?_)
              clear p0 f0
              (try simp only [Act.put, List.setIfInBounds_toArray, List.set_cons_zero, List.set_cons_succ])
              refine wpAnyH_done (by kernel_rfl) ?_ _
              refine hEnd _ _ _ _ _ _ _ ?_
              exact ⟨_, _, _, _, _, _, rfl, rfl, g70, g80, Z7, Z8, OA, OB, Lib.hid hHeld⟩
    · go_simp
      have hba : Below v5.heap.size v5 (v5.alloc (.cells #[.slice none 0 0] 27)) := below_new _ _
      have Z7 : Hid (Box (v5.alloc (.cells #[.slice none 0 0] 27)) v5.heap.size 27 #[.slice none 0 0]) := Lib.hid box_new
      have g70 : Hid (w3.heap.size ≤ v5.heap.size) := Lib.hid hHeld.size
      have HNE0 : Hid (g8 < v5.heap.size) := Lib.hid Z8.out.lt
      have Z8 := Lib.hid (Z8.out.on hba)
      obtain ⟨v4, hv9⟩ : ∃ q, q = v5.alloc (.cells #[.slice none 0 0] 27) := ⟨_, rfl⟩
      refine hK.out _ _ (bch hHeld hba) (fun hHeld => ?_)
      clear hba
      rw [← hv9] at Z7 hHeld Z8 ⊢
      clear hv9
      obtain ⟨g7, hg9⟩ : ∃ q, q = v5.heap.size := ⟨_, rfl⟩
      rw [← hg9] at Z7 g70 HNE0 ⊢
      clear hg9
      have HNE : Hid (g7 ≠ g8) := Lib.hid (by have := HNE0.out; omega)
      (try simp only [Act.put, List.setIfInBounds_toArray, List.set_cons_zero, List.set_cons_succ])
      refine wpAnyH_ready (rs := [1]) (by kernel_rfl) (by simp) (AllReadyH.cons (o := { dst := some 23, op := Op.call { callee := Callee.value (Operand.func 10), args := #[Operand.tmp 22], argTypes := #[27] }, type := 27, pos := "law.go:89", after := #[{ on := 0, ground := Ground.data }], guard := none }) rfl (fun K hK => ?_) AllReadyH.nil)
      · go_simp
        refine (few_any la _ v4 (HX.out.on hHeld)).mono ?_
        rintro e v1 ⟨x9, rfl, hown, hba⟩
        rw [← HFA.out] at hown
        obtain ⟨aa, ca, rfl⟩ := hown.form
        have OA := Lib.hid (OwnR.base hown hHeld.size)
        rw [← HNA.out] at OA ⊢
        have Z7 := Lib.hid (Z7.out.on hba)
        have Z8 := Lib.hid (Z8.out.on hba)
        refine hK.out _ _ (bch hHeld hba) (fun hHeld => ?_)
        clear hown hba
        (try simp only [Act.put, List.setIfInBounds_toArray, List.set_cons_zero, List.set_cons_succ])
        refine wpAnyH_ready (rs := [3]) (by kernel_rfl) (by simp) (AllReadyH.cons (o := { dst := some 25, op := Op.call { callee := Callee.value (Operand.func 10), args := #[Operand.tmp 24], argTypes := #[27] }, type := 27, pos := "law.go:89", after := #[{ on := 2, ground := Ground.data }, { on := 1, ground := Ground.chain }], guard := none }) rfl (fun K hK => ?_) AllReadyH.nil)
        · go_simp
          refine (few_any lb _ v1 (HY.out.on hHeld)).mono ?_
          rintro e v3 ⟨x9, rfl, hown, hba⟩
          rw [← HFB.out] at hown
          obtain ⟨ab, cb, rfl⟩ := hown.form
          have OB := Lib.hid (OwnR.base hown hHeld.size)
          rw [← HNB.out] at OB ⊢
          have OA := Lib.hid (OA.out.on hba)
          have Z7 := Lib.hid (Z7.out.on hba)
          have Z8 := Lib.hid (Z8.out.on hba)
          refine hK.out _ _ (bch hHeld hba) (fun hHeld => ?_)
          clear hown hba
          (try simp only [Act.put, List.setIfInBounds_toArray, List.set_cons_zero, List.set_cons_succ])
          refine wpAnyH_ready (rs := [6]) (by kernel_rfl) (by simp) (AllReadyH.cons (o := { dst := none, op := Op.store 27 (Operand.tmp 5) (Operand.tmp 23), type := 0, pos := "law.go:89", after := #[{ on := 4, ground := Ground.data }, { on := 1, ground := Ground.data }, { on := 3, ground := Ground.chain }, { on := 0, ground := Ground.phase }, { on := 1, ground := Ground.phase }, { on := 2, ground := Ground.textOnly Departure.lateStores }, { on := 3, ground := Ground.textOnly Departure.lateStoresUnsure }, { on := 4, ground := Ground.phase }, { on := 5, ground := Ground.phase }], guard := none }) rfl (fun K hK => ?_) AllReadyH.nil)
          · have p0 := Z7.out.cell (k := 0) rfl
            have f0 := frozen_of_row v3 _ 0 _ _ Z7.out
            go_simp
            have OA := Lib.hid (OA.out.box Z7.out 0 (.slice aa na ca))
            have OB := Lib.hid (OB.out.box Z7.out 0 (.slice aa na ca))
            have Z8 := Lib.hid (Z8.out.far (p := ⟨g7, 0, none⟩) (by have := HNE.out; show g8 ≠ g7; omega) (.slice aa na ca))
            have Z7 := Lib.hid (Z7.out.set (k := 0) (.slice aa na ca))
            refine hK.out _ _ (hHeld.setCell (p := ⟨g7, 0, none⟩) g70.out (.slice aa na ca)) (fun hHeld => ?_)
            clear p0 f0
            obtain ⟨vq, hv9⟩ : ∃ q, q = v3.setCell ⟨g7, 0, none⟩ (.slice aa na ca) := ⟨_, rfl⟩
            rw [← hv9] at Z7 Z8 OA OB hHeld ⊢
            clear hv9
            (try simp only [Act.put, List.setIfInBounds_toArray, List.set_cons_zero, List.set_cons_succ])
            refine wpAnyH_ready (rs := [7]) (by kernel_rfl) (by simp) (AllReadyH.cons (o := { dst := none, op := Op.store 27 (Operand.tmp 6) (Operand.tmp 25), type := 0, pos := "law.go:89", after := #[{ on := 5, ground := Ground.data }, { on := 3, ground := Ground.data }, { on := 6, ground := Ground.chain }, { on := 0, ground := Ground.phase }, { on := 1, ground := Ground.phase }, { on := 2, ground := Ground.phase }, { on := 3, ground := Ground.phase }, { on := 4, ground := Ground.phase }, { on := 5, ground := Ground.phase }, { on := 6, ground := Ground.phase }], guard := none }) rfl (fun K hK => ?_) AllReadyH.nil)
            · have p0 := Z8.out.cell (k := 0) rfl
              have f0 := frozen_of_row vq _ 0 _ _ Z8.out
              go_simp
              have OA := Lib.hid (OA.out.box Z8.out 0 (.slice ab nb cb))
              have OB := Lib.hid (OB.out.box Z8.out 0 (.slice ab nb cb))
              have Z7 := Lib.hid (Z7.out.far (p := ⟨g8, 0, none⟩) (by have := HNE.out; show g7 ≠ g8; omega) (.slice ab nb cb))
              have Z8 := Lib.hid (Z8.out.set (k := 0) (.slice ab nb cb))
              refine hK.out _ _ (hHeld.setCell (p := ⟨g8, 0, none⟩) g80.out (.slice ab nb cb)) (fun hHeld => ?_)
              clear p0 f0
              (try simp only [Act.put, List.setIfInBounds_toArray, List.set_cons_zero, List.set_cons_succ])
              refine wpAnyH_done (by kernel_rfl) ?_ _
              refine hEnd _ _ _ _ _ _ _ ?_
              exact ⟨_, _, _, _, _, _, rfl, rfl, g70, g80, Z7, Z8, OA, OB, Lib.hid hHeld⟩
end Go.Proofs.YtlfehjjnepiljaaGreatDoor
