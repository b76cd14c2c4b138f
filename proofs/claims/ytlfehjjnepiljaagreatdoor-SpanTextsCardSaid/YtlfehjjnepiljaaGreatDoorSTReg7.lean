/- Proved here: the first region of SpanTexts that draws its order: few of a span and of the first span, each in a variable of its own. -/
import Derived.Test.YtlfehjjnepiljaaGreatDoorSArgT
namespace Go.Proofs.YtlfehjjnepiljaaGreatDoor
open Go.RowKit Go.Shelf

set_option maxRecDepth 100000 in
set_option maxHeartbeats 40000000 in
theorem texts_reg7 (l l0 fa fb : List (List Bd)) (ak a0 : Option Addr) (nk ck n0 c0 na nb n cx g o g6 : Nat) (w1 : World) (k0 : 0 < n) (R00 : Hid (w1.cell? ⟨g, o, none⟩ = some (.slice a0 n0 c0))) (HGL : Hid (g < w1.heap.size)) (HXK : Hid (RdR w1 (.slice ak nk ck) l)) (HX0 : Hid (RdR w1 (.slice a0 n0 c0) l0)) (Y6 : Hid (Box w1 g6 27 #[.slice ak nk ck]))
    (HFA : Hid (fa = fewR l)) (HFB : Hid (fb = fewR l0)) (HNA : Hid (na = fa.length)) (HNB : Hid (nb = fb.length)) (s1 s2 s3 s4 s5 s7 s8 s9 s10 s11 s12 s13 s14 s15 s16 s17 s18 s19 s20 s21 s22 s23 s24 s25 s26 s27 s28 s29 s30 s31 s32 s33 s34 s35 s36 s37 s38 s39 s40 s41 s42 s43 s44 s45 s46 s47 s48 s49 s50 s51 s52 s53 s54 s55 s56 s57 s58 s59 s60 s61 s62 s63 s64 s65 s66 s67 s68 s69 s70 s71 s72 s73 s74 s75 s76 s77 s78 s79 s80 s81 s82 s83 s84 s85 s86 s87 s88 s89 s90 s91 s92 s93 s94 s95 s96 s97 s98 s99 s100 s101 s102 s103 s104 s105 s106 s107 s108 s109 s110 s111 s112 s113 s114 s115 s116 s117 s118 s119 s120 s121 s122 s123 s124 s125 s126 s127 s128 s129 s130 s131 : Value) (K : Act → World → Prop) (Q' : Exit → Act → World → Prop)
    (hQ : ∀ ch (a : Act) (k : Nat) v w, Q' (.panic ch) (a.put (some k) v) w → Q' (.panic ch) a w) (hEnd : ∀ (u7 u8 u29 u30 u31 u32 u33 u34 : Value) (wx : World), (∃ g7 g8 aa ca ab cb, u7 = .pointer (some ⟨g7, 0, none⟩) ∧ u8 = .pointer (some ⟨g8, 0, none⟩) ∧ Hid (w1.heap.size ≤ g7) ∧ Hid (w1.heap.size ≤ g8) ∧ Hid (Box wx g7 27 #[.slice aa na ca]) ∧ Hid (Box wx g8 27 #[.slice ab nb cb]) ∧ Hid (OwnR wx w1.heap.size (.slice aa na ca) fa) ∧ Hid (OwnR wx w1.heap.size (.slice ab nb cb) fb) ∧ Hid (Below w1.heap.size w1 wx)) → K ⟨List.toArray (.slice (some ⟨g, o, none⟩) n cx :: s1 :: s2 :: s3 :: s4 :: s5 :: .pointer (some ⟨g6, 0, none⟩) :: u7 :: u8 :: s9 :: s10 :: s11 :: s12 :: s13 :: s14 :: s15 :: s16 :: s17 :: s18 :: s19 :: s20 :: s21 :: s22 :: s23 :: s24 :: s25 :: s26 :: s27 :: s28 :: u29 :: u30 :: u31 :: u32 :: u33 :: u34 :: s35 :: s36 :: s37 :: s38 :: s39 :: s40 :: s41 :: s42 :: s43 :: s44 :: s45 :: s46 :: s47 :: s48 :: s49 :: s50 :: s51 :: s52 :: s53 :: s54 :: s55 :: s56 :: s57 :: s58 :: s59 :: s60 :: s61 :: s62 :: s63 :: s64 :: s65 :: s66 :: s67 :: s68 :: s69 :: s70 :: s71 :: s72 :: s73 :: s74 :: s75 :: s76 :: s77 :: s78 :: s79 :: s80 :: s81 :: s82 :: s83 :: s84 :: s85 :: s86 :: s87 :: s88 :: s89 :: s90 :: s91 :: s92 :: s93 :: s94 :: s95 :: s96 :: s97 :: s98 :: s99 :: s100 :: s101 :: s102 :: s103 :: s104 :: s105 :: s106 :: s107 :: s108 :: s109 :: s110 :: s111 :: s112 :: s113 :: s114 :: s115 :: s116 :: s117 :: s118 :: s119 :: s120 :: s121 :: s122 :: s123 :: s124 :: s125 :: s126 :: s127 :: s128 :: s129 :: s130 :: s131 :: []), []⟩ wx) :
    (Code.region 7 #[{ dst := some 29, op := Op.load 27 (Operand.tmp 6), type := 27, pos := "law.go:44", after := #[], guard := none }, { dst := some 30, op := Op.call { callee := Callee.value (Operand.func 10), args := #[Operand.tmp 29], argTypes := #[27] }, type := 27, pos := "law.go:44", after := #[{ on := 0, ground := Ground.data }], guard := none }, { dst := some 31, op := Op.move (Operand.tmp 0), type := 22, pos := "law.go:44", after := #[], guard := none }, { dst := some 32, op := Op.indexAddr 22 (Operand.tmp 31) (Operand.const (Value.int IntKind.i64 0)), type := 0, pos := "law.go:44", after := #[{ on := 2, ground := Ground.data }], guard := none }, { dst := some 33, op := Op.load 27 (Operand.tmp 32), type := 27, pos := "law.go:44", after := #[{ on := 3, ground := Ground.data }], guard := none }, { dst := some 34, op := Op.call { callee := Callee.value (Operand.func 10), args := #[Operand.tmp 33], argTypes := #[27] }, type := 27, pos := "law.go:44", after := #[{ on := 4, ground := Ground.data }, { on := 1, ground := Ground.chain }], guard := none }, { dst := some 7, op := Op.alloc 27, type := 0, pos := "law.go:44", after := #[], guard := none }, { dst := some 8, op := Op.alloc 27, type := 0, pos := "law.go:44", after := #[], guard := none }, { dst := none, op := Op.store 27 (Operand.tmp 7) (Operand.tmp 30), type := 0, pos := "law.go:44", after := #[{ on := 6, ground := Ground.data }, { on := 1, ground := Ground.data }, { on := 5, ground := Ground.chain }, { on := 0, ground := Ground.phase }, { on := 1, ground := Ground.phase }, { on := 2, ground := Ground.textOnly Departure.lateStores }, { on := 3, ground := Ground.textOnly Departure.lateStores }, { on := 4, ground := Ground.textOnly Departure.lateStores }, { on := 5, ground := Ground.textOnly Departure.lateStoresUnsure }, { on := 6, ground := Ground.phase }, { on := 7, ground := Ground.phase }], guard := none }, { dst := none, op := Op.store 27 (Operand.tmp 8) (Operand.tmp 34), type := 0, pos := "law.go:44", after := #[{ on := 7, ground := Ground.data }, { on := 5, ground := Ground.data }, { on := 8, ground := Ground.chain }, { on := 0, ground := Ground.phase }, { on := 1, ground := Ground.phase }, { on := 2, ground := Ground.phase }, { on := 3, ground := Ground.phase }, { on := 4, ground := Ground.phase }, { on := 5, ground := Ground.phase }, { on := 6, ground := Ground.phase }, { on := 7, ground := Ground.phase }, { on := 8, ground := Ground.phase }], guard := none }] true).wp Tryz.prog (Exit.then K Q') ⟨List.toArray (.slice (some ⟨g, o, none⟩) n cx :: s1 :: s2 :: s3 :: s4 :: s5 :: .pointer (some ⟨g6, 0, none⟩) :: s7 :: s8 :: s9 :: s10 :: s11 :: s12 :: s13 :: s14 :: s15 :: s16 :: s17 :: s18 :: s19 :: s20 :: s21 :: s22 :: s23 :: s24 :: s25 :: s26 :: s27 :: s28 :: s29 :: s30 :: s31 :: s32 :: s33 :: s34 :: s35 :: s36 :: s37 :: s38 :: s39 :: s40 :: s41 :: s42 :: s43 :: s44 :: s45 :: s46 :: s47 :: s48 :: s49 :: s50 :: s51 :: s52 :: s53 :: s54 :: s55 :: s56 :: s57 :: s58 :: s59 :: s60 :: s61 :: s62 :: s63 :: s64 :: s65 :: s66 :: s67 :: s68 :: s69 :: s70 :: s71 :: s72 :: s73 :: s74 :: s75 :: s76 :: s77 :: s78 :: s79 :: s80 :: s81 :: s82 :: s83 :: s84 :: s85 :: s86 :: s87 :: s88 :: s89 :: s90 :: s91 :: s92 :: s93 :: s94 :: s95 :: s96 :: s97 :: s98 :: s99 :: s100 :: s101 :: s102 :: s103 :: s104 :: s105 :: s106 :: s107 :: s108 :: s109 :: s110 :: s111 :: s112 :: s113 :: s114 :: s115 :: s116 :: s117 :: s118 :: s119 :: s120 :: s121 :: s122 :: s123 :: s124 :: s125 :: s126 :: s127 :: s128 :: s129 :: s130 :: s131 :: []), []⟩ w1 := by
  obtain ⟨v0, hv0⟩ : ∃ q, q = World.drew w1 := ⟨_, rfl⟩
  refine wp_region_held_drew (S := fun w' => Below w1.heap.size w1 w') (by kernel_rfl) (Below.refl _ _).drew (fun hHeld => ?_)
  rw [← hv0] at hHeld ⊢
  clear hv0
  refine wpAnyH_take (i := 0) (oi := { dst := some 29, op := Op.load 27 (Operand.tmp 6), type := 27, pos := "law.go:44", after := #[], guard := none }) (v := ?_) rfl (by kernel_rfl) (by kernel_rfl) (by kernel_rfl) (fun _ _ _ h => hQ _ _ _ _ _ h) (Or.inl ⟨by rfl, ?_⟩) hHeld ?_
  rotate_left
  · (intro w hSw; have p0 := (Y6.out.on hSw).cell (k := 0) rfl; go_simp; try with_reducible rfl)
  (try simp only [Act.put, List.setIfInBounds_toArray, List.set_cons_zero, List.set_cons_succ])
  refine wpAnyH_take (i := 2) (oi := { dst := some 31, op := Op.move (Operand.tmp 0), type := 22, pos := "law.go:44", after := #[], guard := none }) (v := ?_) rfl (by kernel_rfl) (by kernel_rfl) (by kernel_rfl) (fun _ _ _ h => hQ _ _ _ _ _ h) (Or.inl ⟨by rfl, ?_⟩) hHeld ?_
  rotate_left
  · (intro w hSw; go_simp; try with_reducible rfl)
  (try simp only [Act.put, List.setIfInBounds_toArray, List.set_cons_zero, List.set_cons_succ])
  refine wpAnyH_take (i := 3) (oi := { dst := some 32, op := Op.indexAddr 22 (Operand.tmp 31) (Operand.const (Value.int IntKind.i64 0)), type := 0, pos := "law.go:44", after := #[{ on := 2, ground := Ground.data }], guard := none }) (v := ?_) rfl (by kernel_rfl) (by kernel_rfl) (by kernel_rfl) (fun _ _ _ h => hQ _ _ _ _ _ h) (Or.inl ⟨by rfl, ?_⟩) hHeld ?_
  rotate_left
  · (intro w hSw; go_simp; (try rw [if_pos k0]); try with_reducible rfl)
  (try simp only [Act.put, List.setIfInBounds_toArray, List.set_cons_zero, List.set_cons_succ])
  refine wpAnyH_take (i := 4) (oi := { dst := some 33, op := Op.load 27 (Operand.tmp 32), type := 27, pos := "law.go:44", after := #[{ on := 3, ground := Ground.data }], guard := none }) (v := ?_) rfl (by kernel_rfl) (by kernel_rfl) (by kernel_rfl) (fun _ _ _ h => hQ _ _ _ _ _ h) (Or.inl ⟨by rfl, ?_⟩) hHeld ?_
  rotate_left
  · (intro w hSw; have p0 := (hSw.cell (p := ⟨g, o, none⟩) HGL.out).trans R00.out; go_simp; try with_reducible rfl)
  (try simp only [Act.put, List.setIfInBounds_toArray, List.set_cons_zero, List.set_cons_succ])
  refine wpAnyH_ready (rs := [1, 6, 7]) (by kernel_rfl) (by simp) (AllReadyH.cons (o := { dst := some 30, op := Op.call { callee := Callee.value (Operand.func 10), args := #[Operand.tmp 29], argTypes := #[27] }, type := 27, pos := "law.go:44", after := #[{ on := 0, ground := Ground.data }], guard := none }) rfl (fun K hK => ?_) (AllReadyH.cons (o := { dst := some 7, op := Op.alloc 27, type := 0, pos := "law.go:44", after := #[], guard := none }) rfl (fun K hK => ?_) (AllReadyH.cons (o := { dst := some 8, op := Op.alloc 27, type := 0, pos := "law.go:44", after := #[], guard := none }) rfl (fun K hK => ?_) AllReadyH.nil)))
  · go_simp
    refine (few_any l _ v0 (HXK.out.on hHeld)).mono ?_
    rintro e v1 ⟨x9, rfl, hown, hba⟩
    rw [← HFA.out] at hown
    obtain ⟨aa, ca, rfl⟩ := hown.form
    have OA := Lib.hid (OwnR.base hown hHeld.size)
    rw [← HNA.out] at OA ⊢
    refine hK.out _ _ (bch hHeld hba) (fun hHeld => ?_)
    clear hown hba
    (try simp only [Act.put, List.setIfInBounds_toArray, List.set_cons_zero, List.set_cons_succ])
    refine wpAnyH_ready (rs := [5, 6, 7]) (by kernel_rfl) (by simp) (AllReadyH.cons (o := { dst := some 34, op := Op.call { callee := Callee.value (Operand.func 10), args := #[Operand.tmp 33], argTypes := #[27] }, type := 27, pos := "law.go:44", after := #[{ on := 4, ground := Ground.data }, { on := 1, ground := Ground.chain }], guard := none }) rfl (fun K hK => ?_) (AllReadyH.cons (o := { dst := some 7, op := Op.alloc 27, type := 0, pos := "law.go:44", after := #[], guard := none }) rfl (fun K hK => ?_) (AllReadyH.cons (o := { dst := some 8, op := Op.alloc 27, type := 0, pos := "law.go:44", after := #[], guard := none }) rfl (fun K hK => ?_) AllReadyH.nil)))
    · go_simp
      refine (few_any l0 _ v1 (HX0.out.on hHeld)).mono ?_
      rintro e v5 ⟨x9, rfl, hown, hba⟩
      rw [← HFB.out] at hown
      obtain ⟨ab, cb, rfl⟩ := hown.form
      have OB := Lib.hid (OwnR.base hown hHeld.size)
      rw [← HNB.out] at OB ⊢
      have OA := Lib.hid (OA.out.on hba)
      refine hK.out _ _ (bch hHeld hba) (fun hHeld => ?_)
      clear hown hba
      (try simp only [Act.put, List.setIfInBounds_toArray, List.set_cons_zero, List.set_cons_succ])
      refine wpAnyH_ready (rs := [6, 7]) (by kernel_rfl) (by simp) (AllReadyH.cons (o := { dst := some 7, op := Op.alloc 27, type := 0, pos := "law.go:44", after := #[], guard := none }) rfl (fun K hK => ?_) (AllReadyH.cons (o := { dst := some 8, op := Op.alloc 27, type := 0, pos := "law.go:44", after := #[], guard := none }) rfl (fun K hK => ?_) AllReadyH.nil))
      · go_simp
        have hba : Below v5.heap.size v5 (v5.alloc (.cells #[.slice none 0 0] 27)) := below_new _ _
        have Z7 : Hid (Box (v5.alloc (.cells #[.slice none 0 0] 27)) v5.heap.size 27 #[.slice none 0 0]) := Lib.hid box_new
        have g70 : Hid (w1.heap.size ≤ v5.heap.size) := Lib.hid hHeld.size
        have OA := Lib.hid (OA.out.on hba)
        have OB := Lib.hid (OB.out.on hba)
        obtain ⟨v6, hv9⟩ : ∃ q, q = v5.alloc (.cells #[.slice none 0 0] 27) := ⟨_, rfl⟩
        refine hK.out _ _ (bch hHeld hba) (fun hHeld => ?_)
        clear hba
        rw [← hv9] at Z7 hHeld OA OB ⊢
        clear hv9
        obtain ⟨g7, hg9⟩ : ∃ q, q = v5.heap.size := ⟨_, rfl⟩
        rw [← hg9] at Z7 g70 ⊢
        clear hg9
        (try simp only [Act.put, List.setIfInBounds_toArray, List.set_cons_zero, List.set_cons_succ])
        refine wpAnyH_ready (rs := [7]) (by kernel_rfl) (by simp) (AllReadyH.cons (o := { dst := some 8, op := Op.alloc 27, type := 0, pos := "law.go:44", after := #[], guard := none }) rfl (fun K hK => ?_) AllReadyH.nil)
        · go_simp
          have hba : Below v6.heap.size v6 (v6.alloc (.cells #[.slice none 0 0] 27)) := below_new _ _
          have Z8 : Hid (Box (v6.alloc (.cells #[.slice none 0 0] 27)) v6.heap.size 27 #[.slice none 0 0]) := Lib.hid box_new
          have g80 : Hid (w1.heap.size ≤ v6.heap.size) := Lib.hid hHeld.size
          have HNE0 : Hid (g7 < v6.heap.size) := Lib.hid Z7.out.lt
          have OA := Lib.hid (OA.out.on hba)
          have OB := Lib.hid (OB.out.on hba)
          have Z7 := Lib.hid (Z7.out.on hba)
          obtain ⟨v7, hv9⟩ : ∃ q, q = v6.alloc (.cells #[.slice none 0 0] 27) := ⟨_, rfl⟩
          refine hK.out _ _ (bch hHeld hba) (fun hHeld => ?_)
          clear hba
          rw [← hv9] at Z8 hHeld OA OB Z7 ⊢
          clear hv9
          obtain ⟨g8, hg9⟩ : ∃ q, q = v6.heap.size := ⟨_, rfl⟩
          rw [← hg9] at Z8 g80 HNE0 ⊢
          clear hg9
          have HNE : Hid (g7 ≠ g8) := Lib.hid (by have := HNE0.out; omega)
          (try simp only [Act.put, List.setIfInBounds_toArray, List.set_cons_zero, List.set_cons_succ])
          refine wpAnyH_ready (rs := [8]) (by kernel_rfl) (by simp) (AllReadyH.cons (o := { dst := none, op := Op.store 27 (Operand.tmp 7) (Operand.tmp 30), type := 0, pos := "law.go:44", after := #[{ on := 6, ground := Ground.data }, { on := 1, ground := Ground.data }, { on := 5, ground := Ground.chain }, { on := 0, ground := Ground.phase }, { on := 1, ground := Ground.phase }, { on := 2, ground := Ground.textOnly Departure.lateStores }, { on := 3, ground := Ground.textOnly Departure.lateStores }, { on := 4, ground := Ground.textOnly Departure.lateStores }, { on := 5, ground := Ground.textOnly Departure.lateStoresUnsure }, { on := 6, ground := Ground.phase }, { on := 7, ground := Ground.phase }], guard := none }) rfl (fun K hK => ?_) AllReadyH.nil)
          · have p0 := Z7.out.cell (k := 0) rfl
            have f0 := frozen_of_row v7 _ 0 _ _ Z7.out
            go_simp
            have OA := Lib.hid (OA.out.box Z7.out 0 (.slice aa na ca))
            have OB := Lib.hid (OB.out.box Z7.out 0 (.slice aa na ca))
            have Z8 := Lib.hid (Z8.out.far (p := ⟨g7, 0, none⟩) (by have := HNE.out; show g8 ≠ g7; omega) (.slice aa na ca))
            have Z7 := Lib.hid (Z7.out.set (k := 0) (.slice aa na ca))
            refine hK.out _ _ (hHeld.setCell (p := ⟨g7, 0, none⟩) g70.out (.slice aa na ca)) (fun hHeld => ?_)
            clear p0 f0
            obtain ⟨vq, hv9⟩ : ∃ q, q = v7.setCell ⟨g7, 0, none⟩ (.slice aa na ca) := ⟨_, rfl⟩
            rw [← hv9] at Z7 Z8 OA OB hHeld ⊢
            clear hv9
            (try simp only [Act.put, List.setIfInBounds_toArray, List.set_cons_zero, List.set_cons_succ])
            refine wpAnyH_ready (rs := [9]) (by kernel_rfl) (by simp) (AllReadyH.cons (o := { dst := none, op := Op.store 27 (Operand.tmp 8) (Operand.tmp 34), type := 0, pos := "law.go:44", after := #[{ on := 7, ground := Ground.data }, { on := 5, ground := Ground.data }, { on := 8, ground := Ground.chain }, { on := 0, ground := Ground.phase }, { on := 1, ground := Ground.phase }, { on := 2, ground := Ground.phase }, { on := 3, ground := Ground.phase }, { on := 4, ground := Ground.phase }, { on := 5, ground := Ground.phase }, { on := 6, ground := Ground.phase }, { on := 7, ground := Ground.phase }, { on := 8, ground := Ground.phase }], guard := none }) rfl (fun K hK => ?_) AllReadyH.nil)
            · have p0 := Z8.out.cell (k := 0) rfl
              have f0 := frozen_of_row vq _ 0 _ _ Z8.out
              go_simp
              have OA := Lib.hid (OA.out.box Z8.out 0 (.slice ab nb cb))
              have OB := Lib.hid (OB.out.box Z8.out 0 (.slice ab nb cb))
              have Z7 := Lib.hid (Z7.out.far (p := ⟨g8, 0, none⟩) (by have := HNE.out; show g7 ≠ g8; omega) (.slice ab nb cb))
              have Z8 := Lib.hid (Z8.out.set (k := 0) (.slice ab nb cb))
              refine hK.out _ _ (hHeld.setCell (p := ⟨g8, 0, none⟩) g80.out (.slice ab nb cb)) (fun hHeld => ?_)
              clear p0 f0
              (try simp only [Act.put, List.setIfInBounds_toArray, List.set_cons_zero, List.set_cons_succ])
              refine wpAnyH_done (by kernel_rfl) ?_ _
              refine hEnd _ _ _ _ _ _ _ _ _ ?_
              exact ⟨_, _, _, _, _, _, rfl, rfl, g70, g80, Z7, Z8, OA, OB, Lib.hid hHeld⟩
      · go_simp
        have hba : Below v5.heap.size v5 (v5.alloc (.cells #[.slice none 0 0] 27)) := below_new _ _
        have Z8 : Hid (Box (v5.alloc (.cells #[.slice none 0 0] 27)) v5.heap.size 27 #[.slice none 0 0]) := Lib.hid box_new
        have g80 : Hid (w1.heap.size ≤ v5.heap.size) := Lib.hid hHeld.size
        have OA := Lib.hid (OA.out.on hba)
        have OB := Lib.hid (OB.out.on hba)
        obtain ⟨v7, hv9⟩ : ∃ q, q = v5.alloc (.cells #[.slice none 0 0] 27) := ⟨_, rfl⟩
        refine hK.out _ _ (bch hHeld hba) (fun hHeld => ?_)
        clear hba
        rw [← hv9] at Z8 hHeld OA OB ⊢
        clear hv9
        obtain ⟨g8, hg9⟩ : ∃ q, q = v5.heap.size := ⟨_, rfl⟩
        rw [← hg9] at Z8 g80 ⊢
        clear hg9
        (try simp only [Act.put, List.setIfInBounds_toArray, List.set_cons_zero, List.set_cons_succ])
        refine wpAnyH_ready (rs := [6]) (by kernel_rfl) (by simp) (AllReadyH.cons (o := { dst := some 7, op := Op.alloc 27, type := 0, pos := "law.go:44", after := #[], guard := none }) rfl (fun K hK => ?_) AllReadyH.nil)
        · go_simp
          have hba : Below v7.heap.size v7 (v7.alloc (.cells #[.slice none 0 0] 27)) := below_new _ _
          have Z7 : Hid (Box (v7.alloc (.cells #[.slice none 0 0] 27)) v7.heap.size 27 #[.slice none 0 0]) := Lib.hid box_new
          have g70 : Hid (w1.heap.size ≤ v7.heap.size) := Lib.hid hHeld.size
          have HNE0 : Hid (g8 < v7.heap.size) := Lib.hid Z8.out.lt
          have OA := Lib.hid (OA.out.on hba)
          have OB := Lib.hid (OB.out.on hba)
          have Z8 := Lib.hid (Z8.out.on hba)
          obtain ⟨v6, hv9⟩ : ∃ q, q = v7.alloc (.cells #[.slice none 0 0] 27) := ⟨_, rfl⟩
          refine hK.out _ _ (bch hHeld hba) (fun hHeld => ?_)
          clear hba
          rw [← hv9] at Z7 hHeld OA OB Z8 ⊢
          clear hv9
          obtain ⟨g7, hg9⟩ : ∃ q, q = v7.heap.size := ⟨_, rfl⟩
          rw [← hg9] at Z7 g70 HNE0 ⊢
          clear hg9
          have HNE : Hid (g7 ≠ g8) := Lib.hid (by have := HNE0.out; omega)
          (try simp only [Act.put, List.setIfInBounds_toArray, List.set_cons_zero, List.set_cons_succ])
          refine wpAnyH_ready (rs := [8]) (by kernel_rfl) (by simp) (AllReadyH.cons (o := { dst := none, op := Op.store 27 (Operand.tmp 7) (Operand.tmp 30), type := 0, pos := "law.go:44", after := #[{ on := 6, ground := Ground.data }, { on := 1, ground := Ground.data }, { on := 5, ground := Ground.chain }, { on := 0, ground := Ground.phase }, { on := 1, ground := Ground.phase }, { on := 2, ground := Ground.textOnly Departure.lateStores }, { on := 3, ground := Ground.textOnly Departure.lateStores }, { on := 4, ground := Ground.textOnly Departure.lateStores }, { on := 5, ground := Ground.textOnly Departure.lateStoresUnsure }, { on := 6, ground := Ground.phase }, { on := 7, ground := Ground.phase }], guard := none }) rfl (fun K hK => ?_) AllReadyH.nil)
          · have p0 := Z7.out.cell (k := 0) rfl
            have f0 := frozen_of_row v6 _ 0 _ _ Z7.out
            go_simp
            have OA := Lib.hid (OA.out.box Z7.out 0 (.slice aa na ca))
            have OB := Lib.hid (OB.out.box Z7.out 0 (.slice aa na ca))
            have Z8 := Lib.hid (Z8.out.far (p := ⟨g7, 0, none⟩) (by have := HNE.out; show g8 ≠ g7; omega) (.slice aa na ca))
            have Z7 := Lib.hid (Z7.out.set (k := 0) (.slice aa na ca))
            refine hK.out _ _ (hHeld.setCell (p := ⟨g7, 0, none⟩) g70.out (.slice aa na ca)) (fun hHeld => ?_)
            clear p0 f0
            obtain ⟨vq, hv9⟩ : ∃ q, q = v6.setCell ⟨g7, 0, none⟩ (.slice aa na ca) := ⟨_, rfl⟩
            rw [← hv9] at Z7 Z8 OA OB hHeld ⊢
            clear hv9
            (try simp only [Act.put, List.setIfInBounds_toArray, List.set_cons_zero, List.set_cons_succ])
            refine wpAnyH_ready (rs := [9]) (by kernel_rfl) (by simp) (AllReadyH.cons (o := { dst := none, op := Op.store 27 (Operand.tmp 8) (Operand.tmp 34), type := 0, pos := "law.go:44", after := #[{ on := 7, ground := Ground.data }, { on := 5, ground := Ground.data }, { on := 8, ground := Ground.chain }, { on := 0, ground := Ground.phase }, { on := 1, ground := Ground.phase }, { on := 2, ground := Ground.phase }, { on := 3, ground := Ground.phase }, { on := 4, ground := Ground.phase }, { on := 5, ground := Ground.phase }, { on := 6, ground := Ground.phase }, { on := 7, ground := Ground.phase }, { on := 8, ground := Ground.phase }], guard := none }) rfl (fun K hK => ?_) AllReadyH.nil)
            · have p0 := Z8.out.cell (k := 0) rfl
              have f0 := frozen_of_row vq _ 0 _ _ Z8.out
              go_simp
              have OA := Lib.hid (OA.out.box Z8.out 0 (.slice ab nb cb))
              have OB := Lib.hid (OB.out.box Z8.out 0 (.slice ab nb cb))
              have Z7 := Lib.hid (Z7.out.far (p := ⟨g8, 0, none⟩) (by have := HNE.out; show g7 ≠ g8; omega) (.slice ab nb cb))
              have Z8 := Lib.hid (Z8.out.set (k := 0) (.slice ab nb cb))
              refine hK.out _ _ (hHeld.setCell (p := ⟨g8, 0, none⟩) g80.out (.slice ab nb cb)) (fun hHeld => ?_)
              clear p0 f0
              (try simp only [Act.put, List.setIfInBounds_toArray, List.set_cons_zero, List.set_cons_succ])
              refine wpAnyH_done (by kernel_rfl) ?_ _
              refine hEnd _ _ _ _ _ _ _ _ _ ?_
              exact ⟨_, _, _, _, _, _, rfl, rfl, g70, g80, Z7, Z8, OA, OB, Lib.hid hHeld⟩
    · go_simp
      have hba : Below v1.heap.size v1 (v1.alloc (.cells #[.slice none 0 0] 27)) := below_new _ _
      have Z7 : Hid (Box (v1.alloc (.cells #[.slice none 0 0] 27)) v1.heap.size 27 #[.slice none 0 0]) := Lib.hid box_new
      have g70 : Hid (w1.heap.size ≤ v1.heap.size) := Lib.hid hHeld.size
      have OA := Lib.hid (OA.out.on hba)
      obtain ⟨v6, hv9⟩ : ∃ q, q = v1.alloc (.cells #[.slice none 0 0] 27) := ⟨_, rfl⟩
      refine hK.out _ _ (bch hHeld hba) (fun hHeld => ?_)
      clear hba
      rw [← hv9] at Z7 hHeld OA ⊢
      clear hv9
      obtain ⟨g7, hg9⟩ : ∃ q, q = v1.heap.size := ⟨_, rfl⟩
      rw [← hg9] at Z7 g70 ⊢
      clear hg9
      (try simp only [Act.put, List.setIfInBounds_toArray, List.set_cons_zero, List.set_cons_succ])
      refine wpAnyH_ready (rs := [5, 7]) (by kernel_rfl) (by simp) (AllReadyH.cons (o := { dst := some 34, op := Op.call { callee := Callee.value (Operand.func 10), args := #[Operand.tmp 33], argTypes := #[27] }, type := 27, pos := "law.go:44", after := #[{ on := 4, ground := Ground.data }, { on := 1, ground := Ground.chain }], guard := none }) rfl (fun K hK => ?_) (AllReadyH.cons (o := { dst := some 8, op := Op.alloc 27, type := 0, pos := "law.go:44", after := #[], guard := none }) rfl (fun K hK => ?_) AllReadyH.nil))
      · go_simp
        refine (few_any l0 _ v6 (HX0.out.on hHeld)).mono ?_
        rintro e v5 ⟨x9, rfl, hown, hba⟩
        rw [← HFB.out] at hown
        obtain ⟨ab, cb, rfl⟩ := hown.form
        have OB := Lib.hid (OwnR.base hown hHeld.size)
        rw [← HNB.out] at OB ⊢
        have OA := Lib.hid (OA.out.on hba)
        have Z7 := Lib.hid (Z7.out.on hba)
        refine hK.out _ _ (bch hHeld hba) (fun hHeld => ?_)
        clear hown hba
        (try simp only [Act.put, List.setIfInBounds_toArray, List.set_cons_zero, List.set_cons_succ])
        refine wpAnyH_ready (rs := [7]) (by kernel_rfl) (by simp) (AllReadyH.cons (o := { dst := some 8, op := Op.alloc 27, type := 0, pos := "law.go:44", after := #[], guard := none }) rfl (fun K hK => ?_) AllReadyH.nil)
        · go_simp
          have hba : Below v5.heap.size v5 (v5.alloc (.cells #[.slice none 0 0] 27)) := below_new _ _
          have Z8 : Hid (Box (v5.alloc (.cells #[.slice none 0 0] 27)) v5.heap.size 27 #[.slice none 0 0]) := Lib.hid box_new
          have g80 : Hid (w1.heap.size ≤ v5.heap.size) := Lib.hid hHeld.size
          have HNE0 : Hid (g7 < v5.heap.size) := Lib.hid Z7.out.lt
          have OA := Lib.hid (OA.out.on hba)
          have OB := Lib.hid (OB.out.on hba)
          have Z7 := Lib.hid (Z7.out.on hba)
          obtain ⟨v7, hv9⟩ : ∃ q, q = v5.alloc (.cells #[.slice none 0 0] 27) := ⟨_, rfl⟩
          refine hK.out _ _ (bch hHeld hba) (fun hHeld => ?_)
          clear hba
          rw [← hv9] at Z8 hHeld OA OB Z7 ⊢
          clear hv9
          obtain ⟨g8, hg9⟩ : ∃ q, q = v5.heap.size := ⟨_, rfl⟩
          rw [← hg9] at Z8 g80 HNE0 ⊢
          clear hg9
          have HNE : Hid (g7 ≠ g8) := Lib.hid (by have := HNE0.out; omega)
          (try simp only [Act.put, List.setIfInBounds_toArray, List.set_cons_zero, List.set_cons_succ])
          refine wpAnyH_ready (rs := [8]) (by kernel_rfl) (by simp) (AllReadyH.cons (o := { dst := none, op := Op.store 27 (Operand.tmp 7) (Operand.tmp 30), type := 0, pos := "law.go:44", after := #[{ on := 6, ground := Ground.data }, { on := 1, ground := Ground.data }, { on := 5, ground := Ground.chain }, { on := 0, ground := Ground.phase }, { on := 1, ground := Ground.phase }, { on := 2, ground := Ground.textOnly Departure.lateStores }, { on := 3, ground := Ground.textOnly Departure.lateStores }, { on := 4, ground := Ground.textOnly Departure.lateStores }, { on := 5, ground := Ground.textOnly Departure.lateStoresUnsure }, { on := 6, ground := Ground.phase }, { on := 7, ground := Ground.phase }], guard := none }) rfl (fun K hK => ?_) AllReadyH.nil)
          · have p0 := Z7.out.cell (k := 0) rfl
            have f0 := frozen_of_row v7 _ 0 _ _ Z7.out
            go_simp
            have OA := Lib.hid (OA.out.box Z7.out 0 (.slice aa na ca))
            have OB := Lib.hid (OB.out.box Z7.out 0 (.slice aa na ca))
            have Z8 := Lib.hid (Z8.out.far (p := ⟨g7, 0, none⟩) (by have := HNE.out; show g8 ≠ g7; omega) (.slice aa na ca))
            have Z7 := Lib.hid (Z7.out.set (k := 0) (.slice aa na ca))
            refine hK.out _ _ (hHeld.setCell (p := ⟨g7, 0, none⟩) g70.out (.slice aa na ca)) (fun hHeld => ?_)
            clear p0 f0
            obtain ⟨vq, hv9⟩ : ∃ q, q = v7.setCell ⟨g7, 0, none⟩ (.slice aa na ca) := ⟨_, rfl⟩
            rw [← hv9] at Z7 Z8 OA OB hHeld ⊢
            clear hv9
            (try simp only [Act.put, List.setIfInBounds_toArray, List.set_cons_zero, List.set_cons_succ])
            refine wpAnyH_ready (rs := [9]) (by kernel_rfl) (by simp) (AllReadyH.cons (o := { dst := none, op := Op.store 27 (Operand.tmp 8) (Operand.tmp 34), type := 0, pos := "law.go:44", after := #[{ on := 7, ground := Ground.data }, { on := 5, ground := Ground.data }, { on := 8, ground := Ground.chain }, { on := 0, ground := Ground.phase }, { on := 1, ground := Ground.phase }, { on := 2, ground := Ground.phase }, { on := 3, ground := Ground.phase }, { on := 4, ground := Ground.phase }, { on := 5, ground := Ground.phase }, { on := 6, ground := Ground.phase }, { on := 7, ground := Ground.phase }, { on := 8, ground := Ground.phase }], guard := none }) rfl (fun K hK => ?_) AllReadyH.nil)
            · have p0 := Z8.out.cell (k := 0) rfl
              have f0 := frozen_of_row vq _ 0 _ _ Z8.out
              go_simp
              have OA := Lib.hid (OA.out.box Z8.out 0 (.slice ab nb cb))
              have OB := Lib.hid (OB.out.box Z8.out 0 (.slice ab nb cb))
              have Z7 := Lib.hid (Z7.out.far (p := ⟨g8, 0, none⟩) (by have := HNE.out; show g7 ≠ g8; omega) (.slice ab nb cb))
              have Z8 := Lib.hid (Z8.out.set (k := 0) (.slice ab nb cb))
              refine hK.out _ _ (hHeld.setCell (p := ⟨g8, 0, none⟩) g80.out (.slice ab nb cb)) (fun hHeld => ?_)
              clear p0 f0
              (try simp only [Act.put, List.setIfInBounds_toArray, List.set_cons_zero, List.set_cons_succ])
              refine wpAnyH_done (by kernel_rfl) ?_ _
              refine hEnd _ _ _ _ _ _ _ _ _ ?_
              exact ⟨_, _, _, _, _, _, rfl, rfl, g70, g80, Z7, Z8, OA, OB, Lib.hid hHeld⟩
      · go_simp
        have hba : Below v6.heap.size v6 (v6.alloc (.cells #[.slice none 0 0] 27)) := below_new _ _
        have Z8 : Hid (Box (v6.alloc (.cells #[.slice none 0 0] 27)) v6.heap.size 27 #[.slice none 0 0]) := Lib.hid box_new
        have g80 : Hid (w1.heap.size ≤ v6.heap.size) := Lib.hid hHeld.size
        have HNE0 : Hid (g7 < v6.heap.size) := Lib.hid Z7.out.lt
        have OA := Lib.hid (OA.out.on hba)
        have Z7 := Lib.hid (Z7.out.on hba)
        obtain ⟨v7, hv9⟩ : ∃ q, q = v6.alloc (.cells #[.slice none 0 0] 27) := ⟨_, rfl⟩
        refine hK.out _ _ (bch hHeld hba) (fun hHeld => ?_)
        clear hba
        rw [← hv9] at Z8 hHeld OA Z7 ⊢
        clear hv9
        obtain ⟨g8, hg9⟩ : ∃ q, q = v6.heap.size := ⟨_, rfl⟩
        rw [← hg9] at Z8 g80 HNE0 ⊢
        clear hg9
        have HNE : Hid (g7 ≠ g8) := Lib.hid (by have := HNE0.out; omega)
        (try simp only [Act.put, List.setIfInBounds_toArray, List.set_cons_zero, List.set_cons_succ])
        refine wpAnyH_ready (rs := [5]) (by kernel_rfl) (by simp) (AllReadyH.cons (o := { dst := some 34, op := Op.call { callee := Callee.value (Operand.func 10), args := #[Operand.tmp 33], argTypes := #[27] }, type := 27, pos := "law.go:44", after := #[{ on := 4, ground := Ground.data }, { on := 1, ground := Ground.chain }], guard := none }) rfl (fun K hK => ?_) AllReadyH.nil)
        · go_simp
          refine (few_any l0 _ v7 (HX0.out.on hHeld)).mono ?_
          rintro e v5 ⟨x9, rfl, hown, hba⟩
          rw [← HFB.out] at hown
          obtain ⟨ab, cb, rfl⟩ := hown.form
          have OB := Lib.hid (OwnR.base hown hHeld.size)
          rw [← HNB.out] at OB ⊢
          have OA := Lib.hid (OA.out.on hba)
          have Z7 := Lib.hid (Z7.out.on hba)
          have Z8 := Lib.hid (Z8.out.on hba)
          refine hK.out _ _ (bch hHeld hba) (fun hHeld => ?_)
          clear hown hba
          (try simp only [Act.put, List.setIfInBounds_toArray, List.set_cons_zero, List.set_cons_succ])
          refine wpAnyH_ready (rs := [8]) (by kernel_rfl) (by simp) (AllReadyH.cons (o := { dst := none, op := Op.store 27 (Operand.tmp 7) (Operand.tmp 30), type := 0, pos := "law.go:44", after := #[{ on := 6, ground := Ground.data }, { on := 1, ground := Ground.data }, { on := 5, ground := Ground.chain }, { on := 0, ground := Ground.phase }, { on := 1, ground := Ground.phase }, { on := 2, ground := Ground.textOnly Departure.lateStores }, { on := 3, ground := Ground.textOnly Departure.lateStores }, { on := 4, ground := Ground.textOnly Departure.lateStores }, { on := 5, ground := Ground.textOnly Departure.lateStoresUnsure }, { on := 6, ground := Ground.phase }, { on := 7, ground := Ground.phase }], guard := none }) rfl (fun K hK => ?_) AllReadyH.nil)
          · have p0 := Z7.out.cell (k := 0) rfl
            have f0 := frozen_of_row v5 _ 0 _ _ Z7.out
            go_simp
            have OA := Lib.hid (OA.out.box Z7.out 0 (.slice aa na ca))
            have OB := Lib.hid (OB.out.box Z7.out 0 (.slice aa na ca))
            have Z8 := Lib.hid (Z8.out.far (p := ⟨g7, 0, none⟩) (by have := HNE.out; show g8 ≠ g7; omega) (.slice aa na ca))
            have Z7 := Lib.hid (Z7.out.set (k := 0) (.slice aa na ca))
            refine hK.out _ _ (hHeld.setCell (p := ⟨g7, 0, none⟩) g70.out (.slice aa na ca)) (fun hHeld => ?_)
            clear p0 f0
            obtain ⟨vq, hv9⟩ : ∃ q, q = v5.setCell ⟨g7, 0, none⟩ (.slice aa na ca) := ⟨_, rfl⟩
            rw [← hv9] at Z7 Z8 OA OB hHeld ⊢
            clear hv9
            (try simp only [Act.put, List.setIfInBounds_toArray, List.set_cons_zero, List.set_cons_succ])
            refine wpAnyH_ready (rs := [9]) (by kernel_rfl) (by simp) (AllReadyH.cons (o := { dst := none, op := Op.store 27 (Operand.tmp 8) (Operand.tmp 34), type := 0, pos := "law.go:44", after := #[{ on := 7, ground := Ground.data }, { on := 5, ground := Ground.data }, { on := 8, ground := Ground.chain }, { on := 0, ground := Ground.phase }, { on := 1, ground := Ground.phase }, { on := 2, ground := Ground.phase }, { on := 3, ground := Ground.phase }, { on := 4, ground := Ground.phase }, { on := 5, ground := Ground.phase }, { on := 6, ground := Ground.phase }, { on := 7, ground := Ground.phase }, { on := 8, ground := Ground.phase }], guard := none }) rfl (fun K hK => ?_) AllReadyH.nil)
            · have p0 := Z8.out.cell (k := 0) rfl
              have f0 := frozen_of_row vq _ 0 _ _ Z8.out
              go_simp
              have OA := Lib.hid (OA.out.box Z8.out 0 (.slice ab nb cb))
              have OB := Lib.hid (OB.out.box Z8.out 0 (.slice ab nb cb))
              have Z7 := Lib.hid (Z7.out.far (p := ⟨g8, 0, none⟩) (by have := HNE.out; show g7 ≠ g8; omega) (.slice ab nb cb))
              have Z8 := Lib.hid (Z8.out.set (k := 0) (.slice ab nb cb))
              refine hK.out _ _ (hHeld.setCell (p := ⟨g8, 0, none⟩) g80.out (.slice ab nb cb)) (fun hHeld => ?_)
              clear p0 f0
              (try simp only [Act.put, List.setIfInBounds_toArray, List.set_cons_zero, List.set_cons_succ])
              refine wpAnyH_done (by kernel_rfl) ?_ _
              refine hEnd _ _ _ _ _ _ _ _ _ ?_
              exact ⟨_, _, _, _, _, _, rfl, rfl, g70, g80, Z7, Z8, OA, OB, Lib.hid hHeld⟩
    · go_simp
      have hba : Below v1.heap.size v1 (v1.alloc (.cells #[.slice none 0 0] 27)) := below_new _ _
      have Z8 : Hid (Box (v1.alloc (.cells #[.slice none 0 0] 27)) v1.heap.size 27 #[.slice none 0 0]) := Lib.hid box_new
      have g80 : Hid (w1.heap.size ≤ v1.heap.size) := Lib.hid hHeld.size
      have OA := Lib.hid (OA.out.on hba)
      obtain ⟨v7, hv9⟩ : ∃ q, q = v1.alloc (.cells #[.slice none 0 0] 27) := ⟨_, rfl⟩
      refine hK.out _ _ (bch hHeld hba) (fun hHeld => ?_)
      clear hba
      rw [← hv9] at Z8 hHeld OA ⊢
      clear hv9
      obtain ⟨g8, hg9⟩ : ∃ q, q = v1.heap.size := ⟨_, rfl⟩
      rw [← hg9] at Z8 g80 ⊢
      clear hg9
      (try simp only [Act.put, List.setIfInBounds_toArray, List.set_cons_zero, List.set_cons_succ])
      refine wpAnyH_ready (rs := [5, 6]) (by kernel_rfl) (by simp) (AllReadyH.cons (o := { dst := some 34, op := Op.call { callee := Callee.value (Operand.func 10), args := #[Operand.tmp 33], argTypes := #[27] }, type := 27, pos := "law.go:44", after := #[{ on := 4, ground := Ground.data }, { on := 1, ground := Ground.chain }], guard := none }) rfl (fun K hK => ?_) (AllReadyH.cons (o := { dst := some 7, op := Op.alloc 27, type := 0, pos := "law.go:44", after := #[], guard := none }) rfl (fun K hK => ?_) AllReadyH.nil))
      · go_simp
        refine (few_any l0 _ v7 (HX0.out.on hHeld)).mono ?_
        rintro e v5 ⟨x9, rfl, hown, hba⟩
        rw [← HFB.out] at hown
        obtain ⟨ab, cb, rfl⟩ := hown.form
        have OB := Lib.hid (OwnR.base hown hHeld.size)
        rw [← HNB.out] at OB ⊢
        have OA := Lib.hid (OA.out.on hba)
        have Z8 := Lib.hid (Z8.out.on hba)
        refine hK.out _ _ (bch hHeld hba) (fun hHeld => ?_)
        clear hown hba
        (try simp only [Act.put, List.setIfInBounds_toArray, List.set_cons_zero, List.set_cons_succ])
        refine wpAnyH_ready (rs := [6]) (by kernel_rfl) (by simp) (AllReadyH.cons (o := { dst := some 7, op := Op.alloc 27, type := 0, pos := "law.go:44", after := #[], guard := none }) rfl (fun K hK => ?_) AllReadyH.nil)
        · go_simp
          have hba : Below v5.heap.size v5 (v5.alloc (.cells #[.slice none 0 0] 27)) := below_new _ _
          have Z7 : Hid (Box (v5.alloc (.cells #[.slice none 0 0] 27)) v5.heap.size 27 #[.slice none 0 0]) := Lib.hid box_new
          have g70 : Hid (w1.heap.size ≤ v5.heap.size) := Lib.hid hHeld.size
          have HNE0 : Hid (g8 < v5.heap.size) := Lib.hid Z8.out.lt
          have OA := Lib.hid (OA.out.on hba)
          have OB := Lib.hid (OB.out.on hba)
          have Z8 := Lib.hid (Z8.out.on hba)
          obtain ⟨v6, hv9⟩ : ∃ q, q = v5.alloc (.cells #[.slice none 0 0] 27) := ⟨_, rfl⟩
          refine hK.out _ _ (bch hHeld hba) (fun hHeld => ?_)
          clear hba
          rw [← hv9] at Z7 hHeld OA OB Z8 ⊢
          clear hv9
          obtain ⟨g7, hg9⟩ : ∃ q, q = v5.heap.size := ⟨_, rfl⟩
          rw [← hg9] at Z7 g70 HNE0 ⊢
          clear hg9
          have HNE : Hid (g7 ≠ g8) := Lib.hid (by have := HNE0.out; omega)
          (try simp only [Act.put, List.setIfInBounds_toArray, List.set_cons_zero, List.set_cons_succ])
          refine wpAnyH_ready (rs := [8]) (by kernel_rfl) (by simp) (AllReadyH.cons (o := { dst := none, op := Op.store 27 (Operand.tmp 7) (Operand.tmp 30), type := 0, pos := "law.go:44", after := #[{ on := 6, ground := Ground.data }, { on := 1, ground := Ground.data }, { on := 5, ground := Ground.chain }, { on := 0, ground := Ground.phase }, { on := 1, ground := Ground.phase }, { on := 2, ground := Ground.textOnly Departure.lateStores }, { on := 3, ground := Ground.textOnly Departure.lateStores }, { on := 4, ground := Ground.textOnly Departure.lateStores }, { on := 5, ground := Ground.textOnly Departure.lateStoresUnsure }, { on := 6, ground := Ground.phase }, { on := 7, ground := Ground.phase }], guard := none }) rfl (fun K hK => ?_) AllReadyH.nil)
          · have p0 := Z7.out.cell (k := 0) rfl
            have f0 := frozen_of_row v6 _ 0 _ _ Z7.out
            go_simp
            have OA := Lib.hid (OA.out.box Z7.out 0 (.slice aa na ca))
            have OB := Lib.hid (OB.out.box Z7.out 0 (.slice aa na ca))
            have Z8 := Lib.hid (Z8.out.far (p := ⟨g7, 0, none⟩) (by have := HNE.out; show g8 ≠ g7; omega) (.slice aa na ca))
            have Z7 := Lib.hid (Z7.out.set (k := 0) (.slice aa na ca))
            refine hK.out _ _ (hHeld.setCell (p := ⟨g7, 0, none⟩) g70.out (.slice aa na ca)) (fun hHeld => ?_)
            clear p0 f0
            obtain ⟨vq, hv9⟩ : ∃ q, q = v6.setCell ⟨g7, 0, none⟩ (.slice aa na ca) := ⟨_, rfl⟩
            rw [← hv9] at Z7 Z8 OA OB hHeld ⊢
            clear hv9
            (try simp only [Act.put, List.setIfInBounds_toArray, List.set_cons_zero, List.set_cons_succ])
            refine wpAnyH_ready (rs := [9]) (by kernel_rfl) (by simp) (AllReadyH.cons (o := { dst := none, op := Op.store 27 (Operand.tmp 8) (Operand.tmp 34), type := 0, pos := "law.go:44", after := #[{ on := 7, ground := Ground.data }, { on := 5, ground := Ground.data }, { on := 8, ground := Ground.chain }, { on := 0, ground := Ground.phase }, { on := 1, ground := Ground.phase }, { on := 2, ground := Ground.phase }, { on := 3, ground := Ground.phase }, { on := 4, ground := Ground.phase }, { on := 5, ground := Ground.phase }, { on := 6, ground := Ground.phase }, { on := 7, ground := Ground.phase }, { on := 8, ground := Ground.phase }], guard := none }) rfl (fun K hK => ?_) AllReadyH.nil)
            · have p0 := Z8.out.cell (k := 0) rfl
              have f0 := frozen_of_row vq _ 0 _ _ Z8.out
              go_simp
              have OA := Lib.hid (OA.out.box Z8.out 0 (.slice ab nb cb))
              have OB := Lib.hid (OB.out.box Z8.out 0 (.slice ab nb cb))
              have Z7 := Lib.hid (Z7.out.far (p := ⟨g8, 0, none⟩) (by have := HNE.out; show g7 ≠ g8; omega) (.slice ab nb cb))
              have Z8 := Lib.hid (Z8.out.set (k := 0) (.slice ab nb cb))
              refine hK.out _ _ (hHeld.setCell (p := ⟨g8, 0, none⟩) g80.out (.slice ab nb cb)) (fun hHeld => ?_)
              clear p0 f0
              (try simp only [Act.put, List.setIfInBounds_toArray, List.set_cons_zero, List.set_cons_succ])
              refine wpAnyH_done (by kernel_rfl) ?_ _
              refine hEnd _ _ _ _ _ _ _ _ _ ?_
              exact ⟨_, _, _, _, _, _, rfl, rfl, g70, g80, Z7, Z8, OA, OB, Lib.hid hHeld⟩
      · go_simp
        have hba : Below v7.heap.size v7 (v7.alloc (.cells #[.slice none 0 0] 27)) := below_new _ _
        have Z7 : Hid (Box (v7.alloc (.cells #[.slice none 0 0] 27)) v7.heap.size 27 #[.slice none 0 0]) := Lib.hid box_new
        have g70 : Hid (w1.heap.size ≤ v7.heap.size) := Lib.hid hHeld.size
        have HNE0 : Hid (g8 < v7.heap.size) := Lib.hid Z8.out.lt
        have OA := Lib.hid (OA.out.on hba)
        have Z8 := Lib.hid (Z8.out.on hba)
        obtain ⟨v6, hv9⟩ : ∃ q, q = v7.alloc (.cells #[.slice none 0 0] 27) := ⟨_, rfl⟩
        refine hK.out _ _ (bch hHeld hba) (fun hHeld => ?_)
        clear hba
        rw [← hv9] at Z7 hHeld OA Z8 ⊢
        clear hv9
        obtain ⟨g7, hg9⟩ : ∃ q, q = v7.heap.size := ⟨_, rfl⟩
        rw [← hg9] at Z7 g70 HNE0 ⊢
        clear hg9
        have HNE : Hid (g7 ≠ g8) := Lib.hid (by have := HNE0.out; omega)
        (try simp only [Act.put, List.setIfInBounds_toArray, List.set_cons_zero, List.set_cons_succ])
        refine wpAnyH_ready (rs := [5]) (by kernel_rfl) (by simp) (AllReadyH.cons (o := { dst := some 34, op := Op.call { callee := Callee.value (Operand.func 10), args := #[Operand.tmp 33], argTypes := #[27] }, type := 27, pos := "law.go:44", after := #[{ on := 4, ground := Ground.data }, { on := 1, ground := Ground.chain }], guard := none }) rfl (fun K hK => ?_) AllReadyH.nil)
        · go_simp
          refine (few_any l0 _ v6 (HX0.out.on hHeld)).mono ?_
          rintro e v5 ⟨x9, rfl, hown, hba⟩
          rw [← HFB.out] at hown
          obtain ⟨ab, cb, rfl⟩ := hown.form
          have OB := Lib.hid (OwnR.base hown hHeld.size)
          rw [← HNB.out] at OB ⊢
          have OA := Lib.hid (OA.out.on hba)
          have Z7 := Lib.hid (Z7.out.on hba)
          have Z8 := Lib.hid (Z8.out.on hba)
          refine hK.out _ _ (bch hHeld hba) (fun hHeld => ?_)
          clear hown hba
          (try simp only [Act.put, List.setIfInBounds_toArray, List.set_cons_zero, List.set_cons_succ])
          refine wpAnyH_ready (rs := [8]) (by kernel_rfl) (by simp) (AllReadyH.cons (o := { dst := none, op := Op.store 27 (Operand.tmp 7) (Operand.tmp 30), type := 0, pos := "law.go:44", after := #[{ on := 6, ground := Ground.data }, { on := 1, ground := Ground.data }, { on := 5, ground := Ground.chain }, { on := 0, ground := Ground.phase }, { on := 1, ground := Ground.phase }, { on := 2, ground := Ground.textOnly Departure.lateStores }, { on := 3, ground := Ground.textOnly Departure.lateStores }, { on := 4, ground := Ground.textOnly Departure.lateStores }, { on := 5, ground := Ground.textOnly Departure.lateStoresUnsure }, { on := 6, ground := Ground.phase }, { on := 7, ground := Ground.phase }], guard := none }) rfl (fun K hK => ?_) AllReadyH.nil)
          · have p0 := Z7.out.cell (k := 0) rfl
            have f0 := frozen_of_row v5 _ 0 _ _ Z7.out
            go_simp
            have OA := Lib.hid (OA.out.box Z7.out 0 (.slice aa na ca))
            have OB := Lib.hid (OB.out.box Z7.out 0 (.slice aa na ca))
            have Z8 := Lib.hid (Z8.out.far (p := ⟨g7, 0, none⟩) (by have := HNE.out; show g8 ≠ g7; omega) (.slice aa na ca))
            have Z7 := Lib.hid (Z7.out.set (k := 0) (.slice aa na ca))
            refine hK.out _ _ (hHeld.setCell (p := ⟨g7, 0, none⟩) g70.out (.slice aa na ca)) (fun hHeld => ?_)
            clear p0 f0
            obtain ⟨vq, hv9⟩ : ∃ q, q = v5.setCell ⟨g7, 0, none⟩ (.slice aa na ca) := ⟨_, rfl⟩
            rw [← hv9] at Z7 Z8 OA OB hHeld ⊢
            clear hv9
            (try simp only [Act.put, List.setIfInBounds_toArray, List.set_cons_zero, List.set_cons_succ])
            refine wpAnyH_ready (rs := [9]) (by kernel_rfl) (by simp) (AllReadyH.cons (o := { dst := none, op := Op.store 27 (Operand.tmp 8) (Operand.tmp 34), type := 0, pos := "law.go:44", after := #[{ on := 7, ground := Ground.data }, { on := 5, ground := Ground.data }, { on := 8, ground := Ground.chain }, { on := 0, ground := Ground.phase }, { on := 1, ground := Ground.phase }, { on := 2, ground := Ground.phase }, { on := 3, ground := Ground.phase }, { on := 4, ground := Ground.phase }, { on := 5, ground := Ground.phase }, { on := 6, ground := Ground.phase }, { on := 7, ground := Ground.phase }, { on := 8, ground := Ground.phase }], guard := none }) rfl (fun K hK => ?_) AllReadyH.nil)
            · have p0 := Z8.out.cell (k := 0) rfl
              have f0 := frozen_of_row vq _ 0 _ _ Z8.out
              go_simp
              have OA := Lib.hid (OA.out.box Z8.out 0 (.slice ab nb cb))
              have OB := Lib.hid (OB.out.box Z8.out 0 (.slice ab nb cb))
              have Z7 := Lib.hid (Z7.out.far (p := ⟨g8, 0, none⟩) (by have := HNE.out; show g7 ≠ g8; omega) (.slice ab nb cb))
              have Z8 := Lib.hid (Z8.out.set (k := 0) (.slice ab nb cb))
              refine hK.out _ _ (hHeld.setCell (p := ⟨g8, 0, none⟩) g80.out (.slice ab nb cb)) (fun hHeld => ?_)
              clear p0 f0
              (try simp only [Act.put, List.setIfInBounds_toArray, List.set_cons_zero, List.set_cons_succ])
              refine wpAnyH_done (by kernel_rfl) ?_ _
              refine hEnd _ _ _ _ _ _ _ _ _ ?_
              exact ⟨_, _, _, _, _, _, rfl, rfl, g70, g80, Z7, Z8, OA, OB, Lib.hid hHeld⟩
  · go_simp
    have hba : Below v0.heap.size v0 (v0.alloc (.cells #[.slice none 0 0] 27)) := below_new _ _
    have Z7 : Hid (Box (v0.alloc (.cells #[.slice none 0 0] 27)) v0.heap.size 27 #[.slice none 0 0]) := Lib.hid box_new
    have g70 : Hid (w1.heap.size ≤ v0.heap.size) := Lib.hid hHeld.size
    obtain ⟨v6, hv9⟩ : ∃ q, q = v0.alloc (.cells #[.slice none 0 0] 27) := ⟨_, rfl⟩
    refine hK.out _ _ (bch hHeld hba) (fun hHeld => ?_)
    clear hba
    rw [← hv9] at Z7 hHeld ⊢
    clear hv9
    obtain ⟨g7, hg9⟩ : ∃ q, q = v0.heap.size := ⟨_, rfl⟩
    rw [← hg9] at Z7 g70 ⊢
    clear hg9
    (try simp only [Act.put, List.setIfInBounds_toArray, List.set_cons_zero, List.set_cons_succ])
    refine wpAnyH_ready (rs := [1, 7]) (by kernel_rfl) (by simp) (AllReadyH.cons (o := { dst := some 30, op := Op.call { callee := Callee.value (Operand.func 10), args := #[Operand.tmp 29], argTypes := #[27] }, type := 27, pos := "law.go:44", after := #[{ on := 0, ground := Ground.data }], guard := none }) rfl (fun K hK => ?_) (AllReadyH.cons (o := { dst := some 8, op := Op.alloc 27, type := 0, pos := "law.go:44", after := #[], guard := none }) rfl (fun K hK => ?_) AllReadyH.nil))
    · go_simp
      refine (few_any l _ v6 (HXK.out.on hHeld)).mono ?_
      rintro e v1 ⟨x9, rfl, hown, hba⟩
      rw [← HFA.out] at hown
      obtain ⟨aa, ca, rfl⟩ := hown.form
      have OA := Lib.hid (OwnR.base hown hHeld.size)
      rw [← HNA.out] at OA ⊢
      have Z7 := Lib.hid (Z7.out.on hba)
      refine hK.out _ _ (bch hHeld hba) (fun hHeld => ?_)
      clear hown hba
      (try simp only [Act.put, List.setIfInBounds_toArray, List.set_cons_zero, List.set_cons_succ])
      refine wpAnyH_ready (rs := [5, 7]) (by kernel_rfl) (by simp) (AllReadyH.cons (o := { dst := some 34, op := Op.call { callee := Callee.value (Operand.func 10), args := #[Operand.tmp 33], argTypes := #[27] }, type := 27, pos := "law.go:44", after := #[{ on := 4, ground := Ground.data }, { on := 1, ground := Ground.chain }], guard := none }) rfl (fun K hK => ?_) (AllReadyH.cons (o := { dst := some 8, op := Op.alloc 27, type := 0, pos := "law.go:44", after := #[], guard := none }) rfl (fun K hK => ?_) AllReadyH.nil))
      · go_simp
        refine (few_any l0 _ v1 (HX0.out.on hHeld)).mono ?_
        rintro e v5 ⟨x9, rfl, hown, hba⟩
        rw [← HFB.out] at hown
        obtain ⟨ab, cb, rfl⟩ := hown.form
        have OB := Lib.hid (OwnR.base hown hHeld.size)
        rw [← HNB.out] at OB ⊢
        have OA := Lib.hid (OA.out.on hba)
        have Z7 := Lib.hid (Z7.out.on hba)
        refine hK.out _ _ (bch hHeld hba) (fun hHeld => ?_)
        clear hown hba
        (try simp only [Act.put, List.setIfInBounds_toArray, List.set_cons_zero, List.set_cons_succ])
        refine wpAnyH_ready (rs := [7]) (by kernel_rfl) (by simp) (AllReadyH.cons (o := { dst := some 8, op := Op.alloc 27, type := 0, pos := "law.go:44", after := #[], guard := none }) rfl (fun K hK => ?_) AllReadyH.nil)
        · go_simp
          have hba : Below v5.heap.size v5 (v5.alloc (.cells #[.slice none 0 0] 27)) := below_new _ _
          have Z8 : Hid (Box (v5.alloc (.cells #[.slice none 0 0] 27)) v5.heap.size 27 #[.slice none 0 0]) := Lib.hid box_new
          have g80 : Hid (w1.heap.size ≤ v5.heap.size) := Lib.hid hHeld.size
          have HNE0 : Hid (g7 < v5.heap.size) := Lib.hid Z7.out.lt
          have OA := Lib.hid (OA.out.on hba)
          have OB := Lib.hid (OB.out.on hba)
          have Z7 := Lib.hid (Z7.out.on hba)
          obtain ⟨v7, hv9⟩ : ∃ q, q = v5.alloc (.cells #[.slice none 0 0] 27) := ⟨_, rfl⟩
          refine hK.out _ _ (bch hHeld hba) (fun hHeld => ?_)
          clear hba
          rw [← hv9] at Z8 hHeld OA OB Z7 ⊢
          clear hv9
          obtain ⟨g8, hg9⟩ : ∃ q, q = v5.heap.size := ⟨_, rfl⟩
          rw [← hg9] at Z8 g80 HNE0 ⊢
          clear hg9
          have HNE : Hid (g7 ≠ g8) := Lib.hid (by have := HNE0.out; omega)
          (try simp only [Act.put, List.setIfInBounds_toArray, List.set_cons_zero, List.set_cons_succ])
          refine wpAnyH_ready (rs := [8]) (by kernel_rfl) (by simp) (AllReadyH.cons (o := { dst := none, op := Op.store 27 (Operand.tmp 7) (Operand.tmp 30), type := 0, pos := "law.go:44", after := #[{ on := 6, ground := Ground.data }, { on := 1, ground := Ground.data }, { on := 5, ground := Ground.chain }, { on := 0, ground := Ground.phase }, { on := 1, ground := Ground.phase }, { on := 2, ground := Ground.textOnly Departure.lateStores }, { on := 3, ground := Ground.textOnly Departure.lateStores }, { on := 4, ground := Ground.textOnly Departure.lateStores }, { on := 5, ground := Ground.textOnly Departure.lateStoresUnsure }, { on := 6, ground := Ground.phase }, { on := 7, ground := Ground.phase }], guard := none }) rfl (fun K hK => ?_) AllReadyH.nil)
          · have p0 := Z7.out.cell (k := 0) rfl
            have f0 := frozen_of_row v7 _ 0 _ _ Z7.out
            go_simp
            have OA := Lib.hid (OA.out.box Z7.out 0 (.slice aa na ca))
            have OB := Lib.hid (OB.out.box Z7.out 0 (.slice aa na ca))
            have Z8 := Lib.hid (Z8.out.far (p := ⟨g7, 0, none⟩) (by have := HNE.out; show g8 ≠ g7; omega) (.slice aa na ca))
            have Z7 := Lib.hid (Z7.out.set (k := 0) (.slice aa na ca))
            refine hK.out _ _ (hHeld.setCell (p := ⟨g7, 0, none⟩) g70.out (.slice aa na ca)) (fun hHeld => ?_)
            clear p0 f0
            obtain ⟨vq, hv9⟩ : ∃ q, q = v7.setCell ⟨g7, 0, none⟩ (.slice aa na ca) := ⟨_, rfl⟩
            rw [← hv9] at Z7 Z8 OA OB hHeld ⊢
            clear hv9
            (try simp only [Act.put, List.setIfInBounds_toArray, List.set_cons_zero, List.set_cons_succ])
            refine wpAnyH_ready (rs := [9]) (by kernel_rfl) (by simp) (AllReadyH.cons (o := { dst := none, op := Op.store 27 (Operand.tmp 8) (Operand.tmp 34), type := 0, pos := "law.go:44", after := #[{ on := 7, ground := Ground.data }, { on := 5, ground := Ground.data }, { on := 8, ground := Ground.chain }, { on := 0, ground := Ground.phase }, { on := 1, ground := Ground.phase }, { on := 2, ground := Ground.phase }, { on := 3, ground := Ground.phase }, { on := 4, ground := Ground.phase }, { on := 5, ground := Ground.phase }, { on := 6, ground := Ground.phase }, { on := 7, ground := Ground.phase }, { on := 8, ground := Ground.phase }], guard := none }) rfl (fun K hK => ?_) AllReadyH.nil)
            · have p0 := Z8.out.cell (k := 0) rfl
              have f0 := frozen_of_row vq _ 0 _ _ Z8.out
              go_simp
              have OA := Lib.hid (OA.out.box Z8.out 0 (.slice ab nb cb))
              have OB := Lib.hid (OB.out.box Z8.out 0 (.slice ab nb cb))
              have Z7 := Lib.hid (Z7.out.far (p := ⟨g8, 0, none⟩) (by have := HNE.out; show g7 ≠ g8; omega) (.slice ab nb cb))
              have Z8 := Lib.hid (Z8.out.set (k := 0) (.slice ab nb cb))
              refine hK.out _ _ (hHeld.setCell (p := ⟨g8, 0, none⟩) g80.out (.slice ab nb cb)) (fun hHeld => ?_)
              clear p0 f0
              (try simp only [Act.put, List.setIfInBounds_toArray, List.set_cons_zero, List.set_cons_succ])
              refine wpAnyH_done (by kernel_rfl) ?_ _
              refine hEnd _ _ _ _ _ _ _ _ _ ?_
              exact ⟨_, _, _, _, _, _, rfl, rfl, g70, g80, Z7, Z8, OA, OB, Lib.hid hHeld⟩
      · go_simp
        have hba : Below v1.heap.size v1 (v1.alloc (.cells #[.slice none 0 0] 27)) := below_new _ _
        have Z8 : Hid (Box (v1.alloc (.cells #[.slice none 0 0] 27)) v1.heap.size 27 #[.slice none 0 0]) := Lib.hid box_new
        have g80 : Hid (w1.heap.size ≤ v1.heap.size) := Lib.hid hHeld.size
        have HNE0 : Hid (g7 < v1.heap.size) := Lib.hid Z7.out.lt
        have OA := Lib.hid (OA.out.on hba)
        have Z7 := Lib.hid (Z7.out.on hba)
        obtain ⟨v7, hv9⟩ : ∃ q, q = v1.alloc (.cells #[.slice none 0 0] 27) := ⟨_, rfl⟩
        refine hK.out _ _ (bch hHeld hba) (fun hHeld => ?_)
        clear hba
        rw [← hv9] at Z8 hHeld OA Z7 ⊢
        clear hv9
        obtain ⟨g8, hg9⟩ : ∃ q, q = v1.heap.size := ⟨_, rfl⟩
        rw [← hg9] at Z8 g80 HNE0 ⊢
        clear hg9
        have HNE : Hid (g7 ≠ g8) := Lib.hid (by have := HNE0.out; omega)
        (try simp only [Act.put, List.setIfInBounds_toArray, List.set_cons_zero, List.set_cons_succ])
        refine wpAnyH_ready (rs := [5]) (by kernel_rfl) (by simp) (AllReadyH.cons (o := { dst := some 34, op := Op.call { callee := Callee.value (Operand.func 10), args := #[Operand.tmp 33], argTypes := #[27] }, type := 27, pos := "law.go:44", after := #[{ on := 4, ground := Ground.data }, { on := 1, ground := Ground.chain }], guard := none }) rfl (fun K hK => ?_) AllReadyH.nil)
        · go_simp
          refine (few_any l0 _ v7 (HX0.out.on hHeld)).mono ?_
          rintro e v5 ⟨x9, rfl, hown, hba⟩
          rw [← HFB.out] at hown
          obtain ⟨ab, cb, rfl⟩ := hown.form
          have OB := Lib.hid (OwnR.base hown hHeld.size)
          rw [← HNB.out] at OB ⊢
          have OA := Lib.hid (OA.out.on hba)
          have Z7 := Lib.hid (Z7.out.on hba)
          have Z8 := Lib.hid (Z8.out.on hba)
          refine hK.out _ _ (bch hHeld hba) (fun hHeld => ?_)
          clear hown hba
          (try simp only [Act.put, List.setIfInBounds_toArray, List.set_cons_zero, List.set_cons_succ])
          refine wpAnyH_ready (rs := [8]) (by kernel_rfl) (by simp) (AllReadyH.cons (o := { dst := none, op := Op.store 27 (Operand.tmp 7) (Operand.tmp 30), type := 0, pos := "law.go:44", after := #[{ on := 6, ground := Ground.data }, { on := 1, ground := Ground.data }, { on := 5, ground := Ground.chain }, { on := 0, ground := Ground.phase }, { on := 1, ground := Ground.phase }, { on := 2, ground := Ground.textOnly Departure.lateStores }, { on := 3, ground := Ground.textOnly Departure.lateStores }, { on := 4, ground := Ground.textOnly Departure.lateStores }, { on := 5, ground := Ground.textOnly Departure.lateStoresUnsure }, { on := 6, ground := Ground.phase }, { on := 7, ground := Ground.phase }], guard := none }) rfl (fun K hK => ?_) AllReadyH.nil)
          · have p0 := Z7.out.cell (k := 0) rfl
            have f0 := frozen_of_row v5 _ 0 _ _ Z7.out
            go_simp
            have OA := Lib.hid (OA.out.box Z7.out 0 (.slice aa na ca))
            have OB := Lib.hid (OB.out.box Z7.out 0 (.slice aa na ca))
            have Z8 := Lib.hid (Z8.out.far (p := ⟨g7, 0, none⟩) (by have := HNE.out; show g8 ≠ g7; omega) (.slice aa na ca))
            have Z7 := Lib.hid (Z7.out.set (k := 0) (.slice aa na ca))
            refine hK.out _ _ (hHeld.setCell (p := ⟨g7, 0, none⟩) g70.out (.slice aa na ca)) (fun hHeld => ?_)
            clear p0 f0
            obtain ⟨vq, hv9⟩ : ∃ q, q = v5.setCell ⟨g7, 0, none⟩ (.slice aa na ca) := ⟨_, rfl⟩
            rw [← hv9] at Z7 Z8 OA OB hHeld ⊢
            clear hv9
            (try simp only [Act.put, List.setIfInBounds_toArray, List.set_cons_zero, List.set_cons_succ])
            refine wpAnyH_ready (rs := [9]) (by kernel_rfl) (by simp) (AllReadyH.cons (o := { dst := none, op := Op.store 27 (Operand.tmp 8) (Operand.tmp 34), type := 0, pos := "law.go:44", after := #[{ on := 7, ground := Ground.data }, { on := 5, ground := Ground.data }, { on := 8, ground := Ground.chain }, { on := 0, ground := Ground.phase }, { on := 1, ground := Ground.phase }, { on := 2, ground := Ground.phase }, { on := 3, ground := Ground.phase }, { on := 4, ground := Ground.phase }, { on := 5, ground := Ground.phase }, { on := 6, ground := Ground.phase }, { on := 7, ground := Ground.phase }, { on := 8, ground := Ground.phase }], guard := none }) rfl (fun K hK => ?_) AllReadyH.nil)
            · have p0 := Z8.out.cell (k := 0) rfl
              have f0 := frozen_of_row vq _ 0 _ _ Z8.out
              go_simp
              have OA := Lib.hid (OA.out.box Z8.out 0 (.slice ab nb cb))
              have OB := Lib.hid (OB.out.box Z8.out 0 (.slice ab nb cb))
              have Z7 := Lib.hid (Z7.out.far (p := ⟨g8, 0, none⟩) (by have := HNE.out; show g7 ≠ g8; omega) (.slice ab nb cb))
              have Z8 := Lib.hid (Z8.out.set (k := 0) (.slice ab nb cb))
              refine hK.out _ _ (hHeld.setCell (p := ⟨g8, 0, none⟩) g80.out (.slice ab nb cb)) (fun hHeld => ?_)
              clear p0 f0
              (try simp only [Act.put, List.setIfInBounds_toArray, List.set_cons_zero, List.set_cons_succ])
              refine wpAnyH_done (by kernel_rfl) ?_ _
              refine hEnd _ _ _ _ _ _ _ _ _ ?_
              exact ⟨_, _, _, _, _, _, rfl, rfl, g70, g80, Z7, Z8, OA, OB, Lib.hid hHeld⟩
    · go_simp
      have hba : Below v6.heap.size v6 (v6.alloc (.cells #[.slice none 0 0] 27)) := below_new _ _
      have Z8 : Hid (Box (v6.alloc (.cells #[.slice none 0 0] 27)) v6.heap.size 27 #[.slice none 0 0]) := Lib.hid box_new
      have g80 : Hid (w1.heap.size ≤ v6.heap.size) := Lib.hid hHeld.size
      have HNE0 : Hid (g7 < v6.heap.size) := Lib.hid Z7.out.lt
      have Z7 := Lib.hid (Z7.out.on hba)
      obtain ⟨v7, hv9⟩ : ∃ q, q = v6.alloc (.cells #[.slice none 0 0] 27) := ⟨_, rfl⟩
      refine hK.out _ _ (bch hHeld hba) (fun hHeld => ?_)
      clear hba
      rw [← hv9] at Z8 hHeld Z7 ⊢
      clear hv9
      obtain ⟨g8, hg9⟩ : ∃ q, q = v6.heap.size := ⟨_, rfl⟩
      rw [← hg9] at Z8 g80 HNE0 ⊢
      clear hg9
      have HNE : Hid (g7 ≠ g8) := Lib.hid (by have := HNE0.out; omega)
      (try simp only [Act.put, List.setIfInBounds_toArray, List.set_cons_zero, List.set_cons_succ])
      refine wpAnyH_ready (rs := [1]) (by kernel_rfl) (by simp) (AllReadyH.cons (o := { dst := some 30, op := Op.call { callee := Callee.value (Operand.func 10), args := #[Operand.tmp 29], argTypes := #[27] }, type := 27, pos := "law.go:44", after := #[{ on := 0, ground := Ground.data }], guard := none }) rfl (fun K hK => ?_) AllReadyH.nil)
      · go_simp
        refine (few_any l _ v7 (HXK.out.on hHeld)).mono ?_
        rintro e v1 ⟨x9, rfl, hown, hba⟩
        rw [← HFA.out] at hown
        obtain ⟨aa, ca, rfl⟩ := hown.form
        have OA := Lib.hid (OwnR.base hown hHeld.size)
        rw [← HNA.out] at OA ⊢
        have Z7 := Lib.hid (Z7.out.on hba)
        have Z8 := Lib.hid (Z8.out.on hba)
        refine hK.out _ _ (bch hHeld hba) (fun hHeld => ?_)
        clear hown hba
        (try simp only [Act.put, List.setIfInBounds_toArray, List.set_cons_zero, List.set_cons_succ])
        refine wpAnyH_ready (rs := [5]) (by kernel_rfl) (by simp) (AllReadyH.cons (o := { dst := some 34, op := Op.call { callee := Callee.value (Operand.func 10), args := #[Operand.tmp 33], argTypes := #[27] }, type := 27, pos := "law.go:44", after := #[{ on := 4, ground := Ground.data }, { on := 1, ground := Ground.chain }], guard := none }) rfl (fun K hK => ?_) AllReadyH.nil)
        · go_simp
          refine (few_any l0 _ v1 (HX0.out.on hHeld)).mono ?_
          rintro e v5 ⟨x9, rfl, hown, hba⟩
          rw [← HFB.out] at hown
          obtain ⟨ab, cb, rfl⟩ := hown.form
          have OB := Lib.hid (OwnR.base hown hHeld.size)
          rw [← HNB.out] at OB ⊢
          have OA := Lib.hid (OA.out.on hba)
          have Z7 := Lib.hid (Z7.out.on hba)
          have Z8 := Lib.hid (Z8.out.on hba)
          refine hK.out _ _ (bch hHeld hba) (fun hHeld => ?_)
          clear hown hba
          (try simp only [Act.put, List.setIfInBounds_toArray, List.set_cons_zero, List.set_cons_succ])
          refine wpAnyH_ready (rs := [8]) (by kernel_rfl) (by simp) (AllReadyH.cons (o := { dst := none, op := Op.store 27 (Operand.tmp 7) (Operand.tmp 30), type := 0, pos := "law.go:44", after := #[{ on := 6, ground := Ground.data }, { on := 1, ground := Ground.data }, { on := 5, ground := Ground.chain }, { on := 0, ground := Ground.phase }, { on := 1, ground := Ground.phase }, { on := 2, ground := Ground.textOnly Departure.lateStores }, { on := 3, ground := Ground.textOnly Departure.lateStores }, { on := 4, ground := Ground.textOnly Departure.lateStores }, { on := 5, ground := Ground.textOnly Departure.lateStoresUnsure }, { on := 6, ground := Ground.phase }, { on := 7, ground := Ground.phase }], guard := none }) rfl (fun K hK => ?_) AllReadyH.nil)
          · have p0 := Z7.out.cell (k := 0) rfl
            have f0 := frozen_of_row v5 _ 0 _ _ Z7.out
            go_simp
            have OA := Lib.hid (OA.out.box Z7.out 0 (.slice aa na ca))
            have OB := Lib.hid (OB.out.box Z7.out 0 (.slice aa na ca))
            have Z8 := Lib.hid (Z8.out.far (p := ⟨g7, 0, none⟩) (by have := HNE.out; show g8 ≠ g7; omega) (.slice aa na ca))
            have Z7 := Lib.hid (Z7.out.set (k := 0) (.slice aa na ca))
            refine hK.out _ _ (hHeld.setCell (p := ⟨g7, 0, none⟩) g70.out (.slice aa na ca)) (fun hHeld => ?_)
            clear p0 f0
            obtain ⟨vq, hv9⟩ : ∃ q, q = v5.setCell ⟨g7, 0, none⟩ (.slice aa na ca) := ⟨_, rfl⟩
            rw [← hv9] at Z7 Z8 OA OB hHeld ⊢
            clear hv9
            (try simp only [Act.put, List.setIfInBounds_toArray, List.set_cons_zero, List.set_cons_succ])
            refine wpAnyH_ready (rs := [9]) (by kernel_rfl) (by simp) (AllReadyH.cons (o := { dst := none, op := Op.store 27 (Operand.tmp 8) (Operand.tmp 34), type := 0, pos := "law.go:44", after := #[{ on := 7, ground := Ground.data }, { on := 5, ground := Ground.data }, { on := 8, ground := Ground.chain }, { on := 0, ground := Ground.phase }, { on := 1, ground := Ground.phase }, { on := 2, ground := Ground.phase }, { on := 3, ground := Ground.phase }, { on := 4, ground := Ground.phase }, { on := 5, ground := Ground.phase }, { on := 6, ground := Ground.phase }, { on := 7, ground := Ground.phase }, { on := 8, ground := Ground.phase }], guard := none }) rfl (fun K hK => ?_) AllReadyH.nil)
            · have p0 := Z8.out.cell (k := 0) rfl
              have f0 := frozen_of_row vq _ 0 _ _ Z8.out
              go_simp
              have OA := Lib.hid (OA.out.box Z8.out 0 (.slice ab nb cb))
              have OB := Lib.hid (OB.out.box Z8.out 0 (.slice ab nb cb))
              have Z7 := Lib.hid (Z7.out.far (p := ⟨g8, 0, none⟩) (by have := HNE.out; show g7 ≠ g8; omega) (.slice ab nb cb))
              have Z8 := Lib.hid (Z8.out.set (k := 0) (.slice ab nb cb))
              refine hK.out _ _ (hHeld.setCell (p := ⟨g8, 0, none⟩) g80.out (.slice ab nb cb)) (fun hHeld => ?_)
              clear p0 f0
              (try simp only [Act.put, List.setIfInBounds_toArray, List.set_cons_zero, List.set_cons_succ])
              refine wpAnyH_done (by kernel_rfl) ?_ _
              refine hEnd _ _ _ _ _ _ _ _ _ ?_
              exact ⟨_, _, _, _, _, _, rfl, rfl, g70, g80, Z7, Z8, OA, OB, Lib.hid hHeld⟩
  · go_simp
    have hba : Below v0.heap.size v0 (v0.alloc (.cells #[.slice none 0 0] 27)) := below_new _ _
    have Z8 : Hid (Box (v0.alloc (.cells #[.slice none 0 0] 27)) v0.heap.size 27 #[.slice none 0 0]) := Lib.hid box_new
    have g80 : Hid (w1.heap.size ≤ v0.heap.size) := Lib.hid hHeld.size
    obtain ⟨v7, hv9⟩ : ∃ q, q = v0.alloc (.cells #[.slice none 0 0] 27) := ⟨_, rfl⟩
    refine hK.out _ _ (bch hHeld hba) (fun hHeld => ?_)
    clear hba
    rw [← hv9] at Z8 hHeld ⊢
    clear hv9
    obtain ⟨g8, hg9⟩ : ∃ q, q = v0.heap.size := ⟨_, rfl⟩
    rw [← hg9] at Z8 g80 ⊢
    clear hg9
    (try simp only [Act.put, List.setIfInBounds_toArray, List.set_cons_zero, List.set_cons_succ])
    refine wpAnyH_ready (rs := [1, 6]) (by kernel_rfl) (by simp) (AllReadyH.cons (o := { dst := some 30, op := Op.call { callee := Callee.value (Operand.func 10), args := #[Operand.tmp 29], argTypes := #[27] }, type := 27, pos := "law.go:44", after := #[{ on := 0, ground := Ground.data }], guard := none }) rfl (fun K hK => ?_) (AllReadyH.cons (o := { dst := some 7, op := Op.alloc 27, type := 0, pos := "law.go:44", after := #[], guard := none }) rfl (fun K hK => ?_) AllReadyH.nil))
    · go_simp
      refine (few_any l _ v7 (HXK.out.on hHeld)).mono ?_
      rintro e v1 ⟨x9, rfl, hown, hba⟩
      rw [← HFA.out] at hown
      obtain ⟨aa, ca, rfl⟩ := hown.form
      have OA := Lib.hid (OwnR.base hown hHeld.size)
      rw [← HNA.out] at OA ⊢
      have Z8 := Lib.hid (Z8.out.on hba)
      refine hK.out _ _ (bch hHeld hba) (fun hHeld => ?_)
      clear hown hba
      (try simp only [Act.put, List.setIfInBounds_toArray, List.set_cons_zero, List.set_cons_succ])
      refine wpAnyH_ready (rs := [5, 6]) (by kernel_rfl) (by simp) (AllReadyH.cons (o := { dst := some 34, op := Op.call { callee := Callee.value (Operand.func 10), args := #[Operand.tmp 33], argTypes := #[27] }, type := 27, pos := "law.go:44", after := #[{ on := 4, ground := Ground.data }, { on := 1, ground := Ground.chain }], guard := none }) rfl (fun K hK => ?_) (AllReadyH.cons (o := { dst := some 7, op := Op.alloc 27, type := 0, pos := "law.go:44", after := #[], guard := none }) rfl (fun K hK => ?_) AllReadyH.nil))
      · go_simp
        refine (few_any l0 _ v1 (HX0.out.on hHeld)).mono ?_
        rintro e v5 ⟨x9, rfl, hown, hba⟩
        rw [← HFB.out] at hown
        obtain ⟨ab, cb, rfl⟩ := hown.form
        have OB := Lib.hid (OwnR.base hown hHeld.size)
        rw [← HNB.out] at OB ⊢
        have OA := Lib.hid (OA.out.on hba)
        have Z8 := Lib.hid (Z8.out.on hba)
        refine hK.out _ _ (bch hHeld hba) (fun hHeld => ?_)
        clear hown hba
        (try simp only [Act.put, List.setIfInBounds_toArray, List.set_cons_zero, List.set_cons_succ])
        refine wpAnyH_ready (rs := [6]) (by kernel_rfl) (by simp) (AllReadyH.cons (o := { dst := some 7, op := Op.alloc 27, type := 0, pos := "law.go:44", after := #[], guard := none }) rfl (fun K hK => ?_) AllReadyH.nil)
        · go_simp
          have hba : Below v5.heap.size v5 (v5.alloc (.cells #[.slice none 0 0] 27)) := below_new _ _
          have Z7 : Hid (Box (v5.alloc (.cells #[.slice none 0 0] 27)) v5.heap.size 27 #[.slice none 0 0]) := Lib.hid box_new
          have g70 : Hid (w1.heap.size ≤ v5.heap.size) := Lib.hid hHeld.size
          have HNE0 : Hid (g8 < v5.heap.size) := Lib.hid Z8.out.lt
          have OA := Lib.hid (OA.out.on hba)
          have OB := Lib.hid (OB.out.on hba)
          have Z8 := Lib.hid (Z8.out.on hba)
          obtain ⟨v6, hv9⟩ : ∃ q, q = v5.alloc (.cells #[.slice none 0 0] 27) := ⟨_, rfl⟩
          refine hK.out _ _ (bch hHeld hba) (fun hHeld => ?_)
          clear hba
          rw [← hv9] at Z7 hHeld OA OB Z8 ⊢
          clear hv9
          obtain ⟨g7, hg9⟩ : ∃ q, q = v5.heap.size := ⟨_, rfl⟩
          rw [← hg9] at Z7 g70 HNE0 ⊢
          clear hg9
          have HNE : Hid (g7 ≠ g8) := Lib.hid (by have := HNE0.out; omega)
          (try simp only [Act.put, List.setIfInBounds_toArray, List.set_cons_zero, List.set_cons_succ])
          refine wpAnyH_ready (rs := [8]) (by kernel_rfl) (by simp) (AllReadyH.cons (o := { dst := none, op := Op.store 27 (Operand.tmp 7) (Operand.tmp 30), type := 0, pos := "law.go:44", after := #[{ on := 6, ground := Ground.data }, { on := 1, ground := Ground.data }, { on := 5, ground := Ground.chain }, { on := 0, ground := Ground.phase }, { on := 1, ground := Ground.phase }, { on := 2, ground := Ground.textOnly Departure.lateStores }, { on := 3, ground := Ground.textOnly Departure.lateStores }, { on := 4, ground := Ground.textOnly Departure.lateStores }, { on := 5, ground := Ground.textOnly Departure.lateStoresUnsure }, { on := 6, ground := Ground.phase }, { on := 7, ground := Ground.phase }], guard := none }) rfl (fun K hK => ?_) AllReadyH.nil)
          · have p0 := Z7.out.cell (k := 0) rfl
            have f0 := frozen_of_row v6 _ 0 _ _ Z7.out
            go_simp
            have OA := Lib.hid (OA.out.box Z7.out 0 (.slice aa na ca))
            have OB := Lib.hid (OB.out.box Z7.out 0 (.slice aa na ca))
            have Z8 := Lib.hid (Z8.out.far (p := ⟨g7, 0, none⟩) (by have := HNE.out; show g8 ≠ g7; omega) (.slice aa na ca))
            have Z7 := Lib.hid (Z7.out.set (k := 0) (.slice aa na ca))
            refine hK.out _ _ (hHeld.setCell (p := ⟨g7, 0, none⟩) g70.out (.slice aa na ca)) (fun hHeld => ?_)
            clear p0 f0
            obtain ⟨vq, hv9⟩ : ∃ q, q = v6.setCell ⟨g7, 0, none⟩ (.slice aa na ca) := ⟨_, rfl⟩
            rw [← hv9] at Z7 Z8 OA OB hHeld ⊢
            clear hv9
            (try simp only [Act.put, List.setIfInBounds_toArray, List.set_cons_zero, List.set_cons_succ])
            refine wpAnyH_ready (rs := [9]) (by kernel_rfl) (by simp) (AllReadyH.cons (o := { dst := none, op := Op.store 27 (Operand.tmp 8) (Operand.tmp 34), type := 0, pos := "law.go:44", after := #[{ on := 7, ground := Ground.data }, { on := 5, ground := Ground.data }, { on := 8, ground := Ground.chain }, { on := 0, ground := Ground.phase }, { on := 1, ground := Ground.phase }, { on := 2, ground := Ground.phase }, { on := 3, ground := Ground.phase }, { on := 4, ground := Ground.phase }, { on := 5, ground := Ground.phase }, { on := 6, ground := Ground.phase }, { on := 7, ground := Ground.phase }, { on := 8, ground := Ground.phase }], guard := none }) rfl (fun K hK => ?_) AllReadyH.nil)
            · have p0 := Z8.out.cell (k := 0) rfl
              have f0 := frozen_of_row vq _ 0 _ _ Z8.out
              go_simp
              have OA := Lib.hid (OA.out.box Z8.out 0 (.slice ab nb cb))
              have OB := Lib.hid (OB.out.box Z8.out 0 (.slice ab nb cb))
              have Z7 := Lib.hid (Z7.out.far (p := ⟨g8, 0, none⟩) (by have := HNE.out; show g7 ≠ g8; omega) (.slice ab nb cb))
              have Z8 := Lib.hid (Z8.out.set (k := 0) (.slice ab nb cb))
              refine hK.out _ _ (hHeld.setCell (p := ⟨g8, 0, none⟩) g80.out (.slice ab nb cb)) (fun hHeld => ?_)
              clear p0 f0
              (try simp only [Act.put, List.setIfInBounds_toArray, List.set_cons_zero, List.set_cons_succ])
              refine wpAnyH_done (by kernel_rfl) ?_ _
              refine hEnd _ _ _ _ _ _ _ _ _ ?_
              exact ⟨_, _, _, _, _, _, rfl, rfl, g70, g80, Z7, Z8, OA, OB, Lib.hid hHeld⟩
      · go_simp
        have hba : Below v1.heap.size v1 (v1.alloc (.cells #[.slice none 0 0] 27)) := below_new _ _
        have Z7 : Hid (Box (v1.alloc (.cells #[.slice none 0 0] 27)) v1.heap.size 27 #[.slice none 0 0]) := Lib.hid box_new
        have g70 : Hid (w1.heap.size ≤ v1.heap.size) := Lib.hid hHeld.size
        have HNE0 : Hid (g8 < v1.heap.size) := Lib.hid Z8.out.lt
        have OA := Lib.hid (OA.out.on hba)
        have Z8 := Lib.hid (Z8.out.on hba)
        obtain ⟨v6, hv9⟩ : ∃ q, q = v1.alloc (.cells #[.slice none 0 0] 27) := ⟨_, rfl⟩
        refine hK.out _ _ (bch hHeld hba) (fun hHeld => ?_)
        clear hba
        rw [← hv9] at Z7 hHeld OA Z8 ⊢
        clear hv9
        obtain ⟨g7, hg9⟩ : ∃ q, q = v1.heap.size := ⟨_, rfl⟩
        rw [← hg9] at Z7 g70 HNE0 ⊢
        clear hg9
        have HNE : Hid (g7 ≠ g8) := Lib.hid (by have := HNE0.out; omega)
        (try simp only [Act.put, List.setIfInBounds_toArray, List.set_cons_zero, List.set_cons_succ])
        refine wpAnyH_ready (rs := [5]) (by kernel_rfl) (by simp) (AllReadyH.cons (o := { dst := some 34, op := Op.call { callee := Callee.value (Operand.func 10), args := #[Operand.tmp 33], argTypes := #[27] }, type := 27, pos := "law.go:44", after := #[{ on := 4, ground := Ground.data }, { on := 1, ground := Ground.chain }], guard := none }) rfl (fun K hK => ?_) AllReadyH.nil)
        · go_simp
          refine (few_any l0 _ v6 (HX0.out.on hHeld)).mono ?_
          rintro e v5 ⟨x9, rfl, hown, hba⟩
          rw [← HFB.out] at hown
          obtain ⟨ab, cb, rfl⟩ := hown.form
          have OB := Lib.hid (OwnR.base hown hHeld.size)
          rw [← HNB.out] at OB ⊢
          have OA := Lib.hid (OA.out.on hba)
          have Z7 := Lib.hid (Z7.out.on hba)
          have Z8 := Lib.hid (Z8.out.on hba)
          refine hK.out _ _ (bch hHeld hba) (fun hHeld => ?_)
          clear hown hba
          (try simp only [Act.put, List.setIfInBounds_toArray, List.set_cons_zero, List.set_cons_succ])
          refine wpAnyH_ready (rs := [8]) (by kernel_rfl) (by simp) (AllReadyH.cons (o := { dst := none, op := Op.store 27 (Operand.tmp 7) (Operand.tmp 30), type := 0, pos := "law.go:44", after := #[{ on := 6, ground := Ground.data }, { on := 1, ground := Ground.data }, { on := 5, ground := Ground.chain }, { on := 0, ground := Ground.phase }, { on := 1, ground := Ground.phase }, { on := 2, ground := Ground.textOnly Departure.lateStores }, { on := 3, ground := Ground.textOnly Departure.lateStores }, { on := 4, ground := Ground.textOnly Departure.lateStores }, { on := 5, ground := Ground.textOnly Departure.lateStoresUnsure }, { on := 6, ground := Ground.phase }, { on := 7, ground := Ground.phase }], guard := none }) rfl (fun K hK => ?_) AllReadyH.nil)
          · have p0 := Z7.out.cell (k := 0) rfl
            have f0 := frozen_of_row v5 _ 0 _ _ Z7.out
            go_simp
            have OA := Lib.hid (OA.out.box Z7.out 0 (.slice aa na ca))
            have OB := Lib.hid (OB.out.box Z7.out 0 (.slice aa na ca))
            have Z8 := Lib.hid (Z8.out.far (p := ⟨g7, 0, none⟩) (by have := HNE.out; show g8 ≠ g7; omega) (.slice aa na ca))
            have Z7 := Lib.hid (Z7.out.set (k := 0) (.slice aa na ca))
            refine hK.out _ _ (hHeld.setCell (p := ⟨g7, 0, none⟩) g70.out (.slice aa na ca)) (fun hHeld => ?_)
            clear p0 f0
            obtain ⟨vq, hv9⟩ : ∃ q, q = v5.setCell ⟨g7, 0, none⟩ (.slice aa na ca) := ⟨_, rfl⟩
            rw [← hv9] at Z7 Z8 OA OB hHeld ⊢
            clear hv9
            (try simp only [Act.put, List.setIfInBounds_toArray, List.set_cons_zero, List.set_cons_succ])
            refine wpAnyH_ready (rs := [9]) (by kernel_rfl) (by simp) (AllReadyH.cons (o := { dst := none, op := Op.store 27 (Operand.tmp 8) (Operand.tmp 34), type := 0, pos := "law.go:44", after := #[{ on := 7, ground := Ground.data }, { on := 5, ground := Ground.data }, { on := 8, ground := Ground.chain }, { on := 0, ground := Ground.phase }, { on := 1, ground := Ground.phase }, { on := 2, ground := Ground.phase }, { on := 3, ground := Ground.phase }, { on := 4, ground := Ground.phase }, { on := 5, ground := Ground.phase }, { on := 6, ground := Ground.phase }, { on := 7, ground := Ground.phase }, { on := 8, ground := Ground.phase }], guard := none }) rfl (fun K hK => ?_) AllReadyH.nil)
            · have p0 := Z8.out.cell (k := 0) rfl
              have f0 := frozen_of_row vq _ 0 _ _ Z8.out
              go_simp
              have OA := Lib.hid (OA.out.box Z8.out 0 (.slice ab nb cb))
              have OB := Lib.hid (OB.out.box Z8.out 0 (.slice ab nb cb))
              have Z7 := Lib.hid (Z7.out.far (p := ⟨g8, 0, none⟩) (by have := HNE.out; show g7 ≠ g8; omega) (.slice ab nb cb))
              have Z8 := Lib.hid (Z8.out.set (k := 0) (.slice ab nb cb))
              refine hK.out _ _ (hHeld.setCell (p := ⟨g8, 0, none⟩) g80.out (.slice ab nb cb)) (fun hHeld => ?_)
              clear p0 f0
              (try simp only [Act.put, List.setIfInBounds_toArray, List.set_cons_zero, List.set_cons_succ])
              refine wpAnyH_done (by kernel_rfl) ?_ _
              refine hEnd _ _ _ _ _ _ _ _ _ ?_
              exact ⟨_, _, _, _, _, _, rfl, rfl, g70, g80, Z7, Z8, OA, OB, Lib.hid hHeld⟩
    · go_simp
      have hba : Below v7.heap.size v7 (v7.alloc (.cells #[.slice none 0 0] 27)) := below_new _ _
      have Z7 : Hid (Box (v7.alloc (.cells #[.slice none 0 0] 27)) v7.heap.size 27 #[.slice none 0 0]) := Lib.hid box_new
      have g70 : Hid (w1.heap.size ≤ v7.heap.size) := Lib.hid hHeld.size
      have HNE0 : Hid (g8 < v7.heap.size) := Lib.hid Z8.out.lt
      have Z8 := Lib.hid (Z8.out.on hba)
      obtain ⟨v6, hv9⟩ : ∃ q, q = v7.alloc (.cells #[.slice none 0 0] 27) := ⟨_, rfl⟩
      refine hK.out _ _ (bch hHeld hba) (fun hHeld => ?_)
      clear hba
      rw [← hv9] at Z7 hHeld Z8 ⊢
      clear hv9
      obtain ⟨g7, hg9⟩ : ∃ q, q = v7.heap.size := ⟨_, rfl⟩
      rw [← hg9] at Z7 g70 HNE0 ⊢
      clear hg9
      have HNE : Hid (g7 ≠ g8) := Lib.hid (by have := HNE0.out; omega)
      (try simp only [Act.put, List.setIfInBounds_toArray, List.set_cons_zero, List.set_cons_succ])
      refine wpAnyH_ready (rs := [1]) (by kernel_rfl) (by simp) (AllReadyH.cons (o := { dst := some 30, op := Op.call { callee := Callee.value (Operand.func 10), args := #[Operand.tmp 29], argTypes := #[27] }, type := 27, pos := "law.go:44", after := #[{ on := 0, ground := Ground.data }], guard := none }) rfl (fun K hK => ?_) AllReadyH.nil)
      · go_simp
        refine (few_any l _ v6 (HXK.out.on hHeld)).mono ?_
        rintro e v1 ⟨x9, rfl, hown, hba⟩
        rw [← HFA.out] at hown
        obtain ⟨aa, ca, rfl⟩ := hown.form
        have OA := Lib.hid (OwnR.base hown hHeld.size)
        rw [← HNA.out] at OA ⊢
        have Z7 := Lib.hid (Z7.out.on hba)
        have Z8 := Lib.hid (Z8.out.on hba)
        refine hK.out _ _ (bch hHeld hba) (fun hHeld => ?_)
        clear hown hba
        (try simp only [Act.put, List.setIfInBounds_toArray, List.set_cons_zero, List.set_cons_succ])
        refine wpAnyH_ready (rs := [5]) (by kernel_rfl) (by simp) (AllReadyH.cons (o := { dst := some 34, op := Op.call { callee := Callee.value (Operand.func 10), args := #[Operand.tmp 33], argTypes := #[27] }, type := 27, pos := "law.go:44", after := #[{ on := 4, ground := Ground.data }, { on := 1, ground := Ground.chain }], guard := none }) rfl (fun K hK => ?_) AllReadyH.nil)
        · go_simp
          refine (few_any l0 _ v1 (HX0.out.on hHeld)).mono ?_
          rintro e v5 ⟨x9, rfl, hown, hba⟩
          rw [← HFB.out] at hown
          obtain ⟨ab, cb, rfl⟩ := hown.form
          have OB := Lib.hid (OwnR.base hown hHeld.size)
          rw [← HNB.out] at OB ⊢
          have OA := Lib.hid (OA.out.on hba)
          have Z7 := Lib.hid (Z7.out.on hba)
          have Z8 := Lib.hid (Z8.out.on hba)
          refine hK.out _ _ (bch hHeld hba) (fun hHeld => ?_)
          clear hown hba
          (try simp only [Act.put, List.setIfInBounds_toArray, List.set_cons_zero, List.set_cons_succ])
          refine wpAnyH_ready (rs := [8]) (by kernel_rfl) (by simp) (AllReadyH.cons (o := { dst := none, op := Op.store 27 (Operand.tmp 7) (Operand.tmp 30), type := 0, pos := "law.go:44", after := #[{ on := 6, ground := Ground.data }, { on := 1, ground := Ground.data }, { on := 5, ground := Ground.chain }, { on := 0, ground := Ground.phase }, { on := 1, ground := Ground.phase }, { on := 2, ground := Ground.textOnly Departure.lateStores }, { on := 3, ground := Ground.textOnly Departure.lateStores }, { on := 4, ground := Ground.textOnly Departure.lateStores }, { on := 5, ground := Ground.textOnly Departure.lateStoresUnsure }, { on := 6, ground := Ground.phase }, { on := 7, ground := Ground.phase }], guard := none }) rfl (fun K hK => ?_) AllReadyH.nil)
          · have p0 := Z7.out.cell (k := 0) rfl
            have f0 := frozen_of_row v5 _ 0 _ _ Z7.out
            go_simp
            have OA := Lib.hid (OA.out.box Z7.out 0 (.slice aa na ca))
            have OB := Lib.hid (OB.out.box Z7.out 0 (.slice aa na ca))
            have Z8 := Lib.hid (Z8.out.far (p := ⟨g7, 0, none⟩) (by have := HNE.out; show g8 ≠ g7; omega) (.slice aa na ca))
            have Z7 := Lib.hid (Z7.out.set (k := 0) (.slice aa na ca))
            refine hK.out _ _ (hHeld.setCell (p := ⟨g7, 0, none⟩) g70.out (.slice aa na ca)) (fun hHeld => ?_)
            clear p0 f0
            obtain ⟨vq, hv9⟩ : ∃ q, q = v5.setCell ⟨g7, 0, none⟩ (.slice aa na ca) := ⟨_, rfl⟩
            rw [← hv9] at Z7 Z8 OA OB hHeld ⊢
            clear hv9
            (try simp only [Act.put, List.setIfInBounds_toArray, List.set_cons_zero, List.set_cons_succ])
            refine wpAnyH_ready (rs := [9]) (by kernel_rfl) (by simp) (AllReadyH.cons (o := { dst := none, op := Op.store 27 (Operand.tmp 8) (Operand.tmp 34), type := 0, pos := "law.go:44", after := #[{ on := 7, ground := Ground.data }, { on := 5, ground := Ground.data }, { on := 8, ground := Ground.chain }, { on := 0, ground := Ground.phase }, { on := 1, ground := Ground.phase }, { on := 2, ground := Ground.phase }, { on := 3, ground := Ground.phase }, { on := 4, ground := Ground.phase }, { on := 5, ground := Ground.phase }, { on := 6, ground := Ground.phase }, { on := 7, ground := Ground.phase }, { on := 8, ground := Ground.phase }], guard := none }) rfl (fun K hK => ?_) AllReadyH.nil)
            · have p0 := Z8.out.cell (k := 0) rfl
              have f0 := frozen_of_row vq _ 0 _ _ Z8.out
              go_simp
              have OA := Lib.hid (OA.out.box Z8.out 0 (.slice ab nb cb))
              have OB := Lib.hid (OB.out.box Z8.out 0 (.slice ab nb cb))
              have Z7 := Lib.hid (Z7.out.far (p := ⟨g8, 0, none⟩) (by have := HNE.out; show g7 ≠ g8; omega) (.slice ab nb cb))
              have Z8 := Lib.hid (Z8.out.set (k := 0) (.slice ab nb cb))
              refine hK.out _ _ (hHeld.setCell (p := ⟨g8, 0, none⟩) g80.out (.slice ab nb cb)) (fun hHeld => ?_)
              clear p0 f0
              (try simp only [Act.put, List.setIfInBounds_toArray, List.set_cons_zero, List.set_cons_succ])
              refine wpAnyH_done (by kernel_rfl) ?_ _
              refine hEnd _ _ _ _ _ _ _ _ _ ?_
              exact ⟨_, _, _, _, _, _, rfl, rfl, g70, g80, Z7, Z8, OA, OB, Lib.hid hHeld⟩
end Go.Proofs.YtlfehjjnepiljaaGreatDoor
