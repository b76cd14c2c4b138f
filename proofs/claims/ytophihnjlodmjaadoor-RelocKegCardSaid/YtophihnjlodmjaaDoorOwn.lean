/- Proved here: 'cut' of the laws of package reloc. -/
import Derived.Test.YtophihnjlodmjaaDoorWakes
namespace Go.Proofs.YtophihnjlodmjaaDoor
open Go.RowKit Go.Shelf
attribute [local go_sem] Oper.semAt_some

theorem ext_list (l : Bs) (n : Nat) : (⟨l.toArray⟩ : ByteArray).extract 0 n = ⟨(l.take n).toArray⟩ := by
  have h : ((⟨l.toArray⟩ : ByteArray).extract 0 n).data.toList = l.take n := by rw [Lib.extract_data, List.drop_zero]; rfl
  have h2 : ((⟨l.toArray⟩ : ByteArray).extract 0 n).data = (l.take n).toArray := by rw [← h]
  cases he : (⟨l.toArray⟩ : ByteArray).extract 0 n with
  | mk d => rw [he] at h2; exact congrArg ByteArray.mk h2
theorem ext_min (l : Bs) (k : Nat) : (⟨l.toArray⟩ : ByteArray).extract 0 (min (l.length : Int) (k : Int)).toNat = ⟨(l.take k).toArray⟩ := by
  rw [ext_list]
  have e : (min (l.length : Int) (k : Int)).toNat = min l.length k := by omega
  rw [e]
  congr 2
  rw [List.take_eq_take_iff]; omega
theorem cut_any (l : Bs) (w : World) : Calls Tryd.prog 28 #[.string ⟨l.toArray⟩] w fun e w' => e = .returned (.string ⟨(l.take 1000).toArray⟩) ∧ w = w' := by
  have HE := Lib.hid (ext_min l 1000)
  go_enter Tryd.func28, Tryd.ntmps28
  go_wp2
  go_ret
  refine ⟨?_, rfl⟩
  exact congrArg (fun s => Ending.returned (.string s)) HE.out
theorem below_row14 {B g : Nat} {a w : World} (h : Below B a w) (hg : B ≤ g) (cs : Array Value) : Below B a (w.setRow g cs) :=
  ⟨h.os, h.tape, h.output, by simpa using h.size, fun k hk => (setRow_other w g k cs (by omega)).trans (h.block k hk)⟩
theorem built25 (a b c : ByteArray) : Tryd.prog.built 25 [(0, .string a), (1, .string b), (2, .string c)] = some #[.string a, .string b, .string c] := by kernel_rfl
set_option maxRecDepth 100000 in
theorem own_any (l m k : Bs) (w : World) : Calls Tryd.prog 10 #[.agg #[.string ⟨l.toArray⟩, .string ⟨m.toArray⟩, .string ⟨k.toArray⟩]] w fun e w' => e = .returned (.agg #[.string ⟨(l.take 1000).toArray⟩, .string ⟨(m.take 64).toArray⟩, .string ⟨(k.take 64).toArray⟩]) ∧ Below w.heap.size w w' := by
  have HM := Lib.hid (ext_min m 64)
  have HK := Lib.hid (ext_min k 64)
  have pm1 : (0 : Int) ≤ min (m.length : Int) 64 := by omega
  have pm2 : min (m.length : Int) 64 ≤ (m.length : Int) := by omega
  have pk1 : (0 : Int) ≤ min (k.length : Int) 64 := by omega
  have pk2 : min (k.length : Int) 64 ≤ (k.length : Int) := by omega
  obtain ⟨g, hg⟩ : ∃ g, g = w.heap.size := ⟨_, rfl⟩
  obtain ⟨W0, hW0⟩ : ∃ z, z = (w.alloc (.cells #[.string ⟨l.toArray⟩, .string ⟨m.toArray⟩, .string ⟨k.toArray⟩] 25)).alloc (.cells #[.string ⟨#[]⟩, .string ⟨#[]⟩, .string ⟨#[]⟩] 25) := ⟨_, rfl⟩
  have hb : Below w.heap.size w W0 := by rw [hW0]; exact bch (below_new _ _) (below_new _ _)
  have hS : Box W0.drew g 25 #[.string ⟨l.toArray⟩, .string ⟨m.toArray⟩, .string ⟨k.toArray⟩] := by
    rw [hW0, hg]
    exact (below_new _ _).block _ (by simp) |>.trans (heap_alloc_new w _)
  have HR : Hid (Box W0.drew (g + 1) 25 #[.string ⟨#[]⟩, .string ⟨#[]⟩, .string ⟨#[]⟩]) := Lib.hid (by
    rw [hW0, hg]
    have := heap_alloc_new (w.alloc (.cells #[.string ⟨l.toArray⟩, .string ⟨m.toArray⟩, .string ⟨k.toArray⟩] 25)) (.cells #[.string ⟨#[]⟩, .string ⟨#[]⟩, .string ⟨#[]⟩] 25)
    rw [World.size_alloc] at this
    exact this)
  have HB := Lib.hid hb
  clear hb
  go_enter Tryd.func10, Tryd.ntmps10
  go_upto_region 1 with fail
  rw [← hW0, ← hg]
  have HG := Lib.hid hg
  clear hW0 hg
  refine wp_region_held_drew (S := fun W => Box W g 25 #[.string ⟨l.toArray⟩, .string ⟨m.toArray⟩, .string ⟨k.toArray⟩]) (by kernel_rfl) hS (fun hHeld => ?_)
  refine wpAnyH_take (i := 0) (oi := { dst := some 3, op := Op.fieldAddr 25 (Operand.tmp 1) 0, type := 0, pos := "law.go:31", after := #[], guard := none }) (v := ?_) rfl (by kernel_rfl) (by kernel_rfl) (by kernel_rfl) (fun _ _ _ h => h) (Or.inl ⟨by rfl, ?_⟩) hHeld ?_
  rotate_left
  · (intro w hSw; go_simp; try with_reducible rfl)
  (try simp only [Act.put, List.setIfInBounds_toArray, List.set_cons_zero, List.set_cons_succ])
  refine wpAnyH_take (i := 1) (oi := { dst := some 4, op := Op.load 9 (Operand.tmp 3), type := 9, pos := "law.go:31", after := #[{ on := 0, ground := Ground.data }], guard := none }) (v := ?_) rfl (by kernel_rfl) (by kernel_rfl) (by kernel_rfl) (fun _ _ _ h => h) (Or.inl ⟨by rfl, ?_⟩) hHeld ?_
  rotate_left
  · (intro w hSw; have p0 := hSw.cell (k := 0) rfl; go_simp; try with_reducible rfl)
  (try simp only [Act.put, List.setIfInBounds_toArray, List.set_cons_zero, List.set_cons_succ])
  refine wpAnyH_take (i := 3) (oi := { dst := some 6, op := Op.fieldAddr 25 (Operand.tmp 1) 1, type := 0, pos := "law.go:31", after := #[], guard := none }) (v := ?_) rfl (by kernel_rfl) (by kernel_rfl) (by kernel_rfl) (fun _ _ _ h => h) (Or.inl ⟨by rfl, ?_⟩) hHeld ?_
  rotate_left
  · (intro w hSw; go_simp; try with_reducible rfl)
  (try simp only [Act.put, List.setIfInBounds_toArray, List.set_cons_zero, List.set_cons_succ])
  refine wpAnyH_take (i := 4) (oi := { dst := some 7, op := Op.load 9 (Operand.tmp 6), type := 9, pos := "law.go:31", after := #[{ on := 3, ground := Ground.data }], guard := none }) (v := ?_) rfl (by kernel_rfl) (by kernel_rfl) (by kernel_rfl) (fun _ _ _ h => h) (Or.inl ⟨by rfl, ?_⟩) hHeld ?_
  rotate_left
  · (intro w hSw; have p0 := hSw.cell (k := 1) rfl; go_simp; try with_reducible rfl)
  (try simp only [Act.put, List.setIfInBounds_toArray, List.set_cons_zero, List.set_cons_succ])
  refine wpAnyH_take (i := 5) (oi := { dst := some 8, op := Op.fieldAddr 25 (Operand.tmp 1) 1, type := 0, pos := "law.go:31", after := #[], guard := none }) (v := ?_) rfl (by kernel_rfl) (by kernel_rfl) (by kernel_rfl) (fun _ _ _ h => h) (Or.inl ⟨by rfl, ?_⟩) hHeld ?_
  rotate_left
  · (intro w hSw; go_simp; try with_reducible rfl)
  (try simp only [Act.put, List.setIfInBounds_toArray, List.set_cons_zero, List.set_cons_succ])
  refine wpAnyH_take (i := 6) (oi := { dst := some 9, op := Op.load 9 (Operand.tmp 8), type := 9, pos := "law.go:31", after := #[{ on := 5, ground := Ground.data }], guard := none }) (v := ?_) rfl (by kernel_rfl) (by kernel_rfl) (by kernel_rfl) (fun _ _ _ h => h) (Or.inl ⟨by rfl, ?_⟩) hHeld ?_
  rotate_left
  · (intro w hSw; have p0 := hSw.cell (k := 1) rfl; go_simp; try with_reducible rfl)
  (try simp only [Act.put, List.setIfInBounds_toArray, List.set_cons_zero, List.set_cons_succ])
  refine wpAnyH_take (i := 7) (oi := { dst := some 10, op := Op.call { callee := Callee.builtin Builtin.len, args := #[Operand.tmp 9], argTypes := #[9] }, type := 3, pos := "law.go:31", after := #[{ on := 6, ground := Ground.data }], guard := none }) (v := ?_) rfl (by kernel_rfl) (by kernel_rfl) (by kernel_rfl) (fun _ _ _ h => h) (Or.inl ⟨by rfl, ?_⟩) hHeld ?_
  rotate_left
  · (intro w hSw; go_simp; try with_reducible rfl)
  (try simp only [Act.put, List.setIfInBounds_toArray, List.set_cons_zero, List.set_cons_succ])
  refine wpAnyH_take (i := 8) (oi := { dst := some 11, op := Op.call { callee := Callee.builtin Builtin.min, args := #[Operand.tmp 10, Operand.const (Value.int IntKind.i64 64)], argTypes := #[3, 3] }, type := 3, pos := "law.go:31", after := #[{ on := 7, ground := Ground.data }], guard := none }) (v := ?_) rfl (by kernel_rfl) (by kernel_rfl) (by kernel_rfl) (fun _ _ _ h => h) (Or.inl ⟨by rfl, ?_⟩) hHeld ?_
  rotate_left
  · (intro w hSw; go_simp; try with_reducible rfl)
  (try simp only [Act.put, List.setIfInBounds_toArray, List.set_cons_zero, List.set_cons_succ])
  refine wpAnyH_take (i := 9) (oi := { dst := some 12, op := Op.slice 9 (Operand.tmp 7) none (some (Operand.tmp 11)) none, type := 9, pos := "law.go:31", after := #[{ on := 4, ground := Ground.data }, { on := 8, ground := Ground.data }], guard := none }) (v := ?_) rfl (by kernel_rfl) (by kernel_rfl) (by kernel_rfl) (fun _ _ _ h => h) (Or.inl ⟨by rfl, ?_⟩) hHeld ?_
  rotate_left
  · (intro w hSw; go_simp; try with_reducible rfl)
  (try simp only [Act.put, List.setIfInBounds_toArray, List.set_cons_zero, List.set_cons_succ])
  refine wpAnyH_take (i := 10) (oi := { dst := some 13, op := Op.fieldAddr 25 (Operand.tmp 1) 2, type := 0, pos := "law.go:31", after := #[], guard := none }) (v := ?_) rfl (by kernel_rfl) (by kernel_rfl) (by kernel_rfl) (fun _ _ _ h => h) (Or.inl ⟨by rfl, ?_⟩) hHeld ?_
  rotate_left
  · (intro w hSw; go_simp; try with_reducible rfl)
  (try simp only [Act.put, List.setIfInBounds_toArray, List.set_cons_zero, List.set_cons_succ])
  refine wpAnyH_take (i := 11) (oi := { dst := some 14, op := Op.load 9 (Operand.tmp 13), type := 9, pos := "law.go:31", after := #[{ on := 10, ground := Ground.data }], guard := none }) (v := ?_) rfl (by kernel_rfl) (by kernel_rfl) (by kernel_rfl) (fun _ _ _ h => h) (Or.inl ⟨by rfl, ?_⟩) hHeld ?_
  rotate_left
  · (intro w hSw; have p0 := hSw.cell (k := 2) rfl; go_simp; try with_reducible rfl)
  (try simp only [Act.put, List.setIfInBounds_toArray, List.set_cons_zero, List.set_cons_succ])
  refine wpAnyH_take (i := 12) (oi := { dst := some 15, op := Op.fieldAddr 25 (Operand.tmp 1) 2, type := 0, pos := "law.go:31", after := #[], guard := none }) (v := ?_) rfl (by kernel_rfl) (by kernel_rfl) (by kernel_rfl) (fun _ _ _ h => h) (Or.inl ⟨by rfl, ?_⟩) hHeld ?_
  rotate_left
  · (intro w hSw; go_simp; try with_reducible rfl)
  (try simp only [Act.put, List.setIfInBounds_toArray, List.set_cons_zero, List.set_cons_succ])
  refine wpAnyH_take (i := 13) (oi := { dst := some 16, op := Op.load 9 (Operand.tmp 15), type := 9, pos := "law.go:31", after := #[{ on := 12, ground := Ground.data }], guard := none }) (v := ?_) rfl (by kernel_rfl) (by kernel_rfl) (by kernel_rfl) (fun _ _ _ h => h) (Or.inl ⟨by rfl, ?_⟩) hHeld ?_
  rotate_left
  · (intro w hSw; have p0 := hSw.cell (k := 2) rfl; go_simp; try with_reducible rfl)
  (try simp only [Act.put, List.setIfInBounds_toArray, List.set_cons_zero, List.set_cons_succ])
  refine wpAnyH_take (i := 14) (oi := { dst := some 17, op := Op.call { callee := Callee.builtin Builtin.len, args := #[Operand.tmp 16], argTypes := #[9] }, type := 3, pos := "law.go:31", after := #[{ on := 13, ground := Ground.data }], guard := none }) (v := ?_) rfl (by kernel_rfl) (by kernel_rfl) (by kernel_rfl) (fun _ _ _ h => h) (Or.inl ⟨by rfl, ?_⟩) hHeld ?_
  rotate_left
  · (intro w hSw; go_simp; try with_reducible rfl)
  (try simp only [Act.put, List.setIfInBounds_toArray, List.set_cons_zero, List.set_cons_succ])
  refine wpAnyH_take (i := 15) (oi := { dst := some 18, op := Op.call { callee := Callee.builtin Builtin.min, args := #[Operand.tmp 17, Operand.const (Value.int IntKind.i64 64)], argTypes := #[3, 3] }, type := 3, pos := "law.go:31", after := #[{ on := 14, ground := Ground.data }], guard := none }) (v := ?_) rfl (by kernel_rfl) (by kernel_rfl) (by kernel_rfl) (fun _ _ _ h => h) (Or.inl ⟨by rfl, ?_⟩) hHeld ?_
  rotate_left
  · (intro w hSw; go_simp; try with_reducible rfl)
  (try simp only [Act.put, List.setIfInBounds_toArray, List.set_cons_zero, List.set_cons_succ])
  refine wpAnyH_take (i := 16) (oi := { dst := some 19, op := Op.slice 9 (Operand.tmp 14) none (some (Operand.tmp 18)) none, type := 9, pos := "law.go:31", after := #[{ on := 11, ground := Ground.data }, { on := 15, ground := Ground.data }], guard := none }) (v := ?_) rfl (by kernel_rfl) (by kernel_rfl) (by kernel_rfl) (fun _ _ _ h => h) (Or.inl ⟨by rfl, ?_⟩) hHeld ?_
  rotate_left
  · (intro w hSw; go_simp; try with_reducible rfl)
  (try simp only [Act.put, List.setIfInBounds_toArray, List.set_cons_zero, List.set_cons_succ])
  refine wpAnyH_ready (rs := [2]) (by kernel_rfl) (by simp) (AllReadyH.cons (o := { dst := some 5, op := Op.call { callee := Callee.value (Operand.func 28), args := #[Operand.tmp 4], argTypes := #[9] }, type := 9, pos := "law.go:31", after := #[{ on := 1, ground := Ground.data }], guard := none }) rfl (fun K hK => ?_) AllReadyH.nil)
  go_simp
  go_wp2_with (go_at_call 28; refine (cut_any l _).mono ?_; rintro e w' ⟨rfl, rfl⟩)
  refine hK.out _ _ hHeld (fun hHeld => ?_)
  clear hK K
  (try simp only [Act.put, List.setIfInBounds_toArray, List.set_cons_zero, List.set_cons_succ])
  refine wpAnyH_take (i := 17) (oi := { dst := some 20, op := Op.build 25 #[(0, Operand.tmp 5), (1, Operand.tmp 12), (2, Operand.tmp 19)], type := 25, pos := "law.go:31", after := #[{ on := 2, ground := Ground.data }, { on := 9, ground := Ground.data }, { on := 16, ground := Ground.data }], guard := none }) (v := ?_) rfl (by kernel_rfl) (by kernel_rfl) (by kernel_rfl) (fun _ _ _ h => h) (Or.inl ⟨by rfl, ?_⟩) hHeld ?_
  rotate_left
  · (intro w hSw; have kb := built25; go_simp; try with_reducible rfl)
  (try simp only [Act.put, List.setIfInBounds_toArray, List.set_cons_zero, List.set_cons_succ])
  refine wpAnyH_ready (rs := [18]) (by kernel_rfl) (by simp) (AllReadyH.cons (o := { dst := none, op := Op.store 25 (Operand.tmp 2) (Operand.tmp 20), type := 0, pos := "law.go:31", after := #[{ on := 17, ground := Ground.data }, { on := 2, ground := Ground.chain }, { on := 0, ground := Ground.phase }, { on := 1, ground := Ground.phase }, { on := 2, ground := Ground.phase }, { on := 3, ground := Ground.phase }, { on := 4, ground := Ground.phase }, { on := 5, ground := Ground.phase }, { on := 6, ground := Ground.phase }, { on := 7, ground := Ground.phase }, { on := 8, ground := Ground.phase }, { on := 9, ground := Ground.phase }, { on := 10, ground := Ground.phase }, { on := 11, ground := Ground.phase }, { on := 12, ground := Ground.phase }, { on := 13, ground := Ground.phase }, { on := 14, ground := Ground.phase }, { on := 15, ground := Ground.phase }, { on := 16, ground := Ground.phase }, { on := 17, ground := Ground.phase }], guard := none }) rfl (fun K hK => ?_) AllReadyH.nil)
  rw [if_pos (by rfl)]
  refine Go.wp_store_row 25 (.tmp 2) (.tmp 20) rfl (g + 1) _ rfl rfl 25 #[.string ⟨#[]⟩, .string ⟨#[]⟩, .string ⟨#[]⟩] HR.out (by kernel_rfl) rfl (by simp [Value.oneCell']) ?_
  refine hK.out _ _ (by exact (setRow_other _ _ _ _ (show g ≠ g + 1 by omega)).trans hHeld) (fun hHeld => ?_)
  clear hK K
  (try simp only [Act.put, List.setIfInBounds_toArray, List.set_cons_zero, List.set_cons_succ])
  refine wpAnyH_done (by kernel_rfl) ?_ _
  obtain ⟨xm, hxm⟩ : ∃ z, z = (⟨m.toArray⟩ : ByteArray).extract 0 (min (m.length : Int) 64).toNat := ⟨_, rfl⟩
  obtain ⟨xk, hxk⟩ : ∃ z, z = (⟨k.toArray⟩ : ByteArray).extract 0 (min (k.length : Int) 64).toNat := ⟨_, rfl⟩
  have FIN : Hid ((fun e w' => e = Ending.returned (.agg #[.string ⟨(l.take 1000).toArray⟩, .string ⟨(m.take 64).toArray⟩, .string ⟨(k.take 64).toArray⟩]) ∧ Below w.heap.size w w') (.returned (.agg #[.string ⟨(l.take 1000).toArray⟩, .string xm, .string xk])) (W0.drew.setRow (g + 1) #[.string ⟨(l.take 1000).toArray⟩, .string xm, .string xk])) := Lib.hid ⟨by
      rw [hxm, hxk, show (⟨m.toArray⟩ : ByteArray).extract 0 (min (m.length : Int) 64).toNat = _ from HM.out, show (⟨k.toArray⟩ : ByteArray).extract 0 (min (k.length : Int) 64).toNat = _ from HK.out], below_row14 HB.out.drew (by rw [← HG.out]; exact Nat.le_succ g) _⟩
  rw [← hxm, ← hxk]
  have HRW := Lib.hid (setRow_heap W0.drew (g + 1) _ #[.string ⟨(l.take 1000).toArray⟩, .string xm, .string xk] 25 _ HR.out)
  clear hxm hxk pm1 pm2 pk1 pk2
  go_wp2
  refine bodyPost_ret ?_ rfl FIN.out
  exact results_cell_row rfl _ _ (g + 1) 25 #[.string ⟨(l.take 1000).toArray⟩, .string xm, .string xk] (0, 0) _ rfl HRW.out Tryd.underlying25 rfl (by kernel_rfl)
end Go.Proofs.YtophihnjlodmjaaDoor
