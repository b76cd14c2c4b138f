/- Proved here: Text, digit and Read of puncheonref03. -/
import Derived.Test.YtkenbppoldfecaaDoorRead
namespace Go.Proofs.YtkenbppoldfecaaDoor
open Go.RowKit Go.Shelf

theorem run_hxs {n : Nat} (h : n < 16) (W : World) : (Instr.slice 9 (.string digitsS) (some (.int .u8 (n : Int))) (some (.int .u8 ((n : Int) + 1))) none).run Tryd.prog W = .ok (.string ⟨#[hx n]⟩) W := by
  have h1 : (0 : Int) ≤ (n : Int) + 1 ∧ (n : Int) + 1 ≤ 16 := by omega
  have h2 : (0 : Int) ≤ (n : Int) ∧ n ≤ n + 1 := by omega
  have e : ((n : Int) + 1).toNat = n + 1 := by omega
  have hb : digitsS.extract n (n + 1) = ⟨#[hx n]⟩ := by
    have h3 : ∀ m : Fin 16, digitsS.extract m.val (m.val + 1) = ⟨#[hx m.val]⟩ := by decide +kernel
    exact h3 ⟨n, h⟩
  have hz : digitsS.size = 16 := rfl
  simp [Instr.slice, Sem.run_bind, run_underlying Tryd.underlying9, Instr.sliceBounds, Instr.sliceBound, asIntOf, hz, h1, h2, e, hb]

theorem info26 : (Tryd.prog.info? 26).map (·.size) = some 32 := by kernel_rfl
theorem info26b (l : Bytes) (h : l.length = 32) : (Tryd.prog.info? 26).map (·.size) = some (bytesA l).size := by
  rw [info26]
  simp [bytesA, bytesV_len, h]
theorem zero26 (l : List Value) : (Tryd.prog.info? 26).map (·.zero) = some (some (.agg (part z8 l 32 0))) := by
  rw [part_zero]
  kernel_rfl
theorem text_next (d : Bytes) {k : Nat} {c : UInt8} (h : d[k]? = some c) : ((⟨(textL (d.take k)).toArray⟩ : ByteArray) ++ ⟨#[hx (c.toNat / 16)]⟩) ++ ⟨#[hx (c.toNat % 16)]⟩ = ⟨(textL (d.take (k + 1))).toArray⟩ := by
  have e : textL (d.take (k + 1)) = textL (d.take k) ++ [hx (c.toNat / 16), hx (c.toNat % 16)] := by
    rw [List.take_add_one, h]
    unfold textL
    rw [List.flatMap_append]
    simp
  rw [e]
  apply ByteArray.ext
  simp [ByteArray.data_append]

set_option maxRecDepth 100000 in
set_option maxHeartbeats 2000000 in
theorem rtext_any (d : Bytes) (hd : d.length = 32) (w : World) : Calls Tryd.prog 16 #[.agg (bytesA d)] w fun e w' => e = .returned (.string ⟨(textL d).toArray⟩) ∧ Below w.heap.size w w' := by
  have HI := Lib.hid (info26b d hd)
  have HX0 : Hid (Box (w.alloc (.cells (bytesA d) 26)) w.heap.size 26 (bytesA d)) := Lib.hid (box_new w 26 _ rfl)
  have HD := Lib.hid hd
  have hB0 : Below w.heap.size w (w.alloc (.cells (bytesA d) 26)) := (Below.refl _ _).alloc (Nat.le_refl _) _
  have hT0 : (⟨#[]⟩ : ByteArray) = ⟨(textL (d.take 0)).toArray⟩ := rfl
  have HT0 := Lib.hid hT0
  clear hd hT0
  go_enter Tryd.func16, Tryd.ntmps16
  go_wp2_with (refine wpList_load_row rfl 26 (.tmp 1) rfl w.heap.size rfl 26 (bytesA d) (0, 0) (.array 32 5) HX0.out Tryd.underlying26 rfl HI.out ?_)
  go_loop [3, 5, 7, 8, 9, 10, 11, 12, 13, 14, 15, 16, 17, 18, 19, 20, 21, 22, 23, 24, 25, 26] (fun s _ i _ _ _ _ _ _ _ _ _ _ _ _ _ _ _ _ _ _ _ => ∃ (k : Nat) (b : ByteArray), k ≤ 32 ∧ i = .int .i64 k ∧ s = .string b ∧ Hid (b = ⟨(textL (d.take k)).toArray⟩)) (fun _ _ i _ _ _ _ _ _ _ _ _ _ _ _ _ _ _ _ _ _ _ => 32 - (Lib.intOf i).toNat)
  case atStart => exact ⟨0, _, Nat.zero_le _, rfl, rfl, HT0⟩
  case round =>
    obtain ⟨k, b, hk, rfl, rfl, HB⟩ := hrel
    by_cases hlt : k < 32
    · have hgd := get_getD d 0 (k := k) (by have := HD.out; omega)
      obtain ⟨c, hc⟩ : ∃ c, c = d.getD k 0 := ⟨_, rfl⟩
      rw [← hc] at hgd
      have hv : (bytesA d)[k]? = some (b8 c) := by
        unfold bytesA bytesV
        rw [List.getElem?_toArray, List.getElem?_map, hgd]
        rfl
      have hix := run_index_arr (P := Tryd.prog) Tryd.underlying26 Tryd.isAgg5 Tryd.sizeOf5 hlt hv
      have hcl := c.toNat_lt
      have HN := Lib.hid (text_next d hgd)
      obtain ⟨hi, hhi⟩ : ∃ hi, hi = c.toNat / 16 := ⟨_, rfl⟩
      obtain ⟨lo, hlo⟩ : ∃ lo, lo = c.toNat % 16 := ⟨_, rfl⟩
      have e1 : (c.toNat : Int) / 16 = (hi : Int) := by omega
      have e2 : (c.toNat : Int) % 16 = (lo : Int) := by omega
      have r1 := run_hxs (n := hi) (by omega)
      have r2 := run_hxs (n := lo) (by omega)
      rw [← hhi, ← hlo] at HN
      have hbs : b.size ≤ 64 := by
        rw [HB.out]
        show (textL (d.take k)).toArray.size ≤ 64
        rw [List.size_toArray, textL_len, List.length_take]
        omega
      have q1 : hi < 16 := by omega
      have q2 : lo < 16 := by omega
      have k2 : (k : Int) < 32 := by omega
      clear hgd hc hhi hlo hv hcl
      go_wp2
      go_round
      case rel => exact ⟨k + 1, _, hlt, by go_num, rfl, Lib.hid (by rw [HB.out]; exact HN.out)⟩
      case measure => simp [Lib.intOf]; omega
    · have hk2 : ¬ ((k : Int) < 32) := by omega
      have HE : Hid (b = ⟨(textL d).toArray⟩) := Lib.hid (by rw [HB.out, List.take_of_length_le (by have := HD.out; omega)])
      go_wp2
      go_ret
      exact ⟨congrArg Ending.returned (congrArg Value.string HE.out), hB0⟩

theorem dv_digit (x : UInt8) (h1 : 48 ≤ x.toNat) (h2 : x.toNat ≤ 57) : dv x = (x.toNat : Int) - 48 := by
  have h : ∀ n : Fin 256, 48 ≤ (UInt8.ofNat n.val).toNat → (UInt8.ofNat n.val).toNat ≤ 57 → dv (UInt8.ofNat n.val) = ((UInt8.ofNat n.val).toNat : Int) - 48 := by decide +kernel
  have := h ⟨x.toNat, x.toNat_lt⟩
  simp at this
  exact this h1 h2
theorem dv_letter (x : UInt8) (h1 : 97 ≤ x.toNat) (h2 : x.toNat ≤ 102) : dv x = (x.toNat : Int) - 97 + 10 := by
  have h : ∀ n : Fin 256, 97 ≤ (UInt8.ofNat n.val).toNat → (UInt8.ofNat n.val).toNat ≤ 102 → dv (UInt8.ofNat n.val) = ((UInt8.ofNat n.val).toNat : Int) - 97 + 10 := by decide +kernel
  have := h ⟨x.toNat, x.toNat_lt⟩
  simp at this
  exact this h1 h2
theorem dv_other (x : UInt8) (h1 : ¬ (48 ≤ x.toNat ∧ x.toNat ≤ 57)) (h2 : ¬ (97 ≤ x.toNat ∧ x.toNat ≤ 102)) : dv x = -1 := by
  have h : ∀ n : Fin 256, ¬ (48 ≤ (UInt8.ofNat n.val).toNat ∧ (UInt8.ofNat n.val).toNat ≤ 57) → ¬ (97 ≤ (UInt8.ofNat n.val).toNat ∧ (UInt8.ofNat n.val).toNat ≤ 102) → dv (UInt8.ofNat n.val) = -1 := by decide +kernel
  have := h ⟨x.toNat, x.toNat_lt⟩
  simp at this
  simp at h1 h2
  exact this h1 h2

theorem ret_i {a b : Int} (h : a = b) : Ending.returned (.int .i64 a) = .returned (.int .i64 b) := by rw [h]
set_option maxHeartbeats 1000000 in
theorem digit_any (x : UInt8) (w : World) : Calls Tryd.prog 37 #[b8 x] w fun e w' => e = .returned (.int .i64 (dv x)) ∧ w' = w := by
  have hcl : x.toNat < 256 := x.toNat_lt
  by_cases h1 : 48 ≤ x.toNat ∧ x.toNat ≤ 57
  · obtain ⟨a1, a2⟩ := h1
    have HV := Lib.hid (dv_digit x a1 a2)
    obtain ⟨n, hn⟩ : ∃ n, n = x.toNat := ⟨_, rfl⟩
    show Calls Tryd.prog 37 #[.int .u8 (x.toNat : Int)] w _
    rw [HV.out, ← hn]
    rw [← hn] at a1 a2 hcl
    have d1 : decide ((48 : Int) ≤ (n : Int)) = true := decide_eq_true (by omega)
    have d2 : decide ((n : Int) ≤ 57) = true := decide_eq_true (by omega)
    clear HV hn
    go_enter Tryd.func37, Tryd.ntmps37
    go_wp2
    go_ret
    exact ⟨rfl, rfl⟩
  · by_cases h2 : 97 ≤ x.toNat ∧ x.toNat ≤ 102
    · obtain ⟨a1, a2⟩ := h2
      have HV := Lib.hid (dv_letter x a1 a2)
      obtain ⟨n, hn⟩ : ∃ n, n = x.toNat := ⟨_, rfl⟩
      show Calls Tryd.prog 37 #[.int .u8 (x.toNat : Int)] w _
      rw [HV.out, ← hn]
      rw [← hn] at a1 a2 hcl
      have d1 : decide ((48 : Int) ≤ (n : Int)) = true := decide_eq_true (by omega)
      have d2 : decide ((n : Int) ≤ 57) = false := decide_eq_false (by omega)
      have d3 : decide ((97 : Int) ≤ (n : Int)) = true := decide_eq_true (by omega)
      have d4 : decide ((n : Int) ≤ 102) = true := decide_eq_true (by omega)
      clear HV hn h1
      go_enter Tryd.func37, Tryd.ntmps37
      go_wp2
      go_ret
      exact ⟨rfl, rfl⟩
    · have HV := Lib.hid (dv_other x h1 h2)
      obtain ⟨n, hn⟩ : ∃ n, n = x.toNat := ⟨_, rfl⟩
      show Calls Tryd.prog 37 #[.int .u8 (x.toNat : Int)] w _
      rw [HV.out, ← hn]
      rw [← hn] at h1 h2 hcl
      clear HV hn
      rcases (by omega : n < 48 ∨ (57 < n ∧ n < 97) ∨ 102 < n) with h | ⟨h, h'⟩ | h
      · have d1 : decide ((48 : Int) ≤ (n : Int)) = false := decide_eq_false (by omega)
        have d3 : decide ((97 : Int) ≤ (n : Int)) = false := decide_eq_false (by omega)
        clear h1 h2
        go_enter Tryd.func37, Tryd.ntmps37
        go_wp2
        go_ret
        exact ⟨rfl, rfl⟩
      · have d1 : decide ((48 : Int) ≤ (n : Int)) = true := decide_eq_true (by omega)
        have d2 : decide ((n : Int) ≤ 57) = false := decide_eq_false (by omega)
        have d3 : decide ((97 : Int) ≤ (n : Int)) = false := decide_eq_false (by omega)
        clear h1 h2
        go_enter Tryd.func37, Tryd.ntmps37
        go_wp2
        go_ret
        exact ⟨rfl, rfl⟩
      · have d1 : decide ((48 : Int) ≤ (n : Int)) = true := decide_eq_true (by omega)
        have d2 : decide ((n : Int) ≤ 57) = false := decide_eq_false (by omega)
        have d3 : decide ((97 : Int) ≤ (n : Int)) = true := decide_eq_true (by omega)
        have d4 : decide ((n : Int) ≤ 102) = false := decide_eq_false (by omega)
        clear h1 h2
        go_enter Tryd.func37, Tryd.ntmps37
        go_wp2
        go_ret
        exact ⟨rfl, rfl⟩
end Go.Proofs.YtkenbppoldfecaaDoor
