/- Proved here: cutLast of package path by the place of the last slash. -/
import Derived.Test.YtgmplpfbhcdofaaGreatPPath1
namespace Go.Proofs.YtgmplpfbhcdofaaGreat.Pt
open Go.RowKit Go.Shelf

theorem last_of (p : ByteArray) (a x : Str) (e : p.data.toList = a ++ 47 :: x) (hx : 47 ∉ x) : Lib.lastIndexByte p 47 = (a.length : Int) := by
  have hsz : p.size = a.length + (x.length + 1) := by
    have : p.data.toList.length = p.size := rfl
    rw [← this, e]; simp
  have hg : ∀ j, j < p.size → (p.data[j]!) = (a ++ 47 :: x)[j]! := by
    intro j hj
    have h2 : j < p.data.size := hj
    rw [getElem!_pos p.data j h2, ← Array.getElem_toList h2]
    simp only [e]
    rw [getElem!_pos]
  have hm : p.data[a.length]! = 47 := by
    rw [hg _ (by omega), List.getElem!_eq_getElem?_getD]
    simp
  rcases Lib.lastIndexByte_spec p 47 with ⟨_, h2⟩ | ⟨i, h1, h2, h3, h4⟩
  · exact absurd (by rw [hm]; rfl) (h2 a.length (by omega))
  · rw [h2]
    rcases Nat.lt_trichotomy i a.length with h | h | h
    · exact absurd (by rw [hm]; rfl) (h4 a.length h (by omega))
    · rw [h]
    · exfalso
      rw [hg i h1, List.getElem!_eq_getElem?_getD, List.getElem?_append_right (by omega)] at h3
      obtain ⟨d, hd⟩ : ∃ d, i - a.length = d + 1 := ⟨i - a.length - 1, by omega⟩
      rw [hd, List.getElem?_cons_succ] at h3
      have hd2 : d < x.length := by omega
      rw [List.getElem?_eq_getElem hd2] at h3
      simp only [Option.getD_some] at h3
      apply hx
      have : x[d] = 47 := by
        apply UInt8.toNat_inj.1
        show x[d].toNat = 47
        omega
      rw [← this]
      exact List.getElem_mem hd2

set_option maxHeartbeats 400000 in
theorem cutlast_no (p : ByteArray) (hp : p.size ≤ 140737488355328) (hv : validB p.data.toList = false) (w : World) : Calls Tryz.prog 156 #[.string p] w fun e w' => e = .returned (.tuple #[.string ⟨#[]⟩, .string ⟨#[]⟩]) ∧ Below w.heap.size w w' := by
  have HB := Lib.hid hv
  clear hv
  go_enter Tryz.func156, Tryz.ntmps156
  go_wp2_with (go_at_call 89; refine (valid_is p hp _ HB.out _).mono ?_; rintro e w' ⟨rfl, hb⟩)
  go_ret2
  exact ⟨rfl, hb⟩

theorem lastbyte_at (p : ByteArray) (hp : p.size ≤ 140737488355328) (k : Nat) (hk : Lib.lastIndexByte p 47 = (k : Int)) (w : World) : Calls Tryz.prog 162 #[.string p, .int .u8 47] w fun e w' => e = .returned (.int .i64 (k : Int)) ∧ w = w' :=
  (Tryz.strings_LastIndexByte p 47 (by omega) w).mono fun _ _ ⟨he, hw⟩ => ⟨by rw [he, hk], hw.symm⟩

set_option maxHeartbeats 1000000 in
theorem cutlast_zero (p : ByteArray) (hp : p.size ≤ 140737488355328) (hv : validB p.data.toList = true) (hk : Lib.lastIndexByte p 47 = 0) (w : World) :
    Calls Tryz.prog 156 #[.string p] w fun e w' => e = .returned (.tuple #[.string (p.extract 0 1), .string (p.extract 1 p.size)]) ∧ Below w.heap.size w w' := by
  have HB := Lib.hid hv
  have HK := Lib.hid hk
  have h1 := size_pos p hv
  clear hv hk
  go_enter Tryz.func156, Tryz.ntmps156
  go_wp2_with (first | (go_at_call 89; refine (valid_is p hp _ HB.out _).mono ?_; rintro e w' ⟨rfl, hb⟩) | (go_at_call 162; refine (lastbyte_at p hp 0 HK.out _).mono ?_; rintro e w' ⟨rfl, rfl⟩))
  go_region
  go_wp2
  go_ret2
  exact ⟨rfl, hb.drew⟩

set_option maxHeartbeats 1000000 in
theorem cutlast_pos (p : ByteArray) (hp : p.size ≤ 140737488355328) (hv : validB p.data.toList = true) (k : Nat) (h0 : 1 ≤ k) (hks : k < p.size) (hk : Lib.lastIndexByte p 47 = (k : Int)) (w : World) :
    Calls Tryz.prog 156 #[.string p] w fun e w' => e = .returned (.tuple #[.string (p.extract 0 k), .string (p.extract (k + 1) p.size)]) ∧ Below w.heap.size w w' := by
  have HB := Lib.hid hv
  have HK := Lib.hid hk
  have c1 : (1 : Int) ≤ ↑k := by omega
  have c2 : (↑k : Int) ≤ ↑p.size := by omega
  have c3 : (0 : Int) ≤ ↑k + 1 := by omega
  have c4 : (↑k + 1 : Int) ≤ ↑p.size := by omega
  have c5 : IntKind.i64.wrap (↑k + 1) = (↑k + 1 : Int) := IntWalk.i64_in _ (by omega)
  have c6 : ((k : Int) + 1).toNat = k + 1 := by omega
  have c7 : max (1 : Int) (k : Int) = k := by omega
  have c8 : ¬ ((k : Int) < 1) := by omega
  clear hv hk
  go_enter Tryz.func156, Tryz.ntmps156
  go_wp2_with (first | (go_at_call 89; refine (valid_is p hp _ HB.out _).mono ?_; rintro e w' ⟨rfl, hb⟩) | (go_at_call 162; refine (lastbyte_at p hp k HK.out _).mono ?_; rintro e w' ⟨rfl, rfl⟩))
  go_region
  go_wp2
  go_ret2
  exact ⟨rfl, hb.drew⟩
end Go.Proofs.YtgmplpfbhcdofaaGreat.Pt
