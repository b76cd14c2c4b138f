/- Proved here: padding of package sha: what stands behind so many bytes in the padded bytes. -/
import Derived.Test.YtkenbppoldfecaaDoorDigest
import Derived.Test.YtkenbppoldfecaaDoorConcat
import Derived.Laws.MakeOwn
namespace Go.Proofs.YtkenbppoldfecaaDoor
open Go.RowKit Go.Shelf

theorem own_of_box {w : World} {base g n cap : Nat} {e : TypeId} {cs : Array Value} (h : Box w g e cs) (hb : base ≤ g) (hn : n ≤ cap) (hm : cap ≤ maxLen) (hs : cs.size = cap) : w.ownsRow base e 1 (.slice (some ⟨g, 0, none⟩) n cap) n (cs.toList.take n) :=
  ⟨by simp; omega, .inr ⟨g, cap, cs, rfl, hb, h, hn, hm, by omega, by rw [Nat.mul_one]⟩⟩

theorem be8_at (m : Nat) {k : Nat} (hk : k < 8) : (be8 m)[k]? = some (UInt8.ofNat (m / 2 ^ (56 - 8 * k))) := by
  rcases (by omega : k = 0 ∨ k = 1 ∨ k = 2 ∨ k = 3 ∨ k = 4 ∨ k = 5 ∨ k = 6 ∨ k = 7) with rfl | rfl | rfl | rfl | rfl | rfl | rfl | rfl
  case _ => rfl
  case _ => rfl
  case _ => rfl
  case _ => rfl
  case _ => rfl
  case _ => rfl
  case _ => rfl
  case _ => simp [be8]
theorem noughts_lt (n : Nat) : noughts n < 64 := Nat.mod_lt _ (by decide)

/-- The padding's first bytes: all of them, but for those of the count, and k of these. -/
def padT (n k : Nat) : Bytes := 128 :: List.replicate (noughts n) 0 ++ (be8 (n * 8 % 18446744073709551616)).take k
theorem padT_all (n : Nat) : padT n 8 = padL n := rfl
theorem padT_len (n k : Nat) (hk : k ≤ 8) : (padT n k).length = 1 + noughts n + k := by simp [padT, be8]; omega
theorem padT_next (n : Nat) {k : Nat} (hk : k < 8) : padT n (k + 1) = padT n k ++ [UInt8.ofNat (n * 8 % 18446744073709551616 / 2 ^ (56 - 8 * k))] := by
  unfold padT
  rw [List.take_add_one, be8_at _ hk]
  simp
theorem pad_first (z : Nat) : (((List.replicate (1 + z + 8) z8).toArray.setIfInBounds 0 (b8 128)).toList.take (1 + z)) = bytesV (128 :: List.replicate z 0) := by
  have e : List.replicate (1 + z + 8) z8 = z8 :: List.replicate (z + 8) z8 := by rw [show 1 + z + 8 = (z + 8) + 1 by omega, List.replicate_succ]
  rw [e]
  simp [bytesV, Nat.add_comm 1 z, List.take_replicate]

theorem rd_one (w : World) (t : TypeId) (x : Value) : Rd (w.alloc (.cells #[x] t)) (.slice (some ⟨w.heap.size, 0, none⟩) 1 1) [x] :=
  Rd.of_own (own_of_box (base := 0) (n := 1) (cap := 1) (box_new (g := w.heap.size) w t #[x] rfl) (Nat.zero_le _) (Nat.le_refl _) (by unfold maxLen; omega) rfl)
theorem byte_div (m r : Nat) : b8 (UInt8.ofNat (m / 2 ^ r)) = .int .u8 ((m : Int) / 2 ^ r % 256) := by
  show Value.int .u8 _ = _
  rw [byte_of, Int.natCast_ediv, Int.natCast_pow]
  rfl

set_option maxRecDepth 100000 in
set_option maxHeartbeats 2000000 in
theorem padding_any (n : Nat) (hn : n < 2305843009213693952) (w : World) : Calls Tryd.prog 25 #[.int .u64 (n : Int)] w fun e w' => ∃ v, e = .returned v ∧ w'.ownsRow w.heap.size 5 1 v (padL n).length (bytesV (padL n)) ∧ Below w.heap.size w w' := by
  obtain ⟨z, hz⟩ : ∃ z, z = noughts n := ⟨_, rfl⟩
  have hz1 : z < 64 := by rw [hz]; exact noughts_lt n
  have e1 : ((120 : Int) - ((n : Int) + 1) % 64) % 64 = (z : Int) := by rw [hz]; unfold noughts; omega
  obtain ⟨a, ha⟩ : ∃ a, a = 1 + z := ⟨_, rfl⟩
  obtain ⟨c, hc⟩ : ∃ c, c = a + 8 := ⟨_, rfl⟩
  have e2 : (1 : Int) + (z : Int) = (a : Int) := by omega
  have e3 : (a : Int) + 8 = (c : Int) := by omega
  have a0 : 0 < a := by omega
  have a1 : a ≤ 64 := by omega
  obtain ⟨i0, hi, hz0, hzs, hzb⟩ := info_parts info5
  have hmk : ∀ W : World, (Instr.makeSlice 24 (.int .u64 (a : Int)) (.int .u64 (c : Int))).run Tryd.prog W = .ok (.slice (some ⟨W.heap.size, 0, none⟩) a c) (W.alloc (.cells (List.replicate c z8).toArray 5)) := fun W => by
    have h := run_make (P := Tryd.prog) (w := W) 24 5 i0 z8 Tryd.underlying24 hi hz0 .u64 .u64 (a : Int) (c : Int) (by omega) (by omega) (by rw [hzb]; omega) (by omega)
    rw [h, hzs, Int.toNat_natCast, Int.toNat_natCast, Nat.mul_one]
    congr 3
    apply Array.ext'
    apply List.ext_getElem?
    intro j
    simp [madeCells, Value.cells]
    by_cases hj : j < c <;> simp [hj, Nat.mod_one]
  have bx : Box (w.alloc (.cells (List.replicate c z8).toArray 5)) w.heap.size 5 (List.replicate c z8).toArray := box_new _ _ _ rfl
  have c0 := bx.cell (k := 0) (v := z8) (by rw [List.getElem?_toArray, List.getElem?_replicate, if_pos (by omega)])
  have f0 := bx.frozen 0
  have bx2 : Box (w.alloc (.cells ((List.replicate c z8).toArray.setIfInBounds 0 (.int .u8 128)) 5)) w.heap.size 5 ((List.replicate c z8).toArray.setIfInBounds 0 (b8 128)) := box_new _ _ _ rfl
  have ho : (w.alloc (.cells ((List.replicate c z8).toArray.setIfInBounds 0 (.int .u8 128)) 5)).ownsRow w.heap.size 5 1 (.slice (some ⟨w.heap.size, 0, none⟩) (padT n 0).length c) (padT n 0).length (bytesV (padT n 0)) := by
    have h := own_of_box (base := w.heap.size) (n := a) (cap := c) bx2 (Nat.le_refl _) (by omega) (by unfold maxLen; omega) (by simp)
    have e : (((List.replicate c z8).toArray.setIfInBounds 0 (b8 128)).toList.take a) = bytesV (padT n 0) := by
      rw [hc, ha, pad_first]
      unfold padT
      rw [hz]
      simp
    have el : (padT n 0).length = a := by rw [padT_len n 0 (by omega), Nat.add_zero, ha, hz]
    rw [e] at h
    rw [el]
    exact h
  have hB0 : Below w.heap.size w (w.alloc (.cells ((List.replicate c z8).toArray.setIfInBounds 0 (.int .u8 128)) 5)) := (Below.refl _ _).alloc (Nat.le_refl _) _
  have el : (padT n 0).length = a := by rw [padT_len n 0 (by omega), Nat.add_zero, ha, hz]
  rw [el] at ho
  obtain ⟨zs, hzs'⟩ : ∃ zs, zs = (List.replicate c z8).toArray := ⟨_, rfl⟩
  rw [← hzs'] at hmk c0 f0 ho hB0
  have HO := Lib.hid ho
  have HL := Lib.hid el
  clear ho el hzs' bx bx2 hi hz0 hzs hzb hz ha hc
  go_enter Tryd.func25, Tryd.ntmps25
  go_wp2
  rw [e1]
  clear e1 e2 e3 hmk
  go_loopw [4, 5, 19, 20, 21, 22, 23, 24, 25, 26, 27, 28, 29, 30] (fun v i _ _ _ _ _ _ _ _ _ _ _ _ wr => ∃ k : Nat, k ≤ 8 ∧ i = .int .i64 (56 - 8 * (k : Int)) ∧ Hid (wr.ownsRow w.heap.size 5 1 v (bytesV (padT n k)).length (bytesV (padT n k))) ∧ Below w.heap.size w wr) (fun _ i _ _ _ _ _ _ _ _ _ _ _ _ _ => (Lib.intOf i + 8).toNat)
  case atStart => exact ⟨0, Nat.zero_le _, rfl, Lib.hid (by rw [bytesV_len, HL.out]; exact HO.out), hB0⟩
  case round =>
    obtain ⟨k, hk, rfl, HW, hB⟩ := hrel
    by_cases hlt : k < 8
    · obtain ⟨r, hr⟩ : ∃ r, r = 56 - 8 * k := ⟨_, rfl⟩
      have r1 : (56 : Int) - 8 * (k : Int) = (r : Int) := by omega
      have r2 : r ≤ 56 := by omega
      obtain ⟨m, hm⟩ : ∃ m, m = n * 8 := ⟨_, rfl⟩
      have m1 : (n : Int) * 8 = (m : Int) := by omega
      have m2 : (m : Int) ≤ 18446744073709551615 := by omega
      have HP := Lib.hid (padT_next n hlt)
      have HE : Hid (UInt8.ofNat (n * 8 % 18446744073709551616 / 2 ^ (56 - 8 * k)) = UInt8.ofNat (m / 2 ^ r)) := Lib.hid (by rw [← hr, Nat.mod_eq_of_lt (by omega), ← hm])
      have HLEN : Hid ((padT n k).length = 1 + noughts n + k) := Lib.hid (padT_len n k (by omega))
      have HNO := Lib.hid (noughts_lt n)
      have HRR := Lib.hid hr
      rw [r1]
      clear hr hm r1
      go_wp2_with (at_builtin; refine wpList_append_rd rfl (.tmp 23) (.tmp 29) 24 5 z8 1 rfl Tryd.underlying24 info5 rfl w.heap.size _ _ (bytesV (padT n k)) [.int .u8 ((m : Int) / 2 ^ r % 256)] rfl (HW.out.alloc _) rfl (rd_one _ 5 _) (by simp [Value.oneCell']) (Nat.le_trans hB.size (by simp)) (by rw [bytesV_len, HLEN.out]; have := HNO.out; simp; omega) (by decide) ?_; intro v' w2 hown' hb2; have HO' := Lib.hid hown'; clear hown')
      go_roundw
      case rel =>
        refine ⟨k + 1, hlt, ?_, Lib.hid ?_, (hB.alloc hB.size _).trans hb2⟩
        · congr 1
          have := HRR.out
          push_cast
          omega
        · rw [HP.out, HE.out]
          unfold bytesV
          rw [List.map_append]
          have := HO'.out
          rw [← byte_div] at this
          exact this
      case measure => simp [Lib.intOf]; omega
    · have hk8 : ((56 : Int) - 8 * (k : Int)) = -8 := by omega
      have HE : Hid (k = 8) := Lib.hid (by omega)
      rw [hk8]
      clear hk8
      go_wp2_with fail
      go_ret
      have := HW.out
      rw [HE.out, padT_all] at this
      exact ⟨_, rfl, by rw [bytesV_len] at this; exact this, hB⟩
end Go.Proofs.YtkenbppoldfecaaDoor
