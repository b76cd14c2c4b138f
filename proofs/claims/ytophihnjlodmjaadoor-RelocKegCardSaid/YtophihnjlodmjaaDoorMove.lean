/- Proved here: Move of package reloc. -/
import Derived.Test.YtophihnjlodmjaaDoorMoveB
import Derived.Test.YtophihnjlodmjaaDoorRefM
namespace Go.Proofs.YtophihnjlodmjaaDoor
open Go.RowKit Go.Shelf
attribute [local go_sem] Oper.semAt_some

theorem bytes_of2 (l : Bs) (hl : l.length ≤ 1000000000) (w : World) : ∃ c w', (convert 9 57 (.string ⟨l.toArray⟩)).run Tryd.prog w = .ok (.slice (some ⟨w.heap.size, 0, none⟩) l.length c) w' ∧ Rd w' (.slice (some ⟨w.heap.size, 0, none⟩) l.length c) (bytesV l) ∧ Below w.heap.size w w' ∧ (∀ g, inBlk (.slice (some ⟨w.heap.size, 0, none⟩) l.length c) g → w.heap.size ≤ g ∧ g < w'.heap.size) := by
  refine ⟨_, _, run_bytes_of_string w 9 57 5 ⟨l.toArray⟩ Tryd.underlying9 Tryd.underlying57 Tryd.underlying5, ?_, ((Below.refl _ w).drew).alloc (Nat.le_refl _) _, ?_⟩
  · have g1 := grownCap_ge w (⟨l.toArray⟩ : ByteArray).size 0 5
    have g2 := grownCap_le_maxLen w (⟨l.toArray⟩ : ByteArray).size 0 5 (by show l.length ≤ maxLen; unfold maxLen; omega)
    refine ⟨_, _, by rw [bytesV_len], by rw [bytesV_len]; exact g1, g2, fun e => (by cases e), fun _ => ⟨w.heap.size, 0, rfl, ?_, fun j x hx => ?_⟩⟩
    · show _ < (w.drew.heap.push _).size
      rw [Array.size_push]
      exact Nat.lt_succ_self _
    · have hj := (List.getElem?_eq_some_iff.1 hx).1
      rw [bytesV_len] at hj
      rw [bytesV_at hj] at hx
      cases hx
      refine (cell_of_row _ w.heap.size (0 + j) _ 5 _ (heap_alloc_new w.drew _)).trans ?_
      rw [Nat.zero_add]
      exact bytesRow_at ⟨l.toArray⟩ _ j hj
  · rintro g ⟨o, p, n, c, e⟩
    injection e with e1 e2 e3
    injection e1 with e1
    injection e1 with e1
    subst e1
    refine ⟨Nat.le_refl _, ?_⟩
    show _ < (w.drew.heap.push _).size
    rw [Array.size_push]
    exact Nat.lt_succ_self _

theorem bg_any (a1 a2 : Option Addr) (n1 n2 c1 c2 : Nat) (w : World) : Calls Tryd.prog 33 #[.slice a1 n1 c1, .slice a2 n2 c2] w fun e w' => e = .returned (.func (.func 48) #[] #[.pointer (some ⟨w.heap.size, 0, none⟩), .pointer (some ⟨w.heap.size + 1, 0, none⟩)]) ∧ (w.alloc (.cells #[.slice a1 n1 c1] 57)).alloc (.cells #[.slice a2 n2 c2] 57) = w' := by
  go_enter Tryd.func33, Tryd.ntmps33
  go_wp2
  go_ret
  exact ⟨rfl, rfl⟩

/-- The first of two that is none of nought, else nought. -/
theorem or_any (g c : Nat) (x y : Int) (w : World) (h0 : w.cell? ⟨g, 0, none⟩ = some (.int .i64 x)) (h1 : w.cell? ⟨g, 1, none⟩ = some (.int .i64 y)) : Calls Tryd.prog 32 #[.slice (some ⟨g, 0, none⟩) 2 c] w fun e w' => e = .returned (.int .i64 (if x = 0 then y else x)) ∧ w = w' := by
  go_enter Tryd.func32, Tryd.ntmps32
  go_wp2
  go_loop [8] (fun i => ∃ k : Nat, i = .int .i64 (k : Int) ∧ k ≤ 2 ∧ Hid ((1 ≤ k → x = 0) ∧ (2 ≤ k → y = 0))) (fun i => 2 - (Lib.intOf i).toNat)
  case atStart => exact ⟨0, rfl, Nat.zero_le _, Lib.hid ⟨by omega, by omega⟩⟩
  case round =>
    obtain ⟨k, rfl, hk, HK⟩ := hrel
    match k, hk with
    | 0, _ =>
      by_cases hx : x = 0
      · subst hx
        go_wp2
        go_round
        case rel => exact ⟨1, by go_num, by omega, Lib.hid ⟨fun _ => by trivial, by omega⟩⟩
        case measure => simp [Lib.intOf]
      · have t1 : (x != 0) = true := bne_iff_ne.2 hx
        go_wp2
        go_ret
        exact ⟨rfl, rfl⟩
    | 1, _ =>
      obtain rfl := HK.out.1 (Nat.le_refl _)
      by_cases hy : y = 0
      · subst hy
        go_wp2
        go_round
        case rel => exact ⟨2, by go_num, by omega, Lib.hid ⟨fun _ => by trivial, fun _ => by trivial⟩⟩
        case measure => simp [Lib.intOf]
      · have t1 : (y != 0) = true := bne_iff_ne.2 hy
        go_wp2
        go_ret
        exact ⟨rfl, rfl⟩
    | 2, _ =>
      obtain rfl := HK.out.1 (by omega)
      obtain rfl := HK.out.2 (Nat.le_refl _)
      go_wp2
      go_ret
      exact ⟨rfl, rfl⟩

def MovTR (fr tt l : Bs) (w : World) (e : Ending) (w' : World) : Prop :=
  (∃ v1 v2, e = .returned (.tuple #[v1, v2, .bool true]) ∧ Rd w' v1 (bytesV (putO fr tt l)) ∧ w'.ownsRow w.heap.size 3 1 v2 (putA fr tt l).length (natsV (putA fr tt l))) ∧ Below w.heap.size w w'
theorem movet_any (bf bt : Nat) (vf vt : Value) (ad : Addr) (n c : Nat) (fr tt l : Bs) (w : World) (hk : FT bf bt vf vt fr tt w) (rd : Rd w (.slice (some ad) n c) (bytesV l)) (hf : 1 ≤ fr.length) (ht1 : 0 < tt.length) (hl : l.length ≤ 1000000) (hf2 : fr.length ≤ 1000) (ht2 : tt.length ≤ 1000)
    (hlow : ∀ g, inBlk (.slice (some ad) n c) g ∨ inBlk vf g ∨ inBlk vt g → g < w.heap.size) :
    Calls Tryd.prog 34 #[.slice (some ad) n c, .func (.func 48) #[] #[.pointer (some ⟨bf, 0, none⟩), .pointer (some ⟨bt, 0, none⟩)]] w (MovTR fr tt l w) := by
  have hp := putO_len fr tt l
  have hc := plcs_count fr l hf
  have hm : (plcs fr l).length * tt.length ≤ 1000000 * 1000 := Nat.mul_le_mul (by omega) ht2
  have HC : Hid (Calls Tryd.prog 48 #[.slice (some ad) n c, .int .i64 9223372036854775807, .pointer (some ⟨bf, 0, none⟩), .pointer (some ⟨bt, 0, none⟩)] w fun e w' => ∃ v1 v2, e = .returned (.tuple #[v1, v2, .bool true]) ∧ w'.ownsRow w.heap.size 5 1 v1 (putO fr tt l).length (bytesV (putO fr tt l)) ∧ w'.ownsRow w.heap.size 3 1 v2 (putA fr tt l).length (natsV (putA fr tt l)) ∧ Below w.heap.size w w') := Lib.hid ((become_any bf bt vf vt _ fr tt l 9223372036854775807 w hk rd ⟨_, _, _, rfl⟩ hf ht1 hl hf2 ht2 (by omega) hlow).mono (by
    rintro e w' ⟨⟨_, v1, v2, h1, h2, h3⟩ | ⟨h1, _⟩, hb⟩
    · exact ⟨v1, v2, h1, h2, h3, hb⟩
    · omega))
  clear hp hc hm hk rd hlow
  go_enter Tryd.func34, Tryd.ntmps34
  go_wp2_with (go_at_call 48; refine HC.out.mono ?_; rintro e w' ⟨v1, v2, rfl, h1, h2, h3⟩; have H1 := Lib.hid h1; have H2 := Lib.hid h2; have H3 := Lib.hid h3; obtain ⟨a1, c1, rfl⟩ := own_slice h1; obtain ⟨a2, c2, rfl⟩ := own_slice h2; clear h1 h2 h3)
  go_ret3
  exact ⟨⟨_, _, rfl, Rd.of_own H1.out, H2.out⟩, H3.out⟩

/-- What Move answers. -/
def MoveR (fr tt l : Bs) (w : World) (e : Ending) (w' : World) : Prop :=
  ((okB fr = true ∧ okB tt = true ∧ ((∃ o a v, movL fr tt l = some (o, a) ∧ e = .returned (.tuple #[.string ⟨o.toArray⟩, v, .int .i64 0]) ∧ w'.ownsRow w.heap.size 3 1 v a.length (natsV a)) ∨
      (movL fr tt l = none ∧ e = .returned (.tuple #[.string ⟨#[]⟩, .slice none 0 0, .int .i64 3])))) ∨
    (¬ (okB fr = true ∧ okB tt = true) ∧ e = .returned (.tuple #[.string ⟨#[]⟩, .slice none 0 0, .int .i64 240]))) ∧ Below w.heap.size w w'

set_option maxRecDepth 100000 in
set_option maxHeartbeats 4000000 in
theorem move_any (l fr tt : Bs) (hl : l.length ≤ 1000000) (hlf : fr.length ≤ 1000000) (hlt : tt.length ≤ 1000000) (w : World) : Calls Tryd.prog 18 #[.string ⟨l.toArray⟩, .string ⟨fr.toArray⟩, .string ⟨tt.toArray⟩] w (MoveR fr tt l w) := by
  obtain ⟨W0, hW0⟩ : ∃ z, z = w.alloc (.cells #[.int .i64 (chkI fr), .int .i64 (chkI tt)] 30) := ⟨_, rfl⟩
  have hb0 : Below w.heap.size w W0 := by rw [hW0]; exact below_new _ _
  have g0 : W0.cell? ⟨w.heap.size, 0, none⟩ = some (.int .i64 (chkI fr)) := by rw [hW0]; exact (cell_of_row _ _ 0 _ _ _ (heap_alloc_new w (.cells #[.int .i64 (chkI fr), .int .i64 (chkI tt)] 30))).trans rfl
  have g1 : W0.cell? ⟨w.heap.size, 1, none⟩ = some (.int .i64 (chkI tt)) := by rw [hW0]; exact (cell_of_row _ _ 1 _ _ _ (heap_alloc_new w (.cells #[.int .i64 (chkI fr), .int .i64 (chkI tt)] 30))).trans rfl
  have HOR := Lib.hid (or_any w.heap.size 2 (chkI fr) (chkI tt) W0 g0 g1)
  have HB0 := Lib.hid hb0
  have HW0 := Lib.hid hW0
  by_cases hok : okB fr = true ∧ okB tt = true
  · obtain ⟨ok1, ok2⟩ := hok
    have e1 : chkI fr = 0 := by unfold chkI; rw [if_pos ok1]
    have e2 : chkI tt = 0 := by unfold chkI; rw [if_pos ok2]
    have HE1 := Lib.hid e1
    have HE2 := Lib.hid e2
    rw [e1, e2] at HW0
    rw [e1, e2, if_pos rfl] at HOR
    obtain ⟨f1, f2, _⟩ := (okB_iff fr).1 ok1
    obtain ⟨t1, t2, _⟩ := (okB_iff tt).1 ok2
    obtain ⟨c1, w1, hr1, hd1, hb1, hi1⟩ := bytes_of2 fr (by omega) W0
    obtain ⟨c2, w2, hr2, hd2, hb2, hi2⟩ := bytes_of2 tt (by omega) w1
    obtain ⟨w3, hw3⟩ : ∃ z, z = (w2.alloc (.cells #[.slice (some ⟨W0.heap.size, 0, none⟩) fr.length c1] 57)).alloc (.cells #[.slice (some ⟨w1.heap.size, 0, none⟩) tt.length c2] 57) := ⟨_, rfl⟩
    have hb3 : Below w2.heap.size w2 w3 := by rw [hw3]; exact bch (below_new _ _) (below_new _ _)
    have hs3 : w3.heap.size = w2.heap.size + 2 := by rw [hw3]; simp
    have hk3 : FT w2.heap.size (w2.heap.size + 1) (.slice (some ⟨W0.heap.size, 0, none⟩) fr.length c1) (.slice (some ⟨w1.heap.size, 0, none⟩) tt.length c2) fr tt w3 := ⟨by rw [hw3]; exact (Boxed.new _ _ _).alloc _, by
      rw [hw3]
      have := Boxed.new (w2.alloc (.cells #[.slice (some ⟨W0.heap.size, 0, none⟩) fr.length c1] 57)) 57 (.slice (some ⟨w1.heap.size, 0, none⟩) tt.length c2)
      simpa using this, (hd1.on hb2).on hb3, hd2.on hb3⟩
    obtain ⟨c4, w4, hr4, hd4, hb4, hi4⟩ := bytes_of2 l (by omega) w3
    have s0 := hb0.size
    have s1 := hb1.size
    have s2 := hb2.size
    have s4 := hb4.size
    have hlow : ∀ g, inBlk (.slice (some ⟨w3.heap.size, 0, none⟩) l.length c4) g ∨ inBlk (.slice (some ⟨W0.heap.size, 0, none⟩) fr.length c1) g ∨ inBlk (.slice (some ⟨w1.heap.size, 0, none⟩) tt.length c2) g → g < w4.heap.size := by
      rintro g (hg | hg | hg)
      · exact (hi4 g hg).2
      · have := (hi1 g hg).2; omega
      · have := (hi2 g hg).2; omega
    have HB := Lib.hid (bch (bch (bch (bch hb0 hb1) hb2) hb3) hb4)
    have HW3 := Lib.hid hw3
    have HOK := Lib.hid (show okB fr = true ∧ okB tt = true from ⟨ok1, ok2⟩)
    have HBI := Lib.hid (bin_any l w3)
    by_cases hbin : 0 ∈ l
    · have HM := Lib.hid (moveb_any w2.heap.size (w2.heap.size + 1) _ _ _ fr tt l w4 (hk3.on hb4) hd4 hbin f1 (by omega) hl (by omega) (by omega) hlow)
      have HML : Hid (movL fr tt l = movB fr tt l) := Lib.hid (by unfold movL; rw [if_pos hbin])
      have eb : binB l = true := decide_eq_true hbin
      rw [eb] at HBI
      clear hb0 hb1 hb2 hb3 hb4 hd1 hd2 hd4 hi1 hi2 hi4 hk3 hw3 s0 s1 s2 s4 hs3 hlow hbin eb e1 e2 ok1 ok2 g0 g1 hW0 f1 f2 t1 t2
      cases hmv : movB fr tt l with
      | none =>
        have HMV : Hid (movL fr tt l = none) := Lib.hid (by rw [HML.out, hmv])
        have HM2 : Hid (Calls Tryd.prog 35 #[.slice (some ⟨w3.heap.size, 0, none⟩) l.length c4, .func (.func 48) #[] #[.pointer (some ⟨w2.heap.size, 0, none⟩), .pointer (some ⟨w2.heap.size + 1, 0, none⟩)]] w4 fun e w' => ∃ v1 v2, e = .returned (.tuple #[v1, v2, .bool false]) ∧ Below w4.heap.size w4 w') := Lib.hid (HM.out.mono (by
          rintro e w' ⟨⟨o, a, v1, v2, h1, _⟩ | ⟨_, v1, v2, h1⟩, hb⟩
          · rw [hmv] at h1; cases h1
          · exact ⟨v1, v2, h1, hb⟩))
        clear hmv HM HML
        go_enter Tryd.func18, Tryd.ntmps18
        go_wp2_with (first
          | (go_at_call 13; refine (chk_any _ (by omega) _).mono ?_; rintro e w' ⟨rfl, rfl⟩; first | rw [HE1.out] | rw [HE2.out])
          | (go_at_call 32; rw [← HW0.out]; refine HOR.out.mono ?_; rintro e w' ⟨rfl, rfl⟩)
          | (go_at_call 33; refine (bg_any _ _ _ _ _ _ _).mono ?_; rintro e w' ⟨rfl, rfl⟩; rw [← HW3.out])
          | (go_at_call 35; refine HM2.out.mono ?_; rintro e w' ⟨v1, v2, rfl, h3⟩; have H3 := Lib.hid h3; clear h3)
          | (go_at_call 14; refine HBI.out.mono ?_; rintro e w' ⟨rfl, rfl⟩))
        go_ret3
        exact ⟨.inl ⟨HOK.out.1, HOK.out.2, .inr ⟨HMV.out, rfl⟩⟩, bch HB.out H3.out⟩
      | some x =>
        obtain ⟨o, a⟩ := x
        have HMV : Hid (movL fr tt l = some (o, a)) := Lib.hid (by rw [HML.out, hmv])
        have HM2 : Hid (Calls Tryd.prog 35 #[.slice (some ⟨w3.heap.size, 0, none⟩) l.length c4, .func (.func 48) #[] #[.pointer (some ⟨w2.heap.size, 0, none⟩), .pointer (some ⟨w2.heap.size + 1, 0, none⟩)]] w4 fun e w' => ∃ v1 v2, e = .returned (.tuple #[v1, v2, .bool true]) ∧ Rd w' v1 (bytesV o) ∧ w'.ownsRow w4.heap.size 3 1 v2 a.length (natsV a) ∧ Below w4.heap.size w4 w') := Lib.hid (HM.out.mono (by
          rintro e w' ⟨⟨o', a', v1, v2, h1, h2, h3, h4⟩ | ⟨h1, _⟩, hb⟩
          · rw [hmv] at h1; cases h1; exact ⟨v1, v2, h2, h3, h4, hb⟩
          · rw [hmv] at h1; cases h1))
        clear hmv HM HML
        go_enter Tryd.func18, Tryd.ntmps18
        go_wp2_with (first
          | (go_at_call 13; refine (chk_any _ (by omega) _).mono ?_; rintro e w' ⟨rfl, rfl⟩; first | rw [HE1.out] | rw [HE2.out])
          | (go_at_call 32; rw [← HW0.out]; refine HOR.out.mono ?_; rintro e w' ⟨rfl, rfl⟩)
          | (go_at_call 33; refine (bg_any _ _ _ _ _ _ _).mono ?_; rintro e w' ⟨rfl, rfl⟩; rw [← HW3.out])
          | (go_at_call 35; refine HM2.out.mono ?_; rintro e w' ⟨v1, v2, rfl, h1, h2, h3⟩; have hcv := text_of h1; have H2 := Lib.hid h2; have H3 := Lib.hid h3; obtain ⟨a1, c1, rfl, _⟩ := h1.shape; obtain ⟨a2, c2, rfl⟩ := own_slice h2; clear h2 h3)
          | (go_at_call 14; refine HBI.out.mono ?_; rintro e w' ⟨rfl, rfl⟩))
        go_ret3
        exact ⟨.inl ⟨HOK.out.1, HOK.out.2, .inl ⟨_, _, _, HMV.out, rfl, own_mono H2.out HB.out.size⟩⟩, bch HB.out H3.out⟩
    · have HM := Lib.hid (movet_any w2.heap.size (w2.heap.size + 1) _ _ ⟨w3.heap.size, 0, none⟩ l.length c4 fr tt l w4 (hk3.on hb4) hd4 f1 (by omega) hl (by omega) (by omega) hlow)
      have HMV : Hid (movL fr tt l = some (putO fr tt l, putA fr tt l)) := Lib.hid (by unfold movL; rw [if_neg hbin])
      have eb : binB l = false := decide_eq_false hbin
      rw [eb] at HBI
      clear hb0 hb1 hb2 hb3 hb4 hd1 hd2 hd4 hi1 hi2 hi4 hk3 hw3 s0 s1 s2 s4 hs3 hlow hbin eb e1 e2 ok1 ok2 g0 g1 hW0 f1 f2 t1 t2
      have HM2 : Hid (Calls Tryd.prog 34 #[.slice (some ⟨w3.heap.size, 0, none⟩) l.length c4, .func (.func 48) #[] #[.pointer (some ⟨w2.heap.size, 0, none⟩), .pointer (some ⟨w2.heap.size + 1, 0, none⟩)]] w4 fun e w' => ∃ v1 v2, e = .returned (.tuple #[v1, v2, .bool true]) ∧ Rd w' v1 (bytesV (putO fr tt l)) ∧ w'.ownsRow w4.heap.size 3 1 v2 (putA fr tt l).length (natsV (putA fr tt l)) ∧ Below w4.heap.size w4 w') := Lib.hid (HM.out.mono (by
        rintro e w' ⟨⟨v1, v2, h2, h3, h4⟩, hb⟩
        exact ⟨v1, v2, h2, h3, h4, hb⟩))
      clear HM
      go_enter Tryd.func18, Tryd.ntmps18
      go_wp2_with (first
        | (go_at_call 13; refine (chk_any _ (by omega) _).mono ?_; rintro e w' ⟨rfl, rfl⟩; first | rw [HE1.out] | rw [HE2.out])
        | (go_at_call 32; rw [← HW0.out]; refine HOR.out.mono ?_; rintro e w' ⟨rfl, rfl⟩)
        | (go_at_call 33; refine (bg_any _ _ _ _ _ _ _).mono ?_; rintro e w' ⟨rfl, rfl⟩; rw [← HW3.out])
        | (go_at_call 34; refine HM2.out.mono ?_; rintro e w' ⟨v1, v2, rfl, h1, h2, h3⟩; have hcv := text_of h1; have H2 := Lib.hid h2; have H3 := Lib.hid h3; obtain ⟨a1, c1, rfl, _⟩ := h1.shape; obtain ⟨a2, c2, rfl⟩ := own_slice h2; clear h2 h3)
        | (go_at_call 14; refine HBI.out.mono ?_; rintro e w' ⟨rfl, rfl⟩))
      go_ret3
      exact ⟨.inl ⟨HOK.out.1, HOK.out.2, .inl ⟨_, _, _, HMV.out, rfl, own_mono H2.out HB.out.size⟩⟩, bch HB.out H3.out⟩
  · have HNO := Lib.hid hok
    obtain ⟨z, hz⟩ : ∃ z, z = (if chkI fr = 0 then chkI tt else chkI fr) := ⟨_, rfl⟩
    have e9 : z = 240 := by
      rw [hz]
      unfold chkI
      by_cases h1 : okB fr = true
      · have h2 : ¬ okB tt = true := fun h2 => hok ⟨h1, h2⟩
        rw [if_pos h1, if_neg h2]; rfl
      · rw [if_neg h1]; rfl
    rw [← hz, e9] at HOR
    clear hz e9 hok g0 g1 hW0 hb0
    go_enter Tryd.func18, Tryd.ntmps18
    go_wp2_with (first
      | (go_at_call 13; refine (chk_any _ (by omega) _).mono ?_; rintro e w' ⟨rfl, rfl⟩)
      | (go_at_call 32; rw [← HW0.out]; refine HOR.out.mono ?_; rintro e w' ⟨rfl, rfl⟩))
    go_ret3
    exact ⟨.inr ⟨HNO.out, rfl⟩, HB0.out⟩
end Go.Proofs.YtophihnjlodmjaaDoor
