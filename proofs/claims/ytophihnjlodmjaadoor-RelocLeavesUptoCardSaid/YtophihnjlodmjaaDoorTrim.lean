/- Proved here: bytes.TrimLeft of noughts; bytes.Index and bytes.Contains of one. -/
import Derived.Test.YtophihnjlodmjaaDoorBecome
import Derived.BigGuardPartIn
namespace Go.Proofs.YtophihnjlodmjaaDoor
open Go.RowKit Go.Shelf

/-- A slice of bytes that is not nil, or has none. -/
def NN (v : Value) (l : Bs) : Prop := l ≠ [] → ∃ ad n c, v = .slice (some ad) n c
theorem Rd.nn {w : World} {v : Value} {l : Bs} (h : Rd w v (bytesV l)) : NN v l := fun hne => by
  obtain ⟨a, c, rfl, _, _, h4⟩ := h.shape
  obtain ⟨g, o, rfl⟩ := h4 (List.length_pos_iff.2 hne)
  exact ⟨_, _, _, rfl⟩
/-- Bytes that begin so. -/
theorem Rd.rest {w : World} {a : Option Addr} {n c : Nat} {l : Bs} (h : Rd w (.slice a n c) (bytesV l)) (k : Nat) (hk : k ≤ l.length) : Rd w (.slice (if c = k then a else a.map (·.add k)) (n - k) (c - k)) (bytesV (l.drop k)) := by
  obtain ⟨a', c', e, h1, h2, h3⟩ := h.shape
  cases e
  have := h.part k l.length c hk (Nat.le_refl _) h1 (Nat.le_refl _)
  rw [List.take_of_length_le (by rw [List.length_drop, bytesV_len]; omega), ← bytesV_drop] at this
  exact this

def TrimR (v : Value) (l : Bs) (w : World) (e : Ending) (w' : World) : Prop := ∃ v', e = .returned v' ∧ Rd w v' (bytesV (l.dropWhile zz)) ∧ (∀ g, inBlk v' g → inBlk v g) ∧ w = w'

set_option maxRecDepth 100000 in
set_option maxHeartbeats 2000000 in
theorem trimb_any (v : Value) (l : Bs) (w : World) (h : Rd w v (bytesV l)) : Calls Tryd.prog 82 #[v, .int .u8 0] w (TrimR v l w) := by
  have HV := Lib.hid (show ∃ (m : Bs), Rd w v (bytesV m) ∧ l.dropWhile zz = m.dropWhile zz ∧ (∀ g, inBlk v g → inBlk v g) from ⟨l, h, rfl, fun _ h => h⟩)
  obtain ⟨a, c, rfl, _, _, _⟩ := h.shape
  clear h
  go_enter Tryd.func82, Tryd.ntmps82
  go_wp2
  go_loop [0] (fun s => ∃ (m : Bs), Hid (Rd w s (bytesV m)) ∧ Hid (l.dropWhile zz = m.dropWhile zz) ∧ Hid (∀ g, inBlk s g → inBlk (.slice a l.length c) g)) (fun s => match s with | .slice _ n _ => n | _ => 0)
  case atStart =>
    obtain ⟨m, h1, h2, h3⟩ := HV.out
    exact ⟨m, Lib.hid h1, Lib.hid h2, Lib.hid h3⟩
  case round =>
    obtain ⟨m, HR, HE, HI⟩ := hrel
    obtain ⟨a1, c1, rfl, hc1, hc2, hc3⟩ := HR.out.shape
    cases m with
    | nil =>
      have hE := HE.out
      have HZ : Hid (Rd w (.slice none 0 0) (bytesV (l.dropWhile zz))) := Lib.hid (by rw [hE]; exact Rd.nil w)
      clear hE hc3
      go_wp2
      go_ret
      exact ⟨_, rfl, HZ.out, (fun g hg => by obtain ⟨o, p, n, c, e⟩ := hg; cases e), rfl⟩
    | cons x t =>
      obtain ⟨g, o, e1, r1⟩ := HR.out.byte (j := 0) (by simp)
      subst e1
      have hp1 : 1 ≤ (x :: t).length := by simp
      obtain ⟨n, hn⟩ : ∃ n, n = (x :: t).length := ⟨_, rfl⟩
      rw [← hn] at HR HI hc1 hp1
      rw [← hn]
      have n0 : decide ((n : Int) > 0) = true := decide_eq_true (by omega)
      have n1 : (0 : Int) < (n : Int) := by omega
      have n2 : 0 < n := by omega
      have n3 : ((n : Int) == 0) = false := by rw [beq_eq_false_iff_ne]; omega
      rw [show (x :: t)[0] = x from rfl, b8_eq, Nat.add_zero] at r1
      by_cases hx : x = 0
      · have HT : Hid (l.dropWhile zz = t.dropWhile zz) := Lib.hid (by rw [HE.out, List.dropWhile_cons_of_pos (by simp [zz, hx])])
        have t1 : ((x.toNat : Int) == 0) = true := by rw [hx]; rfl
        have HRT := Lib.hid (by have := HR.out; rw [hn] at this; exact this.rest 1 (by simp))
        have HIT : Hid (∀ g', inBlk (.slice (if c1 = 1 then some (⟨g, o, none⟩ : Addr) else (some (⟨g, o, none⟩ : Addr)).map (·.add 1)) (n - 1) (c1 - 1)) g' → inBlk (.slice a l.length c) g') := Lib.hid (fun g' hg => HI.out g' (part_blk hg))
        rw [← hn] at HRT
        have c2 : (1 : Int) ≤ (c1 : Int) := by omega
        clear hx hn hc3
        by_cases h1 : c1 = 1
        · rw [if_pos h1] at HRT HIT
          subst h1
          obtain rfl : n = 1 := by omega
          go_wp2
          go_round
          case rel => exact ⟨t, HRT, HT, HIT⟩
          case measure => exact Nat.zero_lt_one
        · rw [if_neg h1] at HRT HIT
          go_wp2
          go_round
          case rel => exact ⟨t, HRT, HT, HIT⟩
          case measure => show n - 1 < n; omega
      · have HT : Hid (l.dropWhile zz = x :: t) := Lib.hid (by rw [HE.out, List.dropWhile_cons_of_neg (by simpa [zz] using hx)])
        have t1 : ((x.toNat : Int) == 0) = false := by
          rw [beq_eq_false_iff_ne]
          intro e
          exact hx (UInt8.toNat_inj.1 (by simp; omega))
        have HZ : Hid (Rd w (.slice (some ⟨g, o, none⟩) n c1) (bytesV (l.dropWhile zz))) := Lib.hid (by rw [HT.out]; exact HR.out)
        clear hx hn hc3
        go_wp2
        go_ret
        exact ⟨_, rfl, HZ.out, HI.out, rfl⟩

set_option maxRecDepth 100000 in
set_option maxHeartbeats 2000000 in
theorem trim_any (v : Value) (l : Bs) (w : World) (h : Rd w v (bytesV l)) : Calls Tryd.prog 63 #[v, .string ⟨#[0]⟩] w (TrimR v l w) := by
  have HT := Lib.hid (trimb_any v l w h)
  obtain ⟨a, c, rfl, hc1, hc2, hc3⟩ := h.shape
  by_cases h0 : l = []
  · subst h0
    clear h hc3
    go_enter Tryd.func63, Tryd.ntmps63
    go_wp2
    go_ret
    exact ⟨_, rfl, Rd.nil w, (fun g hg => by obtain ⟨o, p, n, c, e⟩ := hg; cases e), rfl⟩
  · have hp : 0 < l.length := List.length_pos_iff.2 h0
    have n3 : ((l.length : Int) == 0) = false := by rw [beq_eq_false_iff_ne]; omega
    clear h hc3
    go_enter Tryd.func63, Tryd.ntmps63
    go_wp2_with (go_at_call 82; refine HT.out.mono ?_; rintro e w' ⟨v', rfl, h1, h2, rfl⟩; have H1 := Lib.hid h1; have H2 := Lib.hid h2; clear h1 h2)
    go_ret
    exact ⟨_, rfl, H1.out, H2.out, rfl⟩

theorem cells_of {w : World} {ad : Addr} {n c : Nat} {l : Bs} (h : Rd w (.slice (some ad) n c) (bytesV l)) : (l.map fun x : UInt8 => (x.toNat : Int)).length = n ∧ (∀ i, i < n → w.cell? (ad.add i) = some (.int .u8 ((l.map fun x : UInt8 => (x.toNat : Int)).getD i 0))) ∧ Lib.bytesOf (l.map fun x : UInt8 => (x.toNat : Int)) = l := by
  obtain ⟨a', c', e, hc1, hc2, hc3⟩ := h.shape
  cases e
  refine ⟨by simp, fun i hi => ?_, ?_⟩
  · obtain ⟨g, o, e, hc⟩ := h.byte hi
    cases e
    rw [addr_add, hc, List.getD_eq_getElem?_getD, List.getElem?_map, List.getElem?_eq_getElem hi]
    rfl
  · unfold Lib.bytesOf
    rw [List.map_map]
    have e : ((fun n : Int => UInt8.ofNat n.toNat) ∘ fun x : UInt8 => (x.toNat : Int)) = id := by
      funext x
      simp
    rw [e, List.map_id]
/-- bytes.Index of one nought: where the first one stands. -/
theorem index_any (ad : Addr) (n c : Nat) (l : Bs) (g : Nat) (d : Nat) (w : World) (h : Rd w (.slice (some ad) n c) (bytesV l)) (hs : w.cell? ⟨g, 0, none⟩ = some (.int .u8 0)) :
    Calls Tryd.prog 62 #[.slice (some ad) n c, .slice (some ⟨g, 0, none⟩) 1 d] w fun e w' => e = .returned (.int .i64 (Lib.indexByte l 0)) ∧ w = w' := by
  obtain ⟨h1, h2, h3⟩ := cells_of h
  refine (Tryd.bytes_Index_one_at ad n c g 0 d _ 0 w h1 h2 hs).mono ?_
  rintro e w' ⟨rfl, rfl⟩
  rw [h3]
  exact ⟨rfl, rfl⟩
theorem contains_any (ad : Addr) (n c : Nat) (l : Bs) (g : Nat) (d : Nat) (w : World) (h : Rd w (.slice (some ad) n c) (bytesV l)) (hs : w.cell? ⟨g, 0, none⟩ = some (.int .u8 0)) :
    Calls Tryd.prog 50 #[.slice (some ad) n c, .slice (some ⟨g, 0, none⟩) 1 d] w fun e w' => e = .returned (.bool (binB l)) ∧ w = w' := by
  obtain ⟨h1, h2, h3⟩ := cells_of h
  refine (Tryd.bytes_Contains_one_at ad n c g 0 d _ 0 w h1 h2 hs).mono ?_
  rintro e w' ⟨rfl, rfl⟩
  refine ⟨?_, rfl⟩
  rw [h3]
  congr 2
  show (!(Lib.indexByte l 0 == -1)) = binB l
  unfold binB
  by_cases h0 : 0 ∈ l
  · rw [index_some 0 l h0, decide_eq_true h0]
    have : ((((l.takeWhile (· != 0)).length : Int)) == -1) = false := by rw [beq_eq_false_iff_ne]; omega
    rw [this]; rfl
  · rw [index_none 0 l h0, decide_eq_false h0]; rfl
end Go.Proofs.YtophihnjlodmjaaDoor
