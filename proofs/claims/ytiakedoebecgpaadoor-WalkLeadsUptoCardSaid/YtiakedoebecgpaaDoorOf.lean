/- Proved here: Of of package path for every row of names. -/
import Derived.Test.YtiakedoebecgpaaDoorClean
namespace Go.Proofs.YtiakedoebecgpaaDoor
open Go.RowKit Go.Shelf

def ofRes (l : List Str) : Str × Int := if partsB l = true then (joinL l, 0) else ([], 110)
def OfPost (l : List Str) (w : World) (e : Ending) (w' : World) : Prop := e = .returned (.tuple #[.string ⟨(ofRes l).1.toArray⟩, .int .i64 (ofRes l).2]) ∧ Below w.heap.size w w'

theorem of_yes {l : List Str} {w w' : World} {e : Ending} (h : partsB l = true) (he : e = .returned (.tuple #[.string ⟨(joinL l).toArray⟩, .int .i64 0])) (hb : Below w.heap.size w w') : OfPost l w e w' := by
  unfold OfPost ofRes; rw [if_pos h]; exact ⟨he, hb⟩
theorem of_no {l : List Str} {w w' : World} {e : Ending} (h : partsB l = false) (he : e = .returned (.tuple #[.string ⟨#[]⟩, .int .i64 110])) (hb : Below w.heap.size w w') : OfPost l w e w' := by
  unfold OfPost ofRes; rw [if_neg (by simp [h])]; exact ⟨he, hb⟩

theorem take_get (l : List Str) (k : Nat) (x : Str) (h : l[k]? = some x) : l.take (k + 1) = l.take k ++ [x] := by
  rw [List.take_add_one, h]; rfl
theorem parts_take_no (l : List Str) (k : Nat) (x : Str) (h : l[k]? = some x) (hb : (l.take k).length = 40 ∨ nameB x = false) : partsB l = false := by
  rcases hb with hb | hb
  · refine partsB_snoc_long (l.take (k + 1)) l ?_ (List.take_prefix _ _)
    rw [take_get l k x h]; simp only [List.length_append, hb]; simp
  · exact partsB_bad l l x hb (List.mem_of_getElem? h) (List.prefix_refl _)

theorem own_cell {w : World} {B g n cap : Nat} {xs : List Value} (h : w.ownsRow B 9 1 (.slice (some ⟨g, 0, none⟩) n cap) n xs) (j : Nat) (u : Value) (hj : xs[j]? = some u) : w.cell? ⟨g, j, none⟩ = some u := by
  have hl := h.1
  have hlt : j < xs.length := (List.getElem?_eq_some_iff.1 hj).1
  rw [h.cellAt j (by omega), hj]

set_option maxRecDepth 100000 in
set_option maxHeartbeats 2000000 in
theorem of_some (l : List Str) (b0 g cap : Nat) (w : World) (hown : w.ownsRow b0 9 1 (.slice (some ⟨g, 0, none⟩) l.length cap) l.length (l.map encS)) (hn : l.length ≤ 1000000) :
    Calls Tryd.prog 120 #[.slice (some ⟨g, 0, none⟩) l.length cap] w (OfPost l w) := by
  have hglt := (hown.lt g rfl).2
  have HCells := Lib.hid (fun (j : Nat) (x : Str) (hj : l[j]? = some x) => own_cell hown j (encS x) (by rw [List.getElem?_map, hj]; rfl))
  have hn1 : (l.length : Int) ≤ 1000000 := by omega
  clear hown
  go_enter Tryd.func120, Tryd.ntmps120
  go_wp2
  have HW0 : Hid (Way (w.alloc (.cells #[.slice none 0 0] 102)) w.heap.size w.heap.size []) := ⟨_, Boxed.new _ _ _, World.ownsRow_nil _ _ _ _⟩
  go_loopw [9] (fun i wr => ∃ k : Nat, k ≤ l.length ∧ i = .int .i64 k ∧ Hid (Way wr w.heap.size w.heap.size (l.take k)) ∧ Hid (partsB (l.take k) = true) ∧ Below w.heap.size w wr ∧ w.heap.size < wr.heap.size) (fun i _ => l.length - (intOf i).toNat)
  case atStart => exact ⟨0, Nat.zero_le _, rfl, HW0, rfl, (Below.refl _ _).alloc (Nat.le_refl _) _, by simp⟩
  case round =>
    obtain ⟨k, hk, rfl, HW, HP, hb, hsz⟩ := hrel
    by_cases hlt : k < l.length
    · obtain ⟨x, hx⟩ : ∃ x, l[k]? = some x := ⟨_, List.getElem?_eq_getElem hlt⟩
      have hcell : wr.cell? ⟨g, k, none⟩ = some (.string ⟨x.toArray⟩) := (hb.cell (p := ⟨g, k, none⟩) hglt).trans (HCells.out k x hx)
      have HX := Lib.hid hx
      clear hx
      by_cases h40 : (l.take k).length = 40
      · have HC := Lib.hid (add_full w.heap.size w.heap.size (l.take k) x wr HW.out h40)
        have HN := Lib.hid (parts_take_no l k x HX.out (.inl h40))
        clear h40
        go_wp2_with (go_at_call 58; refine HC.out.mono ?_; rintro e w1 ⟨rfl, hb1⟩)
        go_ret2
        exact of_no HN.out rfl (hb.trans (hb1.mono hb.size))
      · have hle : (l.take k).length ≤ 40 := ((parts_iff _).1 HP.out).1
        by_cases hn : nameB x = true
        · have HC := Lib.hid (add_good w.heap.size w.heap.size (l.take k) x wr HW.out (Nat.le_refl _) (by omega) (by omega) hn)
          have HN := Lib.hid (parts_snoc (l.take k) x HP.out h40 hn)
          clear h40 hn hle
          go_wp2_with (go_at_call 58; refine HC.out.mono ?_; rintro e w1 ⟨rfl, hw1, hst⟩; have HW1 := Lib.hid hw1; clear hw1)
          go_roundw
          case rel => exact ⟨k + 1, hlt, by go_num, by rw [take_get l k x HX.out]; exact HW1, by rw [take_get l k x HX.out]; exact HN, hb.trans hst.below, Nat.lt_of_lt_of_le hsz hst.below.size⟩
          case measure => simp [intOf]; omega
        · have HC := Lib.hid (add_bad w.heap.size w.heap.size (l.take k) x wr HW.out (by omega) (Bool.eq_false_iff.2 hn))
          have HN := Lib.hid (parts_take_no l k x HX.out (.inr (Bool.eq_false_iff.2 hn)))
          clear h40 hn hle
          go_wp2_with (go_at_call 58; refine HC.out.mono ?_; rintro e w1 ⟨rfl, hb1⟩)
          go_ret2
          exact of_no HN.out rfl (hb.trans (hb1.mono hb.size))
    · have hke : l.take k = l := List.take_of_length_le (by omega)
      have HP1 : Hid (partsB l = true) := by have := HP.out; rw [hke] at this; exact this
      have hw1 := HW.out
      rw [hke] at hw1
      obtain ⟨v', hv', hr'⟩ := hw1
      have hc := hv'.cell
      have HR := Lib.hid hr'
      obtain ⟨a1, cap1, rfl⟩ := own_len hr'
      have HL := Lib.hid (join_len l HP1.out)
      clear hke hr' hv'
      go_wp2_with (go_at_call 60; refine (join_any l w.heap.size _ _ HR.out (by omega) (Nat.le_trans HL.out (by omega))).mono ?_; rintro e w3 ⟨rfl, hb3⟩)
      go_ret2
      exact of_yes HP1.out rfl (hb.trans (hb3.mono hb.size))

set_option maxHeartbeats 1000000 in
theorem of_none (a : Option Addr) (cap : Nat) (w : World) : Calls Tryd.prog 120 #[.slice a 0 cap] w (OfPost [] w) := by
  go_enter Tryd.func120, Tryd.ntmps120
  go_wp2
  have HW0 : Hid (Way (w.alloc (.cells #[.slice none 0 0] 102)) w.heap.size w.heap.size []) := ⟨_, Boxed.new _ _ _, World.ownsRow_nil _ _ _ _⟩
  go_loopw [9] (fun i wr => i = .int .i64 0 ∧ wr = w.alloc (.cells #[.slice none 0 0] 102)) (fun _ _ => 0)
  case atStart => exact ⟨rfl, rfl⟩
  case round =>
    obtain ⟨rfl, rfl⟩ := hrel
    have HR := Lib.hid (World.ownsRow_nil (w.alloc (.cells #[.slice none 0 0] 102)) w.heap.size 9 1)
    go_wp2_with (go_at_call 60; refine (join_any [] w.heap.size _ _ HR.out (by simp) (by simp [Lib.join_nil])).mono ?_; rintro e w3 ⟨rfl, hb3⟩)
    go_ret2
    exact of_yes rfl rfl (((Below.refl _ _).alloc (Nat.le_refl _) _).trans (hb3.mono (by simp)))

theorem of_any (l : List Str) (b0 : Nat) (v : Value) (w : World) (hown : w.ownsRow b0 9 1 v l.length (l.map encS)) (hn : l.length ≤ 1000000) : Calls Tryd.prog 120 #[v] w (OfPost l w) := by
  rcases hown.2 with ⟨rfl, h0⟩ | ⟨g, cap, cur, rfl, _⟩
  · have : l = [] := List.eq_nil_of_length_eq_zero h0
    subst this
    exact of_none none 0 w
  · exact of_some l b0 g cap w hown hn
end Go.Proofs.YtiakedoebecgpaaDoor
