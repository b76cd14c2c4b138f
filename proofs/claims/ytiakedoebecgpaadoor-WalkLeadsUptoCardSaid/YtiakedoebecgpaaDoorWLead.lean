/- Proved here: lead and walked of package walk: what a text leads to from a directory. -/
import Derived.Test.YtiakedoebecgpaaDoorWFollow
namespace Go.Proofs.YtiakedoebecgpaaDoor
open Go.RowKit Go.Shelf

def errW : Except Int (It × Nat) → Int
  | .error z => z
  | .ok _ => 0
def itW : Except Int (It × Nat) → It
  | .error _ => .nil
  | .ok r => r.1
def hopW : Except Int (It × Nat) → Nat
  | .error _ => 0
  | .ok r => r.2
/-- A way is handed back, and an error's number. -/
def WayR (r : Except Int (It × Nat)) (w : World) (e : Ending) (w' : World) : Prop :=
  ∃ fv rv, fv.oneCell' = true ∧ rv.oneCell' = true ∧ e = .returned (.tuple #[.agg (wayA fv (itW r) rv (hopW r)), .int .i64 (errW r)]) ∧ (∀ z, r = .error z → z ≠ 0) ∧ Below w.heap.size w w'
theorem wayZ_is : wayZ = wayA .nilFunc .nil (.slice none 0 0) 0 := rfl
theorem beginM_tree {l : List It} (hok : TreeOk l) (p s : Str) (last : Bool) : leadM l p s last = match beginM l p with
    | .error z => .error z
    | .ok x => goM l last 90000 (if s.head? = some 47 then .root else x) (cutP s) 0 := by
  unfold leadM beginM beginO
  rw [getM_tree hok]
  split
  · rfl
  · cases getI l p with
    | none => rfl
    | some x =>
      simp only
      split <;> rfl
theorem begin_ok {l : List It} (hok : TreeOk l) {p : Str} {x : It} (h : beginM l p = .ok x) : getI l p = some x ∧ x.kind = 1 := by
  unfold beginM beginO at h
  rw [getM_tree hok] at h
  split at h
  · cases h
  · cases e : getI l p with
    | none => rw [e] at h; cases h
    | some y =>
      rw [e] at h
      simp only at h
      split at h
      · cases h
      · rename_i hk
        cases h
        exact ⟨rfl, by simpa using hk⟩
theorem begin_err {l : List It} {p : Str} {z : Int} (h : beginM l p = .error z) : z ≠ 0 := by
  unfold beginM beginO at h
  split at h
  · cases h; decide
  · split at h
    · cases h; decide
    · split at h
      · cases h; decide
      · cases h

set_option maxRecDepth 100000 in
set_option maxHeartbeats 8000000 in
theorem lead_any (g b : Nat) (l : List It) (hok : TreeOk l) (p s : ByteArray) (last : Bool) (w : World) (hF : Finds w g b l) (hT : Tabs w) (hp : p.size ≤ 140737488355328) (hs : s.size ≤ 2000) :
    Calls Tryd.prog 54 #[fnd g, .string p, .string s, .bool last] w (WayR (leadM l p.data.toList s.data.toList last) w) := by
  obtain ⟨w1, hw1⟩ : ∃ z, z = w.alloc (.cells #[.nilFunc, .string ⟨#[]⟩, .int .i64 0, .string ⟨#[]⟩, .slice none 0 0, .int .i64 0] 88) := ⟨_, rfl⟩
  have X1 : Hid (Box w1 w.heap.size 88 wayZ) := Lib.hid (by rw [hw1]; exact box_new)
  have HB1 : Hid (Below w.heap.size w w1) := Lib.hid (by rw [hw1]; exact below_new _ _)
  have HF := Lib.hid hF
  have HT := Lib.hid hT
  have HLM := Lib.hid (beginM_tree hok p.data.toList s.data.toList last)
  obtain ⟨rb, hrb⟩ : ∃ z, z = beginM l p.data.toList := ⟨_, rfl⟩
  have HC : Hid (Calls Tryd.prog 83 #[fnd g, .string p] w1 (BeginR g rb w1)) := Lib.hid (by rw [hrb]; exact begin_any g b l p w1 (hF.on HB1.out) hp)
  have HRB := Lib.hid hrb
  obtain ⟨b8, hb8⟩ : ∃ z, z = w.heap.size := ⟨_, rfl⟩
  rw [← hb8] at X1
  have HB8 := Lib.hid hb8
  clear hF hT hrb
  go_enter Tryd.func54, Tryd.ntmps54
  go_upto_region 1 with fail
  rw [← hw1, ← hb8]
  clear hw1 hb8
  go_wp2_with fail
  refine HC.out.mono ?_
  rintro e w2 ⟨hb2, hm⟩
  have X2 := Lib.hid (X1.out.on hb2)
  have HB2 := Lib.hid (bch HB1.out hb2)
  clear hb2 X1 HC
  have X2a := Lib.hid (X2.out.alloc (.cells wayZ 88))
  cases rb with
  | error z =>
    obtain rfl := hm
    have hz := begin_err HRB.out.symm
    have HZ := Lib.hid hz
    have t1 : (z == 0) = false := by simp [hz]
    have t2 : (z != 0) = true := by simp [hz]
    have HE : Hid (leadM l p.data.toList s.data.toList last = .error z) := Lib.hid (by rw [HLM.out, ← HRB.out])
    clear hz
    have hne : b8 ≠ w2.heap.size := Nat.ne_of_lt X2.out.lt
    have X3 : Hid (Box ((w2.alloc (.cells wayZ 88)).setRow w2.heap.size wayZ) b8 88 wayZ) := Lib.hid (X2a.out.far_row hne wayZ)
    have HB3 : Hid (Below w.heap.size w ((w2.alloc (.cells wayZ 88)).setRow w2.heap.size wayZ)) := Lib.hid (below_row (bch HB2.out (below_new _ _)) HB2.out.size _)
    unfold wayZ at X3 HB3
    unfold wayZ
    clear X2a X2 HB2 hne
    go_wp2_with (first
      | (with_reducible refine wpList_zero rfl 88 rfl wayZ zero88 ?_)
      | (refine wpList_store_row rfl 88 (.tmp 10) (.tmp 16) rfl w2.heap.size wayZ rfl rfl 88 wayZ box_new (info88 _ rfl) rfl wayZ_one ?_)
      | (refine wpList_store_row rfl 88 (.tmp 8) (.tmp 20) rfl b8 wayZ rfl rfl 88 _ X3.out (info88 _ rfl) rfl wayZ_one ?_))
    exact bodyPost_ret (end_way rfl _ (X3.out.row _) rfl rfl rfl) rfl ⟨.nilFunc, .slice none 0 0, rfl, rfl, by rw [HE.out]; rfl, fun z' hz' => by rw [HE.out] at hz'; cases hz'; exact HZ.out, below_row HB3.out (by rw [HB8.out]; exact Nat.le_refl _) _⟩
  | ok x =>
    obtain rfl := hm
    have hx := begin_ok hok HRB.out.symm
    obtain ⟨R, hR⟩ : ∃ R, R = goM l last 90000 (if s.data.toList.head? = some 47 then .root else x) (cutP s.data.toList ++ []) 0 := ⟨_, rfl⟩
    have HE : Hid (leadM l p.data.toList s.data.toList last = R) := Lib.hid (by rw [HLM.out, ← HRB.out, hR, List.append_nil])
    have hlen : s.data.toList.length ≤ 2000 := by rw [Array.length_toList]; exact hs
    have hPK : Hid (PK l last R (if s.data.toList.head? = some 47 then .root else x) (cutP s.data.toList ++ []) 0) := Lib.hid ⟨begin_stand hx.1 hx.2 last _ _, fun q hq => by rw [List.append_nil] at hq; exact Nat.le_trans (part_short _ q hq) hlen, 90000, Nat.le_refl _, by have := cut_len s.data.toList; rw [List.append_nil]; unfold mM; omega, hR.symm⟩
    obtain ⟨b10, hb10⟩ : ∃ z, z = w2.heap.size := ⟨_, rfl⟩
    obtain ⟨w3, hw3⟩ : ∃ q, q = (w2.alloc (.cells wayZ 88)).setRow b10 (wayA (fnd g) x (.slice none 0 0) 0) := ⟨_, rfl⟩
    have hne : b8 ≠ b10 := by rw [hb10]; exact Nat.ne_of_lt X2.out.lt
    have X10 : Hid (Box (w2.alloc (.cells wayZ 88)) b10 88 wayZ) := Lib.hid (by rw [hb10]; exact box_new)
    have X3 : Hid (Box w3 b8 88 wayZ) := Lib.hid (by rw [hw3]; exact X2a.out.far_row hne _)
    have HN : Hid (b8 ≠ b10) := Lib.hid hne
    have HB3 : Hid (Below w.heap.size w w3) := Lib.hid (by rw [hw3]; exact below_row (bch HB2.out (below_new _ _)) (by rw [hb10]; exact HB2.out.size) _)
    have HW3 : Hid (WayW w3 b10 (fnd g) x [] 0) := Lib.hid ⟨_, by rw [hw3]; exact X10.out.row _, RdT.nil _ _⟩
    have HT3 := Lib.hid (HT.out.on HB3.out)
    have HF3 := Lib.hid (HF.out.on HB3.out)
    have H10 : Hid (w.heap.size ≤ b10) := Lib.hid (by rw [hb10]; exact HB2.out.size)
    have HSZ : Hid (w.heap.size ≤ w3.heap.size) := Lib.hid HB3.out.size
    have H6 : Hid (6 ≤ b10) := Lib.hid (Nat.le_trans HT.out.one H10.out)
    have HG0 : Hid (g ≠ b10 ∧ b ≠ b10) := Lib.hid ⟨Nat.ne_of_lt (Nat.lt_of_lt_of_le HF.out.lt.1 H10.out), Nat.ne_of_lt (Nat.lt_of_lt_of_le HF.out.lt.2 H10.out)⟩
    have HS := Lib.hid hs
    have HR := Lib.hid hR
    have HW : Hid (w3 = (w2.alloc (.cells wayZ 88)).setRow w2.heap.size (wayA (fnd g) x (.slice none 0 0) 0)) := Lib.hid (by rw [hw3, hb10])
    have HB10 := Lib.hid hb10
    clear hx hlen hs hR hne X2 X2a HB2 hw3 hb10
    unfold wayZ at X10 HW
    unfold wayA fnd
    go_wp2_with (first
      | (refine wpList_store_row rfl 88 (.tmp 10) (.tmp 16) rfl w2.heap.size (wayA (fnd g) x (.slice none 0 0) 0) rfl rfl 88 wayZ box_new (info88 _ rfl) rfl (way_one _ rfl _ _ rfl _) ?_; rw [← HW.out, ← HB10.out])
      | fail)
    refine (ahead_gen b10 (fnd g) x [] 0 s w3 w3 (World.grownBy.refl _ _) HW3.out.lt HW3.out HT3.out HS.out (Nat.zero_le _) H6.out).mono ?_
    rintro e w4 ⟨rfl, hW4, hg4⟩
    have hB4 : Below w.heap.size w w4 := HB3.out.grown hg4 HSZ.out (fun k e => by cases e; exact H10.out)
    have X4 : Hid (Box w4 b8 88 wayZ) := Lib.hid (X3.out.kept hg4 (by intro e; injection e with e; exact HN.out e))
    have HCF : Hid (Calls Tryd.prog 85 #[.pointer (some ⟨b10, 0, none⟩), .bool last] w4 (FollowR b10 g R w4)) := Lib.hid (wfollow_any hok _ _ 0 hPK.out w4 (HF.out.on hB4) hW4 (HT.out.on hB4) H6.out HG0.out.1 HG0.out.2)
    have HB4 := Lib.hid hB4
    clear hW4 hg4 hB4 X3 HB3 HW3 HT3 HF3
    go_wp2_with fail
    refine HCF.out.mono ?_
    rintro e w5 ⟨hg5, hm5⟩
    have X5 : Hid (Box w5 b8 88 wayZ) := Lib.hid (X4.out.kept hg5 (by intro e; injection e with e; exact HN.out e))
    have HB5 : Hid (Below w.heap.size w w5) := Lib.hid (HB4.out.grown hg5 HB4.out.size (fun k e => by cases e; exact H10.out))
    clear hg5 HCF X4
    cases R with
    | error z =>
      obtain ⟨rfl, hz⟩ := hm5
      have t1 : (z == 0) = false := by simp [hz]
      have t2 : (z != 0) = true := by simp [hz]
      have HZ := Lib.hid hz
      clear hz
      go_wp2_with (first
        | (with_reducible refine wpList_zero rfl 88 rfl wayZ zero88 ?_)
        | (refine wpList_store_row rfl 88 (.tmp 8) (.tmp 28) rfl b8 wayZ rfl rfl 88 _ X5.out (info88 _ rfl) rfl wayZ_one ?_))
      exact bodyPost_ret (end_way rfl _ (X5.out.row _) rfl rfl rfl) rfl ⟨.nilFunc, .slice none 0 0, rfl, rfl, by rw [HE.out]; rfl, fun z' hz' => by rw [HE.out] at hz'; cases hz'; exact HZ.out, below_row HB5.out (by rw [HB8.out]; exact Nat.le_refl _) _⟩
    | ok r =>
      obtain ⟨rfl, rv, X10', hR5⟩ := hm5
      have ho := hR5.one
      have hcs := way_one (fnd g) rfl r.1 rv ho r.2
      have HO := Lib.hid ho
      have HCS := Lib.hid hcs
      have X11 := Lib.hid X10'
      clear hR5 ho hcs X10'
      go_wp2_with (first
        | (refine wpList_load_row rfl 88 (.tmp 10) rfl b10 rfl 88 (wayA (fnd g) r.1 rv r.2) (0,0) _ X11.out Tryd.underlying88 rfl (info88 _ rfl) ?_)
        | (refine wpList_store_row rfl 88 (.tmp 8) (.tmp 30) rfl b8 (wayA (fnd g) r.1 rv r.2) rfl rfl 88 _ X5.out (info88 _ rfl) rfl HCS.out ?_))
      exact bodyPost_ret (end_way rfl _ (X5.out.row _) rfl rfl rfl) rfl ⟨fnd g, rv, rfl, HO.out, by rw [HE.out]; rfl, fun z' hz' => (by rw [HE.out] at hz'; cases hz'), below_row HB5.out (by rw [HB8.out]; exact Nat.le_refl _) _⟩
end Go.Proofs.YtiakedoebecgpaaDoor
