/- Proved here: walked, Resolve and Hops of package walk. -/
import Derived.Test.YtiakedoebecgpaaDoorWLead
namespace Go.Proofs.YtiakedoebecgpaaDoor
open Go.RowKit Go.Shelf

theorem walkM_no {l : List It} {p s : Str} {last : Bool} {z : Int} (h : walkM l p s last = .error z) (hz : ∀ z, leadM l p s last = .error z → z ≠ 0) : z ≠ 0 := by
  unfold walkM at h
  split at h
  · cases h; decide
  · split at h
    · cases h; decide
    · exact hz z h

set_option maxRecDepth 100000 in
set_option maxHeartbeats 4000000 in
theorem walked_any (l : List It) (v : Value) (p s : ByteArray) (last : Bool) (w : World) (hv : RdI w v l) (hl : l.length ≤ 1000000) (hsz : ∀ x ∈ l, x.path.length ≤ 140737488355328) (hT : Tabs w) (hp : p.size ≤ 140737488355328) :
    Calls Tryd.prog 46 #[.agg #[v], .string p, .string s, .bool last] w (WayR (walkM l p.data.toList s.data.toList last) w) := by
  obtain ⟨w1, hw1⟩ : ∃ z, z = (w.alloc (.cells #[v] 24)).alloc (.cells #[.nilFunc, .string ⟨#[]⟩, .int .i64 0, .string ⟨#[]⟩, .slice none 0 0, .int .i64 0] 88) := ⟨_, rfl⟩
  have X : Box w1 w.heap.size 24 #[v] := by rw [hw1]; exact box_new.alloc _
  have X1 : Hid (Box w1 (w.heap.size + 1) 88 wayZ) := Lib.hid (by rw [hw1, show w.heap.size + 1 = (w.alloc (.cells #[v] 24)).heap.size from by simp]; exact box_new)
  have HB1 : Hid (Below w.heap.size w w1) := Lib.hid (by rw [hw1]; exact bch (below_new _ _) (below_new _ _))
  have hlen : s.data.toList.length = s.size := by rw [Array.length_toList]; rfl
  obtain ⟨b, hb⟩ : ∃ b, b = validT l := ⟨_, rfl⟩
  have HC := Lib.hid (wcheck_any l b hb v s w1 (hv.on HB1.out) hsz (hT.on HB1.out))
  have HV := Lib.hid (hv.on HB1.out)
  have HT := Lib.hid (hT.on HB1.out)
  have HSZ := Lib.hid hsz
  have HBT := Lib.hid hb
  have HWM : Hid (walkM l p.data.toList s.data.toList last = if b = false then .error 160 else if 2000 < s.size then .error 3 else leadM l p.data.toList s.data.toList last) := Lib.hid (by unfold walkM; rw [← hb, hlen])
  obtain ⟨b8, hb8⟩ : ∃ z, z = w.heap.size + 1 := ⟨_, rfl⟩
  rw [← hb8] at X1
  have HB8 := Lib.hid hb8
  have HLT : Hid (w.heap.size < w1.heap.size) := Lib.hid X.lt
  have c0 := X.cell (k := 0) rfl
  have HCS : Hid ((errC b s.size = 0 ∧ TreeOk l ∧ s.size ≤ 2000 ∧ walkM l p.data.toList s.data.toList last = leadM l p.data.toList s.data.toList last) ∨ (errC b s.size ≠ 0 ∧ walkM l p.data.toList s.data.toList last = .error (errC b s.size))) := Lib.hid (by
    rw [HWM.out]
    unfold errC
    cases b with
    | false => exact .inr ⟨by simp, by simp⟩
    | true =>
      by_cases h2 : 2000 < s.size
      · exact .inr ⟨by simp [h2], by simp [h2]⟩
      · exact .inl ⟨by simp [h2], (valid_tree l).1 hb.symm, by omega, by simp [h2]⟩)
  obtain ⟨a, c, rfl, _⟩ := hv.open
  clear hv hT hsz hb X hlen
  go_enter Tryd.func46, Tryd.ntmps46
  go_upto_region 1 with fail
  rw [← hw1, ← hb8]
  clear hw1 hb8
  go_wp2_with fail
  refine HC.out.mono ?_
  rintro e w2 ⟨rfl, hb2⟩
  have HB2 := Lib.hid (bch HB1.out hb2)
  have X2 := Lib.hid (X1.out.on hb2)
  have c2 := (hb2.cell (p := ⟨w.heap.size, 0, none⟩) HLT.out).trans c0
  have HV2 := Lib.hid (HV.out.on hb2)
  have HT2 := Lib.hid (HT.out.on hb2)
  have H8 : Hid (w.heap.size ≤ b8) := Lib.hid (by rw [HB8.out]; exact Nat.le_succ _)
  clear hb2 c0 HC X1 HV HT
  obtain ⟨z, hz⟩ : ∃ z, z = errC b s.size := ⟨_, rfl⟩
  have hcs := HCS.out
  rw [← hz] at hcs ⊢
  clear hz HCS
  rcases hcs with ⟨rfl, hok, hs2, hw⟩ | ⟨hz, hw⟩
  · have HW := Lib.hid hw
    have HS2 := Lib.hid hs2
    have HOK := Lib.hid hok
    clear hw hs2 hok
    go_wp2_with fail
    refine (standing_any l (.slice a l.length c) w2 HV2.out hl HSZ.out HT2.out).mono ?_
    rintro e w3 ⟨g, bm, rfl, hF, hb3, _⟩
    have HB3 := Lib.hid (bch HB2.out hb3)
    have X3 := Lib.hid (X2.out.on hb3)
    have HCL : Hid (Calls Tryd.prog 54 #[fnd g, .string p, .string s, .bool last] w3 (WayR (leadM l p.data.toList s.data.toList last) w3)) := Lib.hid (lead_any g bm l HOK.out p s last w3 hF (HT2.out.on hb3) hp HS2.out)
    unfold fnd at HCL
    clear hF hb3 X2 HB2 c2
    go_wp2_with fail
    refine HCL.out.mono ?_
    rintro e w4 ⟨fv, rv, hf, hr, rfl, hz, hb4⟩
    have HB4 := Lib.hid (bch HB3.out hb4)
    have X4 := Lib.hid (X3.out.on hb4)
    obtain ⟨r, hr0⟩ : ∃ r, r = leadM l p.data.toList s.data.toList last := ⟨_, rfl⟩
    rw [← hr0] at hz
    rw [← hr0]
    have hcs := way_one fv hf (itW r) rv hr (hopW r)
    have HCS := Lib.hid hcs
    have HZ := Lib.hid hz
    have HWR : Hid (walkM l p.data.toList s.data.toList last = r) := Lib.hid (by rw [HW.out, hr0])
    have HFV := Lib.hid hf
    have HRV := Lib.hid hr
    obtain ⟨E, hE⟩ : ∃ E, E = errW r := ⟨_, rfl⟩
    have HE := Lib.hid hE
    rw [← hE]
    clear hcs hz hr0 hf hr hb4 hE X3 HB3 HCL
    go_wp2_with (first
      | (refine wpList_store_row rfl 88 (.tmp 8) (.tmp 24) rfl b8 (wayA fv (itW r) rv (hopW r)) rfl rfl 88 _ X4.out (info88 _ rfl) rfl HCS.out ?_))
    exact bodyPost_ret (end_way rfl _ (X4.out.row _) rfl rfl rfl) rfl ⟨fv, rv, HFV.out, HRV.out, by rw [HWR.out, HE.out]; rfl, fun z' hz' => HZ.out z' (by rw [← HWR.out, hz']), below_row HB4.out H8.out _⟩
  · have HZ := Lib.hid hz
    have HW := Lib.hid hw
    have t1 : (z == 0) = false := by simp [hz]
    have t2 : (z != 0) = true := by simp [hz]
    clear hz hw
    go_wp2_with (first
      | (with_reducible refine wpList_zero rfl 88 rfl wayZ zero88 ?_)
      | (refine wpList_store_row rfl 88 (.tmp 8) (.tmp 16) rfl b8 wayZ rfl rfl 88 _ X2.out (info88 _ rfl) rfl wayZ_one ?_))
    exact bodyPost_ret (end_way rfl _ (X2.out.row _) rfl rfl rfl) rfl ⟨.nilFunc, .slice none 0 0, rfl, rfl, by rw [HW.out]; rfl, fun z' hz' => by rw [HW.out] at hz'; cases hz'; exact HZ.out, below_row HB2.out H8.out _⟩

/-- A place and an error's number. -/
def ItR (r : Except Int (It × Nat)) (w : World) (e : Ending) (w' : World) : Prop := e = .returned (.tuple #[.agg (itW r).arr, .int .i64 (errW r)]) ∧ (∀ z, r = .error z → z ≠ 0) ∧ Below w.heap.size w w'

set_option maxRecDepth 100000 in
set_option maxHeartbeats 4000000 in
theorem resolve_any (l : List It) (v : Value) (p s : ByteArray) (last : Bool) (w : World) (hv : RdI w v l) (hl : l.length ≤ 1000000) (hsz : ∀ x ∈ l, x.path.length ≤ 140737488355328) (hT : Tabs w) (hp : p.size ≤ 140737488355328) :
    Calls Tryd.prog 23 #[.agg #[v], .string p, .string s, .bool last] w (ItR (walkM l p.data.toList s.data.toList last) w) := by
  obtain ⟨w1, hw1⟩ : ∃ z, z = (w.alloc (.cells #[v] 24)).alloc (.cells #[.string ⟨#[]⟩, .int .i64 0, .string ⟨#[]⟩] 35) := ⟨_, rfl⟩
  have X : Box w1 w.heap.size 24 #[v] := by rw [hw1]; exact box_new.alloc _
  have X1 : Hid (Box w1 (w.heap.size + 1) 35 It.nil.arr) := Lib.hid (by rw [hw1, show w.heap.size + 1 = (w.alloc (.cells #[v] 24)).heap.size from by simp]; exact box_new)
  have HB1 : Hid (Below w.heap.size w w1) := Lib.hid (by rw [hw1]; exact bch (below_new _ _) (below_new _ _))
  have HC := Lib.hid (walked_any l v p s last w1 (hv.on HB1.out) hl hsz (hT.on HB1.out) hp)
  obtain ⟨b8, hb8⟩ : ∃ z, z = w.heap.size + 1 := ⟨_, rfl⟩
  rw [← hb8] at X1
  have HB8 := Lib.hid hb8
  have c0 := X.cell (k := 0) rfl
  obtain ⟨a, c, rfl, _⟩ := hv.open
  clear hv hT hsz X
  go_enter Tryd.func23, Tryd.ntmps23
  go_upto_region 1 with fail
  rw [← hw1, ← hb8]
  clear hw1 hb8
  go_wp2_with fail
  refine HC.out.mono ?_
  rintro e w2 ⟨fv, rv, hf, hr, rfl, hz, hb2⟩
  obtain ⟨r, hr0⟩ : ∃ r, r = walkM l p.data.toList s.data.toList last := ⟨_, rfl⟩
  rw [← hr0] at hz
  rw [← hr0]
  have HB2 := Lib.hid (bch HB1.out hb2)
  have X2 := Lib.hid (X1.out.on hb2)
  have hcs := way_one fv hf (itW r) rv hr (hopW r)
  have HCS := Lib.hid hcs
  have HZ := Lib.hid hz
  obtain ⟨E, hE⟩ : ∃ E, E = errW r := ⟨_, rfl⟩
  have HE := Lib.hid hE
  rw [← hE]
  obtain ⟨y, hy⟩ : ∃ y, y = itW r := ⟨_, rfl⟩
  have HY := Lib.hid hy
  have hne : b8 ≠ w2.heap.size := Nat.ne_of_lt X2.out.lt
  obtain ⟨b10, hb10⟩ : ∃ z, z = w2.heap.size := ⟨_, rfl⟩
  obtain ⟨w3, hw3⟩ : ∃ z, z = (w2.alloc (.cells wayZ 88)).setRow w2.heap.size (wayA fv y rv (hopW r)) := ⟨_, rfl⟩
  have X3 : Hid (Box w3 b8 35 It.nil.arr) := Lib.hid (by rw [hw3]; exact (X2.out.alloc _).far_row hne _)
  have x4 : Box w3 b10 88 (wayA fv y rv (hopW r)) := by rw [hw3, hb10]; exact Box.row (box_new (w := w2) (t := 88) (cs := wayZ)) _
  have c1 := x4.cell (k := 1) rfl
  have c2 := x4.cell (k := 2) rfl
  have c3 := x4.cell (k := 3) rfl
  have HB3 : Hid (Below w.heap.size w w3) := Lib.hid (by rw [hw3]; exact below_row (bch HB2.out (below_new _ _)) HB2.out.size _)
  have HN : Hid (w.heap.size ≤ b8) := Lib.hid (by rw [HB8.out]; exact Nat.le_succ _)
  have HW3 := Lib.hid hw3
  have HB10 := Lib.hid hb10
  rw [← hy] at HCS ⊢
  unfold wayZ at HW3
  simp only [wayA, List.getElem_toArray, List.getElem_cons_zero, List.getElem_cons_succ] at c1 c2 c3
  have HR0 := Lib.hid hr0
  clear hcs hz hr0 hf hr hb2 hE hy X2 HB2 hne hw3 hb10 x4
  go_wp2_with (first
    | (refine wpList_store_row rfl 88 (.tmp 10) (.tmp 18) rfl w2.heap.size (wayA fv y rv (hopW r)) rfl rfl 88 wayZ box_new (info88 _ rfl) rfl HCS.out ?_; rw [← HW3.out, ← HB10.out])
    | (refine wpList_store_row rfl 35 (.tmp 8) (.tmp 21) rfl b8 y.arr rfl rfl 35 _ X3.out (info35 _) rfl (iarr_one _) ?_)
    | fail)
  exact bodyPost_ret (end_item rfl _ (X3.out.row _) rfl rfl) rfl ⟨by rw [← HR0.out, ← HY.out, ← HE.out]; rfl, (by rw [← HR0.out]; exact HZ.out), below_row HB3.out HN.out _⟩

set_option maxRecDepth 100000 in
set_option maxHeartbeats 4000000 in
theorem hops_any (l : List It) (v : Value) (p s : ByteArray) (w : World) (hv : RdI w v l) (hl : l.length ≤ 1000000) (hsz : ∀ x ∈ l, x.path.length ≤ 140737488355328) (hT : Tabs w) (hp : p.size ≤ 140737488355328) :
    Calls Tryd.prog 25 #[.agg #[v], .string p, .string s] w fun e w' => e = .returned (.tuple #[.int .i64 (hopW (walkM l p.data.toList s.data.toList true)), .int .i64 (errW (walkM l p.data.toList s.data.toList true))]) ∧ Below w.heap.size w w' := by
  obtain ⟨w1, hw1⟩ : ∃ z, z = w.alloc (.cells #[v] 24) := ⟨_, rfl⟩
  have X : Box w1 w.heap.size 24 #[v] := by rw [hw1]; exact box_new
  have HB1 : Hid (Below w.heap.size w w1) := Lib.hid (by rw [hw1]; exact below_new _ _)
  have HC := Lib.hid (walked_any l v p s true w1 (hv.on HB1.out) hl hsz (hT.on HB1.out) hp)
  have c0 := X.cell (k := 0) rfl
  obtain ⟨a, c, rfl, _⟩ := hv.open
  clear hv hT hsz X
  go_enter Tryd.func25, Tryd.ntmps25
  go_upto_region 1 with fail
  rw [← hw1]
  clear hw1
  go_wp2_with fail
  refine HC.out.mono ?_
  rintro e w2 ⟨fv, rv, hf, hr, rfl, hz, hb2⟩
  obtain ⟨r, hr0⟩ : ∃ r, r = walkM l p.data.toList s.data.toList true := ⟨_, rfl⟩
  rw [← hr0]
  have HR0 := Lib.hid hr0
  have HB2 := Lib.hid (bch HB1.out hb2)
  have hcs := way_one fv hf (itW r) rv hr (hopW r)
  have HCS := Lib.hid hcs
  obtain ⟨E, hE⟩ : ∃ E, E = errW r := ⟨_, rfl⟩
  have HE := Lib.hid hE
  rw [← hE]
  obtain ⟨H, hH⟩ : ∃ H, H = hopW r := ⟨_, rfl⟩
  have HH := Lib.hid hH
  rw [← hH]
  rw [← hH] at HCS
  obtain ⟨y, hy⟩ : ∃ y, y = itW r := ⟨_, rfl⟩
  rw [← hy] at HCS ⊢
  obtain ⟨b10, hb10⟩ : ∃ z, z = w2.heap.size := ⟨_, rfl⟩
  obtain ⟨w3, hw3⟩ : ∃ z, z = (w2.alloc (.cells wayZ 88)).setRow w2.heap.size (wayA fv y rv H) := ⟨_, rfl⟩
  have x4 : Box w3 b10 88 (wayA fv y rv H) := by rw [hw3, hb10]; exact Box.row (box_new (w := w2) (t := 88) (cs := wayZ)) _
  have c1 := x4.cell (k := 5) rfl
  have HB3 : Hid (Below w.heap.size w w3) := Lib.hid (by rw [hw3]; exact below_row (bch HB2.out (below_new _ _)) HB2.out.size _)
  have HW3 := Lib.hid hw3
  have HB10 := Lib.hid hb10
  unfold wayZ at HW3
  simp only [wayA, List.getElem_toArray, List.getElem_cons_zero, List.getElem_cons_succ] at c1
  clear hcs hz hr0 hf hr hb2 hE hH hy HB2 hw3 hb10 x4
  go_wp2_with (first
    | (refine wpList_store_row rfl 88 (.tmp 8) (.tmp 15) rfl w2.heap.size (wayA fv y rv H) rfl rfl 88 wayZ box_new (info88 _ rfl) rfl HCS.out ?_; rw [← HW3.out, ← HB10.out])
    | fail)
  go_ret2
  exact ⟨by rw [← HR0.out, ← HE.out, ← HH.out]; rfl, HB3.out⟩
end Go.Proofs.YtiakedoebecgpaaDoor
