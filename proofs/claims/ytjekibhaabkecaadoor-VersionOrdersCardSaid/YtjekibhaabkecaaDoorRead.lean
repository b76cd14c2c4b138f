/- Proved here: read and Read of package version, for texts of at most 140737488355328 bytes. -/
import Derived.Test.YtjekibhaabkecaaDoorNums
import Derived.Test.YtjekibhaabkecaaDoorReadTag
import Derived.Test.YtjekibhaabkecaaDoorBehind
namespace Go.Proofs.YtjekibhaabkecaaDoor
open Go.RowKit Go.Shelf

def ofB (l : Str) : ByteArray := ⟨l.toArray⟩
/-- The pieces of what stands ahead of the first "-". -/
def headP (s : ByteArray) : List ByteArray := pieces 46 (ofB (cutAt 45 s.data.toList).1)
def verP (ps : List ByteArray) (tag : Str) (step : Int) : Ver := ⟨slotP ps 0, slotP ps 1, slotP ps 2, slotP ps 3, (ps.length : Int), ofB tag, step⟩
/-- The version of a text. -/
def readV (s : ByteArray) : Option Ver :=
  if readsP (headP s) = true then
    (if (cutAt 45 s.data.toList).2.2 = true then
      (if (tagR (cutAt 45 s.data.toList).2.1).2.2 = true then some (verP (headP s) (tagR (cutAt 45 s.data.toList).2.1).1 (tagR (cutAt 45 s.data.toList).2.1).2.1) else none)
    else some (verP (headP s) [] 0))
  else none
theorem cut_len (c : UInt8) (l : Str) : (cutAt c l).1.length ≤ l.length ∧ (cutAt c l).2.1.length ≤ l.length := by
  unfold cutAt
  split
  · refine ⟨(List.takeWhile_sublist _).length_le, ?_⟩
    have := (List.dropWhile_sublist (fun x => x != c) (l := l)).length_le
    simp
    omega
  · exact ⟨Nat.le_refl _, Nat.zero_le _⟩
theorem builtV (a b c d m : Int) : Tryd.prog.built 26 [(0, .agg (ints4 a b c d)), (1, .int .i64 m)] = some (Ver.arr ⟨a, b, c, d, m, ⟨#[]⟩, 0⟩) := by kernel_rfl
theorem zero24 : (Tryd.prog.info? 24).map (·.zero) = some (some (.agg (ints4 0 0 0 0))) := by kernel_rfl
theorem info24 (a b c d : Int) : (Tryd.prog.info? 24).map (·.size) = some (ints4 a b c d).size := by
  show _ = some 4
  kernel_rfl
theorem ints_one (a b c d : Int) : (ints4 a b c d).all (·.oneCell') = true := by
  unfold ints4
  simp [Value.oneCell']
theorem builds_ver26 {ops : Array Oper} {rest : List Oper} {o : Oper} {ac : Act} {w : World} {Q : Exit → Act → World → Prop} (hg : o.guard = none) (x y : Operand) (ho : o.op = .build 26 #[(0, x), (1, y)]) (a b c d m : Int) (hx : ac.eval x = .agg (ints4 a b c d)) (hy : ac.eval y = .int .i64 m)
    (h : wpList Tryd.prog ops Q rest (ac.put o.dst (.agg (Ver.arr ⟨a, b, c, d, m, ⟨#[]⟩, 0⟩))) w) : wpList Tryd.prog ops Q (o :: rest) ac w := by
  have e : Tryd.prog.built 26 ((#[(0, x), (1, y)] : Array (Nat × Operand)).map fun (i, x) => (i, ac.eval x)).toList = some (Ver.arr ⟨a, b, c, d, m, ⟨#[]⟩, 0⟩) := by
    refine Eq.trans (congrArg (Tryd.prog.built 26) ?_) (builtV a b c d m)
    simp [hx, hy]
  exact wpList_build hg 26 _ ho (by rw [e]; rfl) (by rw [e]; exact h)

/-- What read hands back. -/
def ReadR (s : ByteArray) (w : World) (e : Ending) (w' : World) : Prop := ∃ (v : Ver) (b : Bool), e = .returned (.tuple #[.agg v.arr, .bool b]) ∧ readV s = (if b = true then some v else none) ∧ Below w.heap.size w w'

set_option maxRecDepth 100000 in
set_option maxHeartbeats 4000000 in
theorem read_any (s : ByteArray) (hs : s.size ≤ 140737488355328) (w : World) : Calls Tryd.prog 26 #[.string s] w (ReadR s w) := by
  have hcl := cut_len 45 s.data.toList
  have hsl : s.data.toList.length = s.size := rfl
  obtain ⟨p, hp⟩ : ∃ p, p = cutAt 45 s.data.toList := ⟨_, rfl⟩
  obtain ⟨l, r, t⟩ := p
  have HP := Lib.hid hp
  rw [← hp] at hcl
  have hl : (ofB l).size ≤ 140737488355328 := by
    have e : (ofB l).size = l.length := by unfold ofB; simp [ByteArray.size]
    rw [e]
    have := hcl.1
    dsimp only at this
    omega
  have HC : Hid (∀ W, Calls Tryd.prog 36 #[.string s, .string ⟨#[45]⟩] W fun e w' => e = .returned (.tuple #[.string (ofB l), .string (ofB r), .bool t]) ∧ Below W.heap.size W w') := Lib.hid (fun W => (cut_any s hs W).mono fun e w' h => ⟨h.1.trans (by rw [← hp]; rfl), h.2⟩)
  have HN : Hid (∀ W, Calls Tryd.prog 37 #[.string (ofB l)] W (NumsR (ofB l) W)) := Lib.hid (fun W => nums_any (ofB l) hl W)
  have HT : Hid (∀ W, Calls Tryd.prog 38 #[.string (ofB r)] W fun e w' => e = .returned (.tuple #[.string (ofB (tagR r).1), .int .i64 ((tagR r).2.1 : Int), .bool (tagR r).2.2]) ∧ Below W.heap.size W w') := Lib.hid (fun W => by
    have := readTag_any (ofB r) W
    rw [show (ofB r).data.toList = r from rfl] at this
    exact this)
  have X0 : Hid (Box (w.alloc (.cells Ver.zero.arr 26)) w.heap.size 26 Ver.zero.arr) := Lib.hid box_new
  have B0 : Hid (Below w.heap.size w (w.alloc (.cells Ver.zero.arr 26))) := Lib.hid (below_new _ _)
  clear hcl hsl hp hl hs
  go_enter Tryd.func26, Tryd.ntmps26
  go_wp2_with (with_reducible refine wpList_zero rfl 26 rfl Ver.zero.arr zero26 ?_)
  refine (HC.out _).mono ?_
  rintro e w1 ⟨rfl, hb⟩
  have X1 := Lib.hid (X0.out.on hb)
  have B1 := Lib.hid (bch B0.out hb)
  clear X0 B0 HC hb
  go_wp2_with fail
  refine (HN.out _).mono ?_
  rintro e w2 ⟨a, b, c, d, m, rfl, hok, hb⟩
  have X2 := Lib.hid (X1.out.on hb)
  have B2 := Lib.hid (bch B1.out hb)
  have HOK := Lib.hid hok
  clear X1 B1 HN hb hok
  have Y0 : Hid (Box (w2.alloc (.cells (ints4 0 0 0 0) 24)) w2.heap.size 24 (ints4 0 0 0 0)) := Lib.hid box_new
  obtain ⟨w3, hw3⟩ : ∃ q, q = (w2.alloc (.cells (ints4 0 0 0 0) 24)).setRow w2.heap.size (ints4 a b c d) := ⟨_, rfl⟩
  have Y1 : Hid (Box w3 w2.heap.size 24 (ints4 a b c d)) := Lib.hid (by rw [hw3]; exact Y0.out.row _)
  have l2 := X2.out.lt
  have X3 : Hid (Box w3 w.heap.size 26 Ver.zero.arr) := Lib.hid (by rw [hw3]; exact (X2.out.alloc _).far_row (by omega) _)
  have B3 : Hid (Below w.heap.size w w3) := Lib.hid (by rw [hw3]; exact below_row (B2.out.alloc B2.out.size _) B2.out.size _)
  obtain ⟨o, ho⟩ : ∃ o, o = readsP (pieces 46 (ofB l)) := ⟨_, rfl⟩
  rw [← ho]
  have HO := Lib.hid ho
  clear ho
  go_upto_region 3 with (first
    | (with_reducible refine wpList_zero rfl 24 rfl (ints4 0 0 0 0) zero24 ?_)
    | (refine wpList_store_row rfl 24 (.tmp 7) (.tmp 20) rfl w2.heap.size (ints4 a b c d) rfl rfl 24 _ Y0.out (info24 _ _ _ _) rfl (ints_one _ _ _ _) ?_))
  rw [← hw3]
  clear hw3 X2 B2 Y0
  obtain ⟨v, hv⟩ : ∃ v : Ver, v = ⟨a, b, c, d, m, ⟨#[]⟩, 0⟩ := ⟨_, rfl⟩
  have Z0 : Hid (Box (w3.alloc (.cells Ver.zero.arr 26)) w3.heap.size 26 Ver.zero.arr) := Lib.hid box_new
  obtain ⟨w4, hw4⟩ : ∃ q, q = (w3.alloc (.cells Ver.zero.arr 26)).setRow w3.heap.size v.arr := ⟨_, rfl⟩
  have Z1 : Hid (Box w4 w3.heap.size 26 v.arr) := Lib.hid (by rw [hw4]; exact Z0.out.row _)
  have l3 := X3.out.lt
  have X4 : Hid (Box w4 w.heap.size 26 Ver.zero.arr) := Lib.hid (by rw [hw4]; exact (X3.out.alloc _).far_row (by omega) _)
  have B4 : Hid (Below w.heap.size w w4) := Lib.hid (by rw [hw4]; exact below_row (B3.out.alloc B3.out.size _) B3.out.size _)
  have HV := Lib.hid hv
  go_upto_region 4 with (first
    | (with_reducible refine wpList_zero rfl 26 rfl Ver.zero.arr zero26 ?_)
    | (refine wpList_load_row rfl 24 (.tmp 7) rfl w2.heap.size rfl 24 (ints4 a b c d) (0, 0) _ Y1.out Tryd.underlying24 rfl (info24 _ _ _ _) ?_)
    | (refine builds_ver26 rfl (.tmp 23) (.tmp 24) rfl a b c d m rfl rfl ?_; rw [← HV.out])
    | (refine wpList_store_row rfl 26 (.tmp 10) (.tmp 25) rfl w3.heap.size v.arr rfl rfl 26 _ Z0.out (info26 _) rfl (arr_one _) ?_))
  rw [← hw4]
  clear hw4 X3 B3 Z0 Y1 hv
  have HE1 : Hid (o = false → readV s = none) := Lib.hid (fun h => by
    unfold readV headP
    rw [← HP.out, ← HO.out, h]
    rfl)
  have HE2 : Hid (o = true → v = verP (headP s) [] 0) := Lib.hid (fun h => by
    obtain ⟨q1, q2⟩ := HOK.out (by rw [← HO.out, h])
    have e : headP s = pieces 46 (ofB l) := by unfold headP; rw [← HP.out]
    rw [HV.out, q2, e]
    unfold ints4 cellsP at q1
    simp at q1
    obtain ⟨r0, r1, r2, r3⟩ := q1
    rw [r0, r1, r2, r3]
    rfl)
  have HE3 : Hid (o = true → t = false → readV s = some (verP (headP s) [] 0)) := Lib.hid (fun h1 h2 => by
    have e : headP s = pieces 46 (ofB l) := by unfold headP; rw [← HP.out]
    unfold readV
    rw [e, ← HO.out, h1, ← HP.out, h2]
    rfl)
  have HE4 : Hid (o = true → t = true → readV s = (if (tagR r).2.2 = true then some (verP (headP s) (tagR r).1 (tagR r).2.1) else none)) := Lib.hid (fun h1 h2 => by
    have e : headP s = pieces 46 (ofB l) := by unfold headP; rw [← HP.out]
    unfold readV
    rw [e, ← HO.out, h1, ← HP.out, h2]
    rfl)
  clear HP HO HOK HV
  have last : ∀ (W : World) (u : Ver) (q : Bool) (tmps : Array Value), Box W w.heap.size 26 u.arr → tmps.getD 2 undef = .pointer (some ⟨w.heap.size, 0, none⟩) → tmps.getD 3 undef = .bool q → (results Tryd.f26 tmps).run Tryd.prog W = .ok (.tuple #[.agg u.arr, .bool q]) W := fun W u q tmps hx h2 h3 => by
    rw [← h3]
    exact results_ver rfl tmps W w.heap.size h2 u.arr (run_loadVar_row _ w.heap.size 26 26 u.arr (0, 0) _ hx Tryd.underlying26 rfl (info26 _))
  cases o with
  | false =>
    have F0 := Lib.hid (HE1.out rfl)
    clear HE1 HE2 HE3 HE4 HT
    go_wp2_with (first
      | (refine wpList_load_row rfl 26 (.tmp 10) rfl w3.heap.size rfl 26 v.arr (0, 0) _ Z1.out Tryd.underlying26 rfl (info26 _) ?_)
      | (refine wpList_store_row rfl 26 (.tmp 2) (.tmp 38) rfl w.heap.size v.arr rfl rfl 26 _ X4.out (info26 _) rfl (arr_one _) ?_))
    refine bodyPost_ret (last _ v false _ (X4.out.row _) rfl rfl) rfl ⟨v, false, rfl, F0.out, below_row B4.out (Nat.le_refl _) _⟩
  | true =>
    have G0 := Lib.hid (HE2.out rfl)
    cases t with
    | false =>
      have F0 := Lib.hid (HE3.out rfl rfl)
      clear HE1 HE2 HE3 HE4 HT
      go_wp2_with (first
        | (refine wpList_load_row rfl 26 (.tmp 10) rfl w3.heap.size rfl 26 v.arr (0, 0) _ Z1.out Tryd.underlying26 rfl (info26 _) ?_)
        | (refine wpList_store_row rfl 26 (.tmp 2) (.tmp 38) rfl w.heap.size v.arr rfl rfl 26 _ X4.out (info26 _) rfl (arr_one _) ?_))
      refine bodyPost_ret (last _ v true _ (X4.out.row _) rfl rfl) rfl ⟨v, true, rfl, by rw [F0.out, G0.out]; rfl, below_row B4.out (Nat.le_refl _) _⟩
    | true =>
      have F0 := Lib.hid (HE4.out rfl rfl)
      clear HE1 HE2 HE3 HE4
      obtain ⟨p, hp⟩ : ∃ p, p = tagR r := ⟨_, rfl⟩
      obtain ⟨g, n, q⟩ := p
      have HG : Hid (∀ W, Calls Tryd.prog 38 #[.string (ofB r)] W fun e w' => e = .returned (.tuple #[.string (ofB g), .int .i64 (n : Int), .bool q]) ∧ Below W.heap.size W w') := Lib.hid (fun W => by have := HT.out W; rw [← hp] at this; exact this)
      have F1 : Hid (readV s = (if q = true then some (verP (headP s) g n) else none)) := Lib.hid (by rw [F0.out, ← hp])
      clear HT F0 hp
      go_wp2_with fail
      refine (HG.out _).mono ?_
      rintro e w5 ⟨rfl, hb⟩
      have Z2 := Lib.hid (Z1.out.on hb)
      have X5 := Lib.hid (X4.out.on hb)
      have B5 := Lib.hid (bch B4.out hb)
      clear Z1 X4 B4 hb HG
      have c5 : w5.cell? ⟨w3.heap.size, 5, none⟩ = some (.string v.tag) := Z2.out.ver.c5
      have f5 : w5.frozen? ⟨w3.heap.size, 5, none⟩ = false := frozen_of_row w5 _ 5 _ _ Z2.out
      have Z3 : Hid (Box (w5.setCell ⟨w3.heap.size, 5, none⟩ (.string (ofB g))) w3.heap.size 26 ({v with tag := ofB g} : Ver).arr) := Lib.hid (Z2.out.set (k := 5) (.string (ofB g)))
      have c6 : (w5.setCell ⟨w3.heap.size, 5, none⟩ (.string (ofB g))).cell? ⟨w3.heap.size, 6, none⟩ = some (.int .i64 v.step) := Z3.out.ver.c6
      have f6 : (w5.setCell ⟨w3.heap.size, 5, none⟩ (.string (ofB g))).frozen? ⟨w3.heap.size, 6, none⟩ = false := frozen_of_row _ _ 6 _ _ Z3.out
      have c6' : w5.cell? ⟨w3.heap.size, 6, none⟩ = some (.int .i64 v.step) := Z2.out.ver.c6
      have f6' : w5.frozen? ⟨w3.heap.size, 6, none⟩ = false := frozen_of_row _ _ 6 _ _ Z2.out
      obtain ⟨u, hu⟩ : ∃ u : Ver, u = {v with tag := ofB g, step := (n : Int)} := ⟨_, rfl⟩
      obtain ⟨w6, hw6⟩ : ∃ q, q = (w5.setCell ⟨w3.heap.size, 5, none⟩ (.string (ofB g))).setCell ⟨w3.heap.size, 6, none⟩ (.int .i64 (n : Int)) := ⟨_, rfl⟩
      have Z4 : Hid (Box w6 w3.heap.size 26 u.arr) := Lib.hid (by rw [hw6, hu]; exact Z3.out.set (k := 6) (.int .i64 (n : Int)))
      have X6 : Hid (Box w6 w.heap.size 26 Ver.zero.arr) := Lib.hid (by rw [hw6]; exact (X5.out.far (by simp; omega) _).far (by simp; omega) _)
      have B6 : Hid (Below w.heap.size w w6) := Lib.hid (by rw [hw6]; exact (B5.out.setCell (p := ⟨w3.heap.size, 5, none⟩) (Nat.le_of_lt l3) _).setCell (p := ⟨w3.heap.size, 6, none⟩) (Nat.le_of_lt l3) _)
      have HU : Hid (u = verP (headP s) g n) := Lib.hid (by rw [hu, G0.out]; rfl)
      clear hu Z2 Z3 X5 B5
      go_upto_region 6 with fail
      rw [← hw6]
      clear hw6 c5 f5 c6 f6 c6' f6'
      go_wp2_with (first
        | (refine wpList_load_row rfl 26 (.tmp 10) rfl w3.heap.size rfl 26 u.arr (0, 0) _ Z4.out Tryd.underlying26 rfl (info26 _) ?_)
        | (refine wpList_store_row rfl 26 (.tmp 2) (.tmp 38) rfl w.heap.size u.arr rfl rfl 26 _ X6.out (info26 _) rfl (arr_one _) ?_))
      refine bodyPost_ret (last _ u q _ (X6.out.row _) rfl rfl) rfl ⟨u, q, rfl, by rw [F1.out, HU.out], below_row B6.out (Nat.le_refl _) _⟩

/-- What Read hands back. -/
def readO (s : ByteArray) : Ver × Int := match readV s with | some v => (v, 0) | none => (Ver.zero, 140)

set_option maxRecDepth 100000 in
set_option maxHeartbeats 2000000 in
theorem Read_any (s : ByteArray) (hs : s.size ≤ 140737488355328) (w : World) : Calls Tryd.prog 10 #[.string s] w fun e w' => e = .returned (.tuple #[.agg (readO s).1.arr, .int .i64 (readO s).2]) ∧ Below w.heap.size w w' := by
  have HR : Hid (∀ W, Calls Tryd.prog 26 #[.string s] W (ReadR s W)) := Lib.hid (fun W => read_any s hs W)
  have X0 : Hid (Box (w.alloc (.cells Ver.zero.arr 26)) w.heap.size 26 Ver.zero.arr) := Lib.hid box_new
  have B0 : Hid (Below w.heap.size w (w.alloc (.cells Ver.zero.arr 26))) := Lib.hid (below_new _ _)
  clear hs
  go_enter Tryd.func10, Tryd.ntmps10
  go_wp2_with (with_reducible refine wpList_zero rfl 26 rfl Ver.zero.arr zero26 ?_)
  refine (HR.out _).mono ?_
  rintro e w1 ⟨v, b, rfl, hv, hb⟩
  have X1 := Lib.hid (X0.out.on hb)
  have B1 := Lib.hid (bch B0.out hb)
  have HV := Lib.hid hv
  clear X0 B0 HR hb hv
  have l1 := X1.out.lt
  have Y0 : Hid (Box (w1.alloc (.cells Ver.zero.arr 26)) w1.heap.size 26 Ver.zero.arr) := Lib.hid box_new
  obtain ⟨w2, hw2⟩ : ∃ q, q = (w1.alloc (.cells Ver.zero.arr 26)).setRow w1.heap.size v.arr := ⟨_, rfl⟩
  have Y1 : Hid (Box w2 w1.heap.size 26 v.arr) := Lib.hid (by rw [hw2]; exact Y0.out.row _)
  have X2 : Hid (Box w2 w.heap.size 26 Ver.zero.arr) := Lib.hid (by rw [hw2]; exact (X1.out.alloc _).far_row (by omega) _)
  have B2 : Hid (Below w.heap.size w w2) := Lib.hid (by rw [hw2]; exact below_row (B1.out.alloc B1.out.size _) B1.out.size _)
  go_upto_region 2 with (first
    | (with_reducible refine wpList_zero rfl 26 rfl Ver.zero.arr zero26 ?_)
    | (refine wpList_store_row rfl 26 (.tmp 4) (.tmp 9) rfl w1.heap.size v.arr rfl rfl 26 _ Y0.out (info26 _) rfl (arr_one _) ?_))
  rw [← hw2]
  clear hw2 X1 B1 Y0
  cases b with
  | false =>
    have HE : Hid (readO s = (Ver.zero, 140)) := Lib.hid (by unfold readO; rw [HV.out]; rfl)
    clear HV
    go_wp2_with (first
      | (refine builds_none26 rfl rfl ?_)
      | (refine wpList_store_row rfl 26 (.tmp 2) (.tmp 13) rfl w.heap.size Ver.zero.arr rfl rfl 26 _ X2.out (info26 _) rfl (arr_one _) ?_))
    refine bodyPost_ret (results_ver rfl _ _ w.heap.size rfl Ver.zero.arr (run_loadVar_row _ w.heap.size 26 26 Ver.zero.arr (0, 0) _ (X2.out.row _) Tryd.underlying26 rfl (info26 _))) rfl ⟨?_, below_row B2.out (Nat.le_refl _) _⟩
    exact ret_beh HE.out
  | true =>
    have HE : Hid (readO s = (v, 0)) := Lib.hid (by unfold readO; rw [HV.out]; rfl)
    clear HV
    go_wp2_with (first
      | (refine wpList_load_row rfl 26 (.tmp 4) rfl w1.heap.size rfl 26 v.arr (0, 0) _ Y1.out Tryd.underlying26 rfl (info26 _) ?_)
      | (refine wpList_store_row rfl 26 (.tmp 2) (.tmp 14) rfl w.heap.size v.arr rfl rfl 26 _ X2.out (info26 _) rfl (arr_one _) ?_))
    refine bodyPost_ret (results_ver rfl _ _ w.heap.size rfl v.arr (run_loadVar_row _ w.heap.size 26 26 v.arr (0, 0) _ (X2.out.row _) Tryd.underlying26 rfl (info26 _))) rfl ⟨?_, below_row B2.out (Nat.le_refl _) _⟩
    exact ret_beh HE.out
end Go.Proofs.YtjekibhaabkecaaDoor
