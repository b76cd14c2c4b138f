/- Proved here: begin of package walk: a way at a directory. -/
import Derived.Test.YtiakedoebecgpaaDoorWMap
namespace Go.Proofs.YtiakedoebecgpaaDoor
open Go.RowKit Go.Shelf

/-- The function that tells where items stand. -/
def fnd (g : Nat) : Value := .func (.func 82) #[] #[.pointer (some ⟨g, 0, none⟩)]
/-- The cells of a way. -/
def wayA (fv : Value) (x : It) (rv : Value) (n : Nat) : Array Value := #[fv, .string ⟨x.path.toArray⟩, .int .i64 x.kind, .string ⟨x.data.toArray⟩, rv, .int .i64 (n : Int)]
def wayZ : Array Value := #[.nilFunc, .string ⟨#[]⟩, .int .i64 0, .string ⟨#[]⟩, .slice none 0 0, .int .i64 0]
theorem zero88 : (Tryd.prog.info? 88).map (·.zero) = some (some (.agg wayZ)) := by kernel_rfl
theorem info88 (cs : Array Value) (h : cs.size = 6) : (Tryd.prog.info? 88).map (·.size) = some cs.size := by
  rw [h]; kernel_rfl
theorem end_way {fn : Func} {p q : Tmp} (h : fn.results = #[.cell p 88, .tmp q]) (tmps : Array Value) {w : World} {g : Nat} {cs : Array Value} (X : Box w g 88 cs) (hs : cs.size = 6) (hp : tmps.getD p undef = .pointer (some ⟨g, 0, none⟩)) {v : Value} (hq : tmps.getD q undef = v) :
    (results fn tmps).run Tryd.prog w = .ok (.tuple #[.agg cs, v]) w := by
  rw [← hq]
  exact results_two h tmps w g hp cs (run_loadVar_row _ g 88 88 cs (0, 0) _ X Tryd.underlying88 rfl (info88 _ hs))
theorem way_one (fv : Value) (hf : fv.oneCell' = true) (x : It) (rv : Value) (hr : rv.oneCell' = true) (n : Nat) : (wayA fv x rv n).all (·.oneCell') = true := by
  rw [← Array.all_toList]
  show (fv.oneCell' && (true && (true && (true && (rv.oneCell' && (true && true)))))) = true
  rw [hf, hr]; rfl
theorem wayZ_one : wayZ.all (·.oneCell') = true := by simp [wayZ, Value.oneCell']

def beginO (v : Bool) (o : Option It) : Except Int It :=
  if v = false then .error 110
  else match o with
    | none => .error 4
    | some x => if x.kind ≠ 1 then .error 161 else .ok x
def beginM (l : List It) (at_ : Str) : Except Int It := beginO (validB at_) (getM l at_)
def BeginR (g : Nat) (r : Except Int It) (w : World) (e : Ending) (w' : World) : Prop :=
  Below w.heap.size w w' ∧ match r with
    | .error z => e = .returned (.tuple #[.agg wayZ, .int .i64 z])
    | .ok x => e = .returned (.tuple #[.agg (wayA (fnd g) x (.slice none 0 0) 0), .int .i64 0])
theorem find_is (g b : Nat) (l : List It) (p : ByteArray) (w : World) (hF : Finds w g b l) (hp : p.size ≤ 140737488355328) (o : Option It) (ho : getM l p.data.toList = o) : Calls Tryd.prog 82 #[.string p, .pointer (some ⟨g, 0, none⟩)] w (FindR o w) := by
  rw [← ho]; exact find_any g b l p w hF hp
theorem check_is (p : ByteArray) (hp : p.size ≤ 140737488355328) (b : Bool) (hb : validB p.data.toList = b) (w : World) : Calls Tryd.prog 77 #[.string p] w fun e w' => e = .returned (.int .i64 (errB b)) ∧ Below w.heap.size w w' := by
  rw [← hb]; exact check_any p hp w

set_option maxRecDepth 100000 in
set_option maxHeartbeats 4000000 in
theorem begin_any (g b : Nat) (l : List It) (p : ByteArray) (w : World) (hF : Finds w g b l) (hp : p.size ≤ 140737488355328) : Calls Tryd.prog 83 #[fnd g, .string p] w (BeginR g (beginM l p.data.toList) w) := by
  obtain ⟨o, ho⟩ : ∃ o, getM l p.data.toList = o := ⟨_, rfl⟩
  obtain ⟨vb, hvb⟩ : ∃ q, validB p.data.toList = q := ⟨_, rfl⟩
  have hM : beginM l p.data.toList = beginO vb o := by
    unfold beginM; rw [ho, hvb]
  have HM := Lib.hid hM
  have HO := Lib.hid ho
  have HV := Lib.hid hvb
  obtain ⟨y, hy⟩ : ∃ y, y = o.getD .nil := ⟨_, rfl⟩
  obtain ⟨is, his⟩ : ∃ q, q = o.isSome := ⟨_, rfl⟩
  have HY := Lib.hid hy
  have HI := Lib.hid his
  obtain ⟨w1, hw1⟩ : ∃ q, q = w.alloc (.cells #[.nilFunc, .string ⟨#[]⟩, .int .i64 0, .string ⟨#[]⟩, .slice none 0 0, .int .i64 0] 88) := ⟨_, rfl⟩
  have X1 : Hid (Box w1 w.heap.size 88 wayZ) := Lib.hid (by rw [hw1]; exact box_new)
  have HB1 : Hid (Below w.heap.size w w1) := Lib.hid (by rw [hw1]; exact below_new _ _)
  have HF1 : Hid (Finds w1 g b l) := Lib.hid (hF.on HB1.out)
  have HC : Hid (Calls Tryd.prog 82 #[.string p, .pointer (some ⟨g, 0, none⟩)] w1 (FindR o w1)) := Lib.hid (find_is g b l p w1 HF1.out hp o ho)
  obtain ⟨b4, hb4⟩ : ∃ q, q = w.heap.size := ⟨_, rfl⟩
  rw [← hb4] at X1
  have HB4 := Lib.hid hb4
  clear hM ho hvb hy his hF
  unfold fnd
  go_enter Tryd.func83, Tryd.ntmps83
  go_upto_region 1 with fail
  rw [← hw1, ← hb4]
  clear hw1 hb4
  go_wp2_with fail
  refine HC.out.mono ?_
  rintro e w2 ⟨rfl, hb2⟩
  rw [← HY.out, ← HI.out]
  have X2 := Lib.hid (X1.out.on hb2)
  have HB2 := Lib.hid (bch HB1.out hb2)
  clear hb2 X1 HB1 HF1 HC
  obtain ⟨w3, hw3⟩ : ∃ q, q = w2.alloc (.cells #[.string ⟨y.path.toArray⟩, .int .i64 y.kind, .string ⟨y.data.toArray⟩] 35) := ⟨_, rfl⟩
  have Y3 : Box w3 w2.heap.size 35 y.arr := by rw [hw3]; exact box_new
  have X3 : Hid (Box w3 b4 88 wayZ) := Lib.hid (by rw [hw3]; exact X2.out.alloc _)
  have HB3 : Hid (Below w.heap.size w w3) := Lib.hid (by rw [hw3]; exact bch HB2.out (below_new _ _))
  obtain ⟨b6, hb6⟩ : ∃ q, q = w2.heap.size := ⟨_, rfl⟩
  rw [← hb6] at Y3
  have HY3 := Lib.hid Y3
  clear Y3 X2 HB2
  unfold It.arr
  go_upto_region 2 with fail
  rw [← hw3, ← hb6]
  clear hw3 hb6
  go_wp2_with fail
  refine (check_is p hp vb HV.out _).mono ?_
  rintro e w4 ⟨rfl, hb4⟩
  have X4 := Lib.hid (X3.out.on hb4)
  have Y4 := Lib.hid (HY3.out.on hb4)
  have HB4' := Lib.hid (bch HB3.out hb4)
  clear hb4 X3 HY3 HB3
  obtain ⟨d0, d1, d2⟩ := Y4.out.it
  cases vb with
  | false =>
    have hr : Hid (beginM l p.data.toList = .error 110) := Lib.hid HM.out
    go_wp2_with (first
      | (with_reducible refine wpList_zero rfl 88 rfl wayZ zero88 ?_)
      | (refine wpList_store_row rfl 88 (.tmp 4) (.tmp 18) rfl b4 wayZ rfl rfl 88 _ X4.out (info88 _ rfl) rfl wayZ_one ?_))
    exact bodyPost_ret (end_way rfl _ (X4.out.row _) rfl rfl rfl) rfl ⟨below_row HB4'.out (by rw [HB4.out]; exact Nat.le_refl _) _, by rw [hr.out]; rfl⟩
  | true =>
    cases o with
    | none =>
      have hr : Hid (beginM l p.data.toList = .error 4) := Lib.hid HM.out
      obtain rfl : is = false := HI.out
      go_wp2_with (first
        | (with_reducible refine wpList_zero rfl 88 rfl wayZ zero88 ?_)
        | (refine wpList_store_row rfl 88 (.tmp 4) (.tmp 22) rfl b4 wayZ rfl rfl 88 _ X4.out (info88 _ rfl) rfl wayZ_one ?_))
      exact bodyPost_ret (end_way rfl _ (X4.out.row _) rfl rfl rfl) rfl ⟨below_row HB4'.out (by rw [HB4.out]; exact Nat.le_refl _) _, by rw [hr.out]; rfl⟩
    | some x =>
      obtain rfl : is = true := HI.out
      obtain rfl : y = x := HY.out
      by_cases hk : y.kind = 1
      · have hr : Hid (beginM l p.data.toList = .ok y) := Lib.hid (by rw [HM.out]; unfold beginO; rw [if_neg (by decide)]; simp only; rw [if_neg (by simpa using hk)])
        have t1 : (y.kind == 1) = true := by simp [hk]
        have t2 : (y.kind != 1) = false := by simp [hk]
        have hao : (wayA (fnd g) y (.slice none 0 0) 0).all (·.oneCell') = true := way_one _ rfl _ _ rfl _
        have HAO := Lib.hid hao
        clear hk hao
        go_wp2_with (refine wpList_store_row rfl 88 (.tmp 4) (.tmp 30) rfl b4 (wayA (fnd g) y (.slice none 0 0) 0) rfl rfl 88 _ X4.out (info88 _ rfl) rfl HAO.out ?_)
        exact bodyPost_ret (end_way rfl _ (X4.out.row _) rfl rfl rfl) rfl ⟨below_row HB4'.out (by rw [HB4.out]; exact Nat.le_refl _) _, by rw [hr.out]; rfl⟩
      · have hr : Hid (beginM l p.data.toList = .error 161) := Lib.hid (by rw [HM.out]; unfold beginO; rw [if_neg (by decide)]; simp only; rw [if_pos hk])
        have t1 : (y.kind == 1) = false := by simp [hk]
        have t2 : (y.kind != 1) = true := by simp [hk]
        clear hk
        go_wp2_with (first
          | (with_reducible refine wpList_zero rfl 88 rfl wayZ zero88 ?_)
          | (refine wpList_store_row rfl 88 (.tmp 4) (.tmp 27) rfl b4 wayZ rfl rfl 88 _ X4.out (info88 _ rfl) rfl wayZ_one ?_))
        exact bodyPost_ret (end_way rfl _ (X4.out.row _) rfl rfl rfl) rfl ⟨below_row HB4'.out (by rw [HB4.out]; exact Nat.le_refl _) _, by rw [hr.out]; rfl⟩
end Go.Proofs.YtiakedoebecgpaaDoor
