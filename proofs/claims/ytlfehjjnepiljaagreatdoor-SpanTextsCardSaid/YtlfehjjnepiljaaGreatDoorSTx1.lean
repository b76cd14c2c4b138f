/- Proved here: sign and Text of puncheonref05, at spans that may be. -/
import Derived.Test.YtlfehjjnepiljaaGreatDoorMJoins1
import Derived.Maps.RangeWalk
namespace Go.Proofs.YtlfehjjnepiljaaGreatDoor
open Go.RowKit Go.Shelf

def signsA : Array Value := #[.string ⟨#[]⟩, .string ⟨#[61]⟩, .string ⟨#[33, 61]⟩, .string ⟨#[62, 61]⟩, .string ⟨#[62]⟩, .string ⟨#[60, 61]⟩, .string ⟨#[60]⟩, .string ⟨#[]⟩]
theorem built87 : Tryz.prog.built 87 [(0, .string ⟨#[]⟩), (1, .string ⟨#[61]⟩), (2, .string ⟨#[33, 61]⟩), (3, .string ⟨#[62, 61]⟩), (4, .string ⟨#[62]⟩), (5, .string ⟨#[60, 61]⟩), (6, .string ⟨#[60]⟩), (7, .string ⟨#[]⟩)] = some signsA := by kernel_rfl
theorem builds87 {ops : Array Oper} {rest : List Oper} {o : Oper} {ac : Act} {w : World} {Q : Exit → Act → World → Prop} (hg : o.guard = none) (ho : o.op = .build 87 #[(0, .const (.string ⟨#[]⟩)), (1, .const (.string ⟨#[61]⟩)), (2, .const (.string ⟨#[33, 61]⟩)), (3, .const (.string ⟨#[62, 61]⟩)), (4, .const (.string ⟨#[62]⟩)), (5, .const (.string ⟨#[60, 61]⟩)), (6, .const (.string ⟨#[60]⟩)), (7, .const (.string ⟨#[]⟩))])
    (h : wpList Tryz.prog ops Q rest (ac.put o.dst (.agg signsA)) w) : wpList Tryz.prog ops Q (o :: rest) ac w := by
  have e : Tryz.prog.built 87 ((#[(0, .const (.string ⟨#[]⟩)), (1, .const (.string ⟨#[61]⟩)), (2, .const (.string ⟨#[33, 61]⟩)), (3, .const (.string ⟨#[62, 61]⟩)), (4, .const (.string ⟨#[62]⟩)), (5, .const (.string ⟨#[60, 61]⟩)), (6, .const (.string ⟨#[60]⟩)), (7, .const (.string ⟨#[]⟩))] : Array (Nat × Operand)).map fun (i, x) => (i, ac.eval x)).toList = some signsA := by
    refine Eq.trans (congrArg (Tryz.prog.built 87) ?_) built87
    simp [Act.eval]
  exact wpList_build hg 87 _ ho (by rw [e]; rfl) (by rw [e]; exact h)

set_option maxRecDepth 100000 in
set_option maxHeartbeats 4000000 in
theorem rsign_any (k : Int) (hk : 1 ≤ k ∧ k ≤ 7) (w : World) : Calls Tryz.prog 37 #[.int .i64 k] w fun e w' => e = .returned (.string (ofB (aheadL k))) ∧ Below w.heap.size w w' := by
  obtain rfl | rfl | rfl | rfl | rfl | rfl | rfl : k = 1 ∨ k = 2 ∨ k = 3 ∨ k = 4 ∨ k = 5 ∨ k = 6 ∨ k = 7 := by omega
  · have hix : ∀ W, (Instr.index 87 (.agg #[.string ⟨#[]⟩, .string ⟨#[61]⟩, .string ⟨#[33, 61]⟩, .string ⟨#[62, 61]⟩, .string ⟨#[62]⟩, .string ⟨#[60, 61]⟩, .string ⟨#[60]⟩, .string ⟨#[]⟩]) (.int .i64 1)).run Tryz.prog W = .ok (.string ⟨#[61]⟩) W := fun W => by kernel_rfl
    go_enter Tryz.func37, Tryz.ntmps37
    go_wp2_with (refine builds87 rfl rfl ?_; unfold signsA)
    go_ret
    exact ⟨rfl, Below.refl _ _⟩
  · have hix : ∀ W, (Instr.index 87 (.agg #[.string ⟨#[]⟩, .string ⟨#[61]⟩, .string ⟨#[33, 61]⟩, .string ⟨#[62, 61]⟩, .string ⟨#[62]⟩, .string ⟨#[60, 61]⟩, .string ⟨#[60]⟩, .string ⟨#[]⟩]) (.int .i64 2)).run Tryz.prog W = .ok (.string ⟨#[33, 61]⟩) W := fun W => by kernel_rfl
    go_enter Tryz.func37, Tryz.ntmps37
    go_wp2_with (refine builds87 rfl rfl ?_; unfold signsA)
    go_ret
    exact ⟨rfl, Below.refl _ _⟩
  · have hix : ∀ W, (Instr.index 87 (.agg #[.string ⟨#[]⟩, .string ⟨#[61]⟩, .string ⟨#[33, 61]⟩, .string ⟨#[62, 61]⟩, .string ⟨#[62]⟩, .string ⟨#[60, 61]⟩, .string ⟨#[60]⟩, .string ⟨#[]⟩]) (.int .i64 3)).run Tryz.prog W = .ok (.string ⟨#[62, 61]⟩) W := fun W => by kernel_rfl
    go_enter Tryz.func37, Tryz.ntmps37
    go_wp2_with (refine builds87 rfl rfl ?_; unfold signsA)
    go_ret
    exact ⟨rfl, Below.refl _ _⟩
  · have hix : ∀ W, (Instr.index 87 (.agg #[.string ⟨#[]⟩, .string ⟨#[61]⟩, .string ⟨#[33, 61]⟩, .string ⟨#[62, 61]⟩, .string ⟨#[62]⟩, .string ⟨#[60, 61]⟩, .string ⟨#[60]⟩, .string ⟨#[]⟩]) (.int .i64 4)).run Tryz.prog W = .ok (.string ⟨#[62]⟩) W := fun W => by kernel_rfl
    go_enter Tryz.func37, Tryz.ntmps37
    go_wp2_with (refine builds87 rfl rfl ?_; unfold signsA)
    go_ret
    exact ⟨rfl, Below.refl _ _⟩
  · have hix : ∀ W, (Instr.index 87 (.agg #[.string ⟨#[]⟩, .string ⟨#[61]⟩, .string ⟨#[33, 61]⟩, .string ⟨#[62, 61]⟩, .string ⟨#[62]⟩, .string ⟨#[60, 61]⟩, .string ⟨#[60]⟩, .string ⟨#[]⟩]) (.int .i64 5)).run Tryz.prog W = .ok (.string ⟨#[60, 61]⟩) W := fun W => by kernel_rfl
    go_enter Tryz.func37, Tryz.ntmps37
    go_wp2_with (refine builds87 rfl rfl ?_; unfold signsA)
    go_ret
    exact ⟨rfl, Below.refl _ _⟩
  · have hix : ∀ W, (Instr.index 87 (.agg #[.string ⟨#[]⟩, .string ⟨#[61]⟩, .string ⟨#[33, 61]⟩, .string ⟨#[62, 61]⟩, .string ⟨#[62]⟩, .string ⟨#[60, 61]⟩, .string ⟨#[60]⟩, .string ⟨#[]⟩]) (.int .i64 6)).run Tryz.prog W = .ok (.string ⟨#[60]⟩) W := fun W => by kernel_rfl
    go_enter Tryz.func37, Tryz.ntmps37
    go_wp2_with (refine builds87 rfl rfl ?_; unfold signsA)
    go_ret
    exact ⟨rfl, Below.refl _ _⟩
  · have hix : ∀ W, (Instr.index 87 (.agg #[.string ⟨#[]⟩, .string ⟨#[61]⟩, .string ⟨#[33, 61]⟩, .string ⟨#[62, 61]⟩, .string ⟨#[62]⟩, .string ⟨#[60, 61]⟩, .string ⟨#[60]⟩, .string ⟨#[]⟩]) (.int .i64 7)).run Tryz.prog W = .ok (.string ⟨#[]⟩) W := fun W => by kernel_rfl
    go_enter Tryz.func37, Tryz.ntmps37
    go_wp2_with (refine builds87 rfl rfl ?_; unfold signsA)
    go_ret
    exact ⟨rfl, Below.refl _ _⟩
theorem joinL_snoc (c : UInt8) (x : Str) : ∀ L : List Str, joinL c (L ++ [x]) = joinL c L ++ (if L = [] then [] else [c]) ++ x
  | [] => by simp [joinL]
  | [a] => by simp [joinL]
  | a :: b :: r => by
    have := joinL_snoc c x (b :: r)
    simp only [List.cons_append, joinL] at this ⊢
    rw [this]
    simp
theorem joinD_snoc (x : Str) : ∀ L : List Str, joinD (L ++ [x]) = joinD L ++ (if L = [] then [] else [124, 124]) ++ x
  | [] => by simp [joinD]
  | [a] => by simp [joinD]
  | a :: b :: r => by
    have := joinD_snoc x (b :: r)
    simp only [List.cons_append, joinD] at this ⊢
    rw [this]
    simp
theorem aheadl_len (k : Int) : (aheadL k).length ≤ 2 := by 
  unfold aheadL
  repeat' split
  all_goals decide
theorem behindl_len (k : Int) : (behindL k).length ≤ 2 := by
  unfold behindL
  split <;> decide
theorem ver_len {v : Ver} (h : v.ok = true) : v.text.length ≤ 40 := by
  obtain ⟨h1, h4⟩ := many_ok4 h
  have hd := dots_len v.num v.many.toNat (fun i hi => ok_num h (by have := ok_many h; omega))
  have h2 : (if v.tag.data.toList = [] then [] else 45 :: v.tag.data.toList : Str).length ≤ 7 := by
    by_cases ht : v.tag.data.toList = []
    · rw [if_pos ht]; decide
    · rw [if_neg ht]
      have := ok_tag h ht
      have e : v.tag.data.toList.length = v.tag.size := rfl
      rw [List.length_cons]
      omega
  have h3 : (if v.step = 0 then [] else Lib.decDigits v.step.toNat : Str).length ≤ 4 := by
    by_cases hz : v.step = 0
    · rw [if_pos hz]; decide
    · rw [if_neg hz]
      by_cases ht : v.tag.data.toList = []
      · exact absurd (ok_step0 h ht) hz
      · have hb := ok_stepb h ht
        exact nD_le v.step.toNat (by omega)
  unfold Ver.text
  rw [List.length_append, List.length_append]
  omega
theorem bd_len {b : Bd} (h : b.ok = true) : b.text.length ≤ 44 := by
  have h1 := aheadl_len b.kind
  have h2 := behindl_len b.kind
  have h3 := ver_len (bd_ok h).2.1
  unfold Bd.text
  rw [List.length_append, List.length_append]
  omega
def preT (ls : List (List Bd)) (k : Nat) : Str := joinD ((ls.take k).map rowT)
def rowP (l : List Bd) (j : Nat) : Str := (if l = [] then [42] else []) ++ joinL 44 ((l.take j).map Bd.text)
theorem rowP_all (l : List Bd) : rowP l l.length = rowT l := by
  unfold rowP rowT
  rw [List.take_length]
  by_cases h : l = []
  · subst h; rfl
  · rw [if_neg h, if_neg h]; rfl
theorem rowP_snoc {l : List Bd} {j : Nat} {b : Bd} (h : l[j]? = some b) : rowP l (j + 1) = rowP l j ++ (if j = 0 then [] else [44]) ++ b.text := by
  have hl : l ≠ [] := fun e => by rw [e] at h; simp at h
  have hj : j < l.length := (List.getElem?_eq_some_iff.1 h).1
  unfold rowP
  rw [if_neg hl, List.take_add_one, h, Option.toList_some, List.map_append, List.map_singleton, joinL_snoc]
  have e : ((l.take j).map Bd.text = []) ↔ j = 0 := by
    rw [List.map_eq_nil_iff, List.take_eq_nil_iff]
    simp [hl]
  by_cases hz : j = 0
  · rw [if_pos hz, if_pos (e.2 hz)]; simp
  · rw [if_neg hz, if_neg (fun h => hz (e.1 h))]; simp
theorem preT_snoc {ls : List (List Bd)} {k : Nat} {l : List Bd} (h : ls[k]? = some l) : preT ls (k + 1) = preT ls k ++ (if k = 0 then [] else [124, 124]) ++ rowT l := by
  have hl : ls ≠ [] := fun e => by rw [e] at h; simp at h
  unfold preT
  rw [List.take_add_one, h, Option.toList_some, List.map_append, List.map_singleton, joinD_snoc]
  have e : ((ls.take k).map rowT = []) ↔ k = 0 := by
    rw [List.map_eq_nil_iff, List.take_eq_nil_iff]
    simp [hl]
  by_cases hz : k = 0
  · rw [if_pos hz, if_pos (e.2 hz)]
  · rw [if_neg hz, if_neg (fun h => hz (e.1 h))]
theorem rowP_len {l : List Bd} (h : ∀ b ∈ l, b.ok = true) : ∀ j, j ≤ l.length → (rowP l j).length ≤ 1 + 45 * j
  | 0, _ => by unfold rowP; split <;> simp [joinL]
  | j + 1, hj => by
    have ih := rowP_len h j (by omega)
    have hb : l[j]? = some l[j] := List.getElem?_eq_getElem (by omega)
    rw [rowP_snoc hb, List.length_append, List.length_append]
    have h1 := bd_len (h _ (List.mem_of_getElem? hb))
    have h2 : (if j = 0 then [] else [44] : Str).length ≤ 1 := by split <;> decide
    omega
theorem preT_len {ls : List (List Bd)} (h : ∀ l ∈ ls, rowOk l = true) : ∀ k, k ≤ ls.length → (preT ls k).length ≤ 200 * k
  | 0, _ => by unfold preT; simp [joinD]
  | k + 1, hk => by
    have ih := preT_len h k (by omega)
    have hb : ls[k]? = some ls[k] := List.getElem?_eq_getElem (by omega)
    have hr := row_ok (h _ (List.mem_of_getElem? hb))
    have h1 := rowP_len hr.2 _ (Nat.le_refl _)
    rw [rowP_all] at h1
    rw [preT_snoc hb, List.length_append, List.length_append]
    have h2 : (if k = 0 then [] else [124, 124] : Str).length ≤ 2 := by split <;> decide
    omega
theorem cat_none (b : ByteArray) : b ++ (⟨#[]⟩ : ByteArray) = b := by apply ByteArray.ext; simp [ByteArray.data_append]

set_option maxRecDepth 100000 in
set_option maxHeartbeats 8000000 in
theorem rstext_any (ls : List (List Bd)) (x : Value) (w : World) (hx : RdR w x ls) (hk : spanOk ls = true) : Calls Tryz.prog 14 #[.agg #[x]] w fun e w' => e = .returned (.string (ofB (spanT ls))) ∧ Below w.heap.size w w' := by
  obtain ⟨a, c, rfl, hlc, hcm, hcell⟩ := hx.open
  have HC := Lib.hid hcell
  have HR := Lib.hid (span_ok hk)
  have h4 := (span_ok hk).1.2
  obtain ⟨n, hn⟩ : ∃ n, n = ls.length := ⟨_, rfl⟩
  rw [← hn] at hlc HC h4 ⊢
  have HN := Lib.hid hn
  unfold maxLen at hcm
  clear hn hcell hx hk
  obtain ⟨w1, hw1⟩ : ∃ q, q = w.alloc (.cells #[.slice a n c] 27) := ⟨_, rfl⟩
  have X1 : Hid (Box w1 w.heap.size 27 #[.slice a n c]) := Lib.hid (by rw [hw1]; exact box_new)
  have B1 : Hid (Below w.heap.size w w1) := Lib.hid (by rw [hw1]; exact below_new _ _)
  go_enter Tryz.func14, Tryz.ntmps14
  go_upto_region 1 with fail
  rw [← hw1]
  clear hw1
  have p0 := X1.out.cell (k := 0) rfl
  go_wp2_with fail
  clear p0 X1
  go_loopw [3, 11] (fun s i W => ∃ (k : Nat) (b : ByteArray), k ≤ n ∧ i = .int .i64 k ∧ s = .string b ∧ Hid (b = ofB (preT ls k)) ∧ Hid (Below w.heap.size w W)) (fun _ i _ => n - (Lib.intOf i).toNat)
  case atStart => exact ⟨0, ⟨#[]⟩, Nat.zero_le _, rfl, rfl, Lib.hid rfl, B1⟩
  case round =>
    clear B1
    obtain ⟨k, b, hk, rfl, rfl, HBT, HB⟩ := hrel
    obtain ⟨wo, hwo⟩ : ∃ q, q = wr := ⟨_, rfl⟩
    rw [← hwo] at HB ⊢
    clear hwo
    have hbs : b.size ≤ 1000 := by rw [HBT.out, size_ofB]; have := preT_len HR.out.2 k (by have := HN.out; omega); omega
    by_cases hlt : k < n
    · obtain ⟨l, hl⟩ : ∃ v, ls[k]? = some v := ⟨_, List.getElem?_eq_getElem (by have := HN.out; omega)⟩
      obtain ⟨g, o, rfl, hg, hc⟩ := HC.out (by omega)
      obtain ⟨y, hy, hr⟩ := hc k l hl
      have r0 := (HB.out.cell (p := ⟨g, _, none⟩) hg).trans hy
      have hrow := row_ok (HR.out.2 l (List.mem_of_getElem? hl))
      have HOKL := Lib.hid hrow.2
      have hl4 := hrow.1
      obtain ⟨a2, c2, rfl, hl2, hm2, hcell2⟩ := (hr.on HB.out).open
      obtain ⟨n2, hn2⟩ : ∃ q, q = l.length := ⟨_, rfl⟩
      rw [← hn2] at r0 hl2 hcell2 hl4
      have HN2 := Lib.hid hn2
      have HC2 := Lib.hid hcell2
      unfold maxLen at hm2
      have k1 : (k : Int) < (n : Int) := by omega
      have k2 : (0 : Int) ≤ (k : Int) := by omega
      have k4 : IntKind.i64.wrap ((k : Int) + 1) = (k : Int) + 1 := IntWalk.i64_in _ (by omega)
      have HPS := Lib.hid (preT_snoc hl)
      obtain ⟨b1, hb1⟩ : ∃ q, q = ofB (preT ls k ++ (if k = 0 then [] else [124, 124])) := ⟨_, rfl⟩
      have HB1 := Lib.hid hb1
      obtain ⟨b2, hb2⟩ : ∃ q, q = ofB (preT ls k ++ (if k = 0 then [] else [124, 124]) ++ (if l = [] then [42] else [])) := ⟨_, rfl⟩
      have HB2 := Lib.hid hb2
      have h1s : b1.size ≤ 1002 := by
        rw [hb1, cat_b, ← HBT.out]
        have : (ofB (if k = 0 then [] else [124, 124] : Str)).size ≤ 2 := by split <;> decide
        simp [ByteArray.size_append]
        omega
      have HL0 : Hid ((l = []) ↔ n2 = 0) := Lib.hid (by rw [hn2]; exact List.length_eq_zero_iff.symm)
      clear hl hc hy hr hn2 hcell2 hrow hb1 hb2
      go_upto_if 17 with fail
      go_cut [3] (fun s wx => s = .string b1 ∧ wx = wo)
      case first =>
        rename_i J2 K2 hJ hK2
        by_cases h0 : k = 0
        · have d0 : decide ((k : Int) > 0) = false := decide_eq_false (by omega)
          have e1 : b = b1 := by rw [HB1.out, if_pos h0, List.append_nil]; exact HBT.out
          go_wp2_with fail
          first | refine hK2 _ _ (Met.intro (hJ _ _ ?_)) | refine Met.intro (hJ _ _ ?_)
          (repeat apply Exists.intro)
          refine ⟨?_, rfl⟩
          exact ⟨by rw [e1], rfl⟩
        · have d0 : decide ((k : Int) > 0) = true := decide_eq_true (by omega)
          have d1 : (k : Int) > 0 := by omega
          have e1 : b ++ (⟨#[124, 124]⟩ : ByteArray) = b1 := by rw [HB1.out, if_neg h0, cat_b, ← HBT.out]; rfl
          have HE1 := Lib.hid e1
          clear e1
          go_wp2_with fail
          first | refine hK2 _ _ (Met.intro (hJ _ _ ?_)) | refine Met.intro (hJ _ _ ?_)
          (repeat apply Exists.intro)
          refine ⟨?_, rfl⟩
          exact ⟨by rw [← HE1.out], rfl⟩
      case rest =>
      obtain ⟨rfl, hwc⟩ := hcut
      replace hwc := hwc.symm
      subst hwc
      go_upto_if 22 with fail
      go_cut [3] (fun s wx => s = .string b2 ∧ wx = wo)
      case first =>
        rename_i J2 K2 hJ hK2
        by_cases h0 : n2 = 0
        · have d0 : ((n2 : Int) == 0) = true := by rw [h0]; rfl
          have HE1 : Hid (b1 ++ (⟨#[42]⟩ : ByteArray) = b2) := Lib.hid (by rw [HB2.out, if_pos (HL0.out.2 h0), cat_b, ← HB1.out]; rfl)
          go_wp2_with fail
          first | refine hK2 _ _ (Met.intro (hJ _ _ ?_)) | refine Met.intro (hJ _ _ ?_)
          (repeat apply Exists.intro)
          refine ⟨?_, rfl⟩
          exact ⟨by rw [← HE1.out], rfl⟩
        · have d0 : ((n2 : Int) == 0) = false := by simp [h0]
          have HE1 : Hid (b1 = b2) := Lib.hid (by rw [HB2.out, if_neg (fun h => h0 (HL0.out.1 h)), List.append_nil]; exact HB1.out)
          go_wp2_with fail
          first | refine hK2 _ _ (Met.intro (hJ _ _ ?_)) | refine Met.intro (hJ _ _ ?_)
          (repeat apply Exists.intro)
          refine ⟨?_, rfl⟩
          exact ⟨by rw [← HE1.out], rfl⟩
      case rest =>
      obtain ⟨rfl, hwc⟩ := hcut
      replace hwc := hwc.symm
      subst hwc
      go_wp2_with fail
      go_loopw [3, 27] (fun s i W => ∃ (j : Nat) (bb : ByteArray), j ≤ n2 ∧ i = .int .i64 j ∧ s = .string bb ∧ Hid (bb = ofB (preT ls k ++ (if k = 0 then [] else [124, 124]) ++ rowP l j)) ∧ Hid (Below wo.heap.size wo W)) (fun _ i _ => n2 - (Lib.intOf i).toNat)
      case atStart => exact ⟨0, b2, Nat.zero_le _, rfl, rfl, Lib.hid (by rw [HB2.out]; unfold rowP; simp [joinL]), Lib.hid (Below.refl _ _)⟩
      case round =>
        clear r0
        obtain ⟨j, bb, hj, rfl, rfl, HBB, HW⟩ := hrel
        obtain ⟨wi, hwi⟩ : ∃ q, q = wr := ⟨_, rfl⟩
        rw [← hwi] at HW ⊢
        clear hwi
        have hbbs : bb.size ≤ 2000 := by
          rw [HBB.out, cat_b, ← HB1.out]
          have := rowP_len HOKL.out j (by have := HN2.out; omega)
          simp [ByteArray.size_append, size_ofB]
          omega
        by_cases jlt : j < n2
        · obtain ⟨bd, hbd⟩ : ∃ v, l[j]? = some v := ⟨_, List.getElem?_eq_getElem (by have := HN2.out; omega)⟩
          obtain ⟨g2, o2, rfl, hg2, hc2⟩ := HC2.out (by omega)
          obtain ⟨q0, q1, q2, q3, q4, q5, q6, q7⟩ := (hc2 j bd hbd).on hg2 HW.out
          have j1 : (j : Int) < (n2 : Int) := by omega
          have j2 : (0 : Int) ≤ (j : Int) := by omega
          have j4 : IntKind.i64.wrap ((j : Int) + 1) = (j : Int) + 1 := IntWalk.i64_in _ (by omega)
          have HOKB := Lib.hid (bd_ok (HOKL.out bd (List.mem_of_getElem? hbd)))
          have HRP := Lib.hid (rowP_snoc hbd)
          have CS := Lib.hid (fun W => rsign_any bd.kind HOKB.out.1 W)
          have CT := Lib.hid (fun W => rtext_any bd.ver HOKB.out.2.1 W)
          have hs1 : (ofB (aheadL bd.kind)).size ≤ 2 := aheadl_len _
          have hs2 : (ofB bd.ver.text).size ≤ 40 := ver_len HOKB.out.2.1
          obtain ⟨b3, hb3⟩ : ∃ q, q = bb ++ (if j = 0 then ⟨#[]⟩ else ⟨#[44]⟩ : ByteArray) := ⟨_, rfl⟩
          have HB3 := Lib.hid hb3
          have h3s : b3.size ≤ 2001 := by
            rw [hb3]
            have : ((if j = 0 then ⟨#[]⟩ else ⟨#[44]⟩ : ByteArray)).size ≤ 1 := by split <;> decide
            simp [ByteArray.size_append]
            omega
          have hq1 : ¬ (9223372036854775807 < (ofB (aheadL bd.kind)).size + (ofB bd.ver.text).size) := by omega
          have hq2 : ¬ (9223372036854775807 < b3.size + (ofB (aheadL bd.kind) ++ ofB bd.ver.text).size) := by
            rw [ByteArray.size_append]
            omega
          have hq3 : ¬ (9223372036854775807 < b3.size + ((ofB (aheadL bd.kind)).size + (ofB bd.ver.text).size)) := by omega
          obtain ⟨b4, hb4⟩ : ∃ q, q = b3 ++ (ofB (aheadL bd.kind) ++ ofB bd.ver.text) := ⟨_, rfl⟩
          have HS3 := Lib.hid hb4
          have h4s : b4.size ≤ 2100 := by
            rw [hb4]
            simp [ByteArray.size_append]
            omega
          have HFIN : Hid (ofB (preT ls k ++ (if k = 0 then [] else [124, 124]) ++ rowP l (j + 1)) = b4 ++ ofB (behindL bd.kind)) := Lib.hid (by
            rw [HRP.out, hb4, hb3, HBB.out]
            unfold Bd.text
            simp only [cat_b]
            have e : (if j = 0 then ⟨#[]⟩ else ⟨#[44]⟩ : ByteArray) = ofB (if j = 0 then [] else [44]) := by split <;> rfl
            rw [e]
            apply ByteArray.ext
            simp [ByteArray.data_append, Array.append_assoc])
          have Y0 : Hid (Box (wi.alloc (.cells Bd.zero.arr 57)) wi.heap.size 57 Bd.zero.arr) := Lib.hid box_new
          obtain ⟨w2, hw2⟩ : ∃ q, q = (wi.alloc (.cells Bd.zero.arr 57)).setRow wi.heap.size bd.arr := ⟨_, rfl⟩
          have YB : Hid (Box w2 wi.heap.size 57 bd.arr) := Lib.hid (by rw [hw2]; exact Y0.out.row _)
          have BW : Hid (Below wo.heap.size wo w2) := Lib.hid (by rw [hw2]; exact below_row (HW.out.alloc HW.out.size _) HW.out.size _)
          clear hbd hc2 hb3 hb4
          go_upto_region 12 with (first
            | (with_reducible refine wpList_zero rfl 57 rfl Bd.zero.arr zero57 ?_)
            | (refine wpList_store_row rfl 57 (.tmp 7) (.tmp 31) rfl wi.heap.size bd.arr rfl rfl 57 _ Y0.out (info57 _) rfl (barr_one _) ?_))
          rw [← hw2]
          (try go_frame)
          obtain ⟨g7, hg7⟩ : ∃ q, q = wi.heap.size := ⟨_, rfl⟩
          rw [← hg7] at YB ⊢
          clear hw2 hg7 Y0 q0 q1 q2 q3 q4 q5 q6 q7 HW
          go_upto_if 33 with fail
          go_cut [3] (fun s wx => s = .string b3 ∧ wx = w2)
          case first =>
            rename_i J2 K2 hJ hK2
            by_cases h0 : j = 0
            · have d0 : decide ((j : Int) > 0) = false := decide_eq_false (by omega)
              have HE1 : Hid (bb = b3) := Lib.hid (by rw [HB3.out, if_pos h0]; exact (cat_none _).symm)
              go_wp2_with fail
              first | refine hK2 _ _ (Met.intro (hJ _ _ ?_)) | refine Met.intro (hJ _ _ ?_)
              (repeat apply Exists.intro)
              refine ⟨?_, rfl⟩
              exact ⟨by rw [← HE1.out], rfl⟩
            · have d0 : decide ((j : Int) > 0) = true := decide_eq_true (by omega)
              have d1 : (j : Int) > 0 := by omega
              have HE1 : Hid (bb ++ (⟨#[44]⟩ : ByteArray) = b3) := Lib.hid (by rw [HB3.out, if_neg h0])
              go_wp2_with fail
              first | refine hK2 _ _ (Met.intro (hJ _ _ ?_)) | refine Met.intro (hJ _ _ ?_)
              (repeat apply Exists.intro)
              refine ⟨?_, rfl⟩
              exact ⟨by rw [← HE1.out], rfl⟩
          case rest =>
          obtain ⟨rfl, hwc⟩ := hcut
          replace hwc := hwc.symm
          subst hwc
          go_upto_region 14 with fail
          go_cut [3] (fun s wx => s = .string b4 ∧ Hid (Below w2.heap.size w2 wx))
          case first =>
            rename_i J2 K2 hJ hK2
            refine wp_region_held_drew (S := fun w' => Below w2.heap.size w2 w') (by kernel_rfl) (Below.refl _ _).drew (fun hHeld => ?_)
            refine wpAnyH_take (i := 0) (oi := { dst := some 36, op := Op.move (Operand.tmp 3), type := 9, pos := "ref.go:64", after := #[], guard := none }) (v := ?_) rfl (by kernel_rfl) (by kernel_rfl) (by kernel_rfl) (fun _ _ _ h => h) (Or.inl ⟨by rfl, ?_⟩) hHeld ?_
            rotate_left
            · (intro w hSw; go_simp; try with_reducible rfl)
            (try simp only [Act.put, List.setIfInBounds_toArray, List.set_cons_zero, List.set_cons_succ])
            refine wpAnyH_take (i := 1) (oi := { dst := some 37, op := Op.fieldAddr 57 (Operand.tmp 7) 0, type := 0, pos := "ref.go:64", after := #[], guard := none }) (v := ?_) rfl (by kernel_rfl) (by kernel_rfl) (by kernel_rfl) (fun _ _ _ h => h) (Or.inl ⟨by rfl, ?_⟩) hHeld ?_
            rotate_left
            · (intro w hSw; go_simp; try with_reducible rfl)
            (try simp only [Act.put, List.setIfInBounds_toArray, List.set_cons_zero, List.set_cons_succ])
            refine wpAnyH_take (i := 2) (oi := { dst := some 38, op := Op.load 3 (Operand.tmp 37), type := 3, pos := "ref.go:64", after := #[{ on := 1, ground := Ground.data }], guard := none }) (v := ?_) rfl (by kernel_rfl) (by kernel_rfl) (by kernel_rfl) (fun _ _ _ h => h) (Or.inl ⟨by rfl, ?_⟩) hHeld ?_
            rotate_left
            · (intro w hSw; obtain ⟨c0, c1, c2, c3, c4, c5, c6, c7⟩ := (YB.out.on hSw).bd; go_simp; try with_reducible rfl)
            (try simp only [Act.put, List.setIfInBounds_toArray, List.set_cons_zero, List.set_cons_succ])
            refine wpAnyH_take (i := 4) (oi := { dst := some 40, op := Op.fieldAddr 57 (Operand.tmp 7) 1, type := 0, pos := "ref.go:64", after := #[], guard := none }) (v := ?_) rfl (by kernel_rfl) (by kernel_rfl) (by kernel_rfl) (fun _ _ _ h => h) (Or.inl ⟨by rfl, ?_⟩) hHeld ?_
            rotate_left
            · (intro w hSw; go_simp; try with_reducible rfl)
            (try simp only [Act.put, List.setIfInBounds_toArray, List.set_cons_zero, List.set_cons_succ])
            refine wpAnyH_take (i := 5) (oi := { dst := some 41, op := Op.load 45 (Operand.tmp 40), type := 45, pos := "ref.go:64", after := #[{ on := 4, ground := Ground.data }], guard := none }) (v := ?_) rfl (by kernel_rfl) (by kernel_rfl) (by kernel_rfl) (fun _ _ _ h => h) (Or.inl ⟨by rfl, ?_⟩) hHeld ?_
            rotate_left
            · (intro w hSw; obtain ⟨c0, c1, c2, c3, c4, c5, c6, c7⟩ := (YB.out.on hSw).bd; go_simp; try with_reducible rfl)
            (try simp only [Act.put, List.setIfInBounds_toArray, List.set_cons_zero, List.set_cons_succ])
            refine wpAnyH_ready (rs := [3]) (by kernel_rfl) (by simp) (AllReadyH.cons (o := { dst := some 39, op := Op.call { callee := Callee.value (Operand.func 37), args := #[Operand.tmp 38], argTypes := #[3] }, type := 9, pos := "ref.go:64", after := #[{ on := 2, ground := Ground.data }], guard := none }) rfl (fun K hK => ?_) AllReadyH.nil)
            · go_simp
              refine (CS.out _).mono ?_
              rintro e wa ⟨rfl, hba⟩
              refine hK.out _ _ (bch hHeld hba) (fun hHeld => ?_)
              clear hba
              (try simp only [Act.put, List.setIfInBounds_toArray, List.set_cons_zero, List.set_cons_succ])
              refine wpAnyH_ready (rs := [6]) (by kernel_rfl) (by simp) (AllReadyH.cons (o := { dst := some 42, op := Op.call { callee := Callee.value (Operand.func 38), args := #[Operand.tmp 41], argTypes := #[45] }, type := 9, pos := "ref.go:64", after := #[{ on := 5, ground := Ground.data }, { on := 3, ground := Ground.chain }], guard := none }) rfl (fun K hK => ?_) AllReadyH.nil)
              · go_simp
                refine (CT.out _).mono ?_
                rintro e wa ⟨rfl, hba⟩
                refine hK.out _ _ (bch hHeld hba) (fun hHeld => ?_)
                clear hba
                (try simp only [Act.put, List.setIfInBounds_toArray, List.set_cons_zero, List.set_cons_succ])
                refine wpAnyH_take (i := 7) (oi := { dst := some 43, op := Op.binOp BinOp.add 9 (Operand.tmp 39) (Operand.tmp 42) 9, type := 9, pos := "ref.go:64", after := #[{ on := 3, ground := Ground.data }, { on := 6, ground := Ground.data }], guard := none }) (v := ?_) rfl (by kernel_rfl) (by kernel_rfl) (by kernel_rfl) (fun _ _ _ h => h) (Or.inl ⟨by rfl, ?_⟩) hHeld ?_
                rotate_left
                · (intro w hSw; have hq := hq1; go_simp; try with_reducible rfl)
                (try simp only [Act.put, List.setIfInBounds_toArray, List.set_cons_zero, List.set_cons_succ])
                refine wpAnyH_take (i := 8) (oi := { dst := some 44, op := Op.binOp BinOp.add 9 (Operand.tmp 36) (Operand.tmp 43) 9, type := 9, pos := "ref.go:64", after := #[{ on := 0, ground := Ground.data }, { on := 7, ground := Ground.data }], guard := none }) (v := ?_) rfl (by kernel_rfl) (by kernel_rfl) (by kernel_rfl) (fun _ _ _ h => h) (Or.inl ⟨by rfl, ?_⟩) hHeld ?_
                rotate_left
                · (intro w hSw; have hq := hq2; have hqq := hq3; go_simp; try with_reducible rfl)
                (try simp only [Act.put, List.setIfInBounds_toArray, List.set_cons_zero, List.set_cons_succ])
                refine wpAnyH_take (i := 9) (oi := { dst := some 3, op := Op.assign (Operand.tmp 44), type := 9, pos := "ref.go:64", after := #[{ on := 8, ground := Ground.data }, { on := 6, ground := Ground.chain }, { on := 0, ground := Ground.phase }, { on := 1, ground := Ground.phase }, { on := 2, ground := Ground.phase }, { on := 3, ground := Ground.phase }, { on := 4, ground := Ground.phase }, { on := 5, ground := Ground.phase }, { on := 6, ground := Ground.phase }, { on := 7, ground := Ground.phase }, { on := 8, ground := Ground.phase }], guard := none }) (v := ?_) rfl (by kernel_rfl) (by kernel_rfl) (by kernel_rfl) (fun _ _ _ h => h) (Or.inl ⟨by rfl, ?_⟩) hHeld ?_
                rotate_left
                · (intro w hSw; go_simp; try with_reducible rfl)
                (try simp only [Act.put, List.setIfInBounds_toArray, List.set_cons_zero, List.set_cons_succ])
                refine wpAnyH_done (by kernel_rfl) ?_ _
                first | refine hK2 _ _ (Met.intro (hJ _ _ ?_)) | refine Met.intro (hJ _ _ ?_)
                (repeat apply Exists.intro)
                refine ⟨?_, rfl⟩
                exact ⟨(by rw [HS3.out]), Lib.hid hHeld⟩
          case rest =>
          obtain ⟨rfl, HD⟩ := hcut
          obtain ⟨wx, hwx⟩ : ∃ q, q = wc := ⟨_, rfl⟩
          rw [← hwx] at HD ⊢
          obtain ⟨c0, c1, c2, c3, c4, c5, c6, c7⟩ := (YB.out.on HD.out).bd
          have BX := Lib.hid (bch BW.out HD.out)
          clear hwx HD BW YB CS CT
          by_cases h7 : bd.kind = 7
          · have d7 : (bd.kind == 7) = true := by rw [h7]; rfl
            have HF2 : Hid (b4 ++ (⟨#[46, 42]⟩ : ByteArray) = ofB (preT ls k ++ (if k = 0 then [] else [124, 124]) ++ rowP l (j + 1))) := Lib.hid (by rw [HFIN.out, h7]; rfl)
            clear h7
            go_wp2_with fail
            go_roundw
            case rel => exact ⟨j + 1, _, jlt, by go_num, rfl, HF2, BX⟩
            case measure => simp [Lib.intOf]; omega
          · have d7 : (bd.kind == 7) = false := by simp [h7]
            have HF2 : Hid (b4 = ofB (preT ls k ++ (if k = 0 then [] else [124, 124]) ++ rowP l (j + 1))) := Lib.hid (by
              rw [HFIN.out]
              unfold behindL
              rw [if_neg h7]
              exact (cat_none _).symm)
            clear h7
            go_wp2_with fail
            go_roundw
            case rel => exact ⟨j + 1, _, jlt, by go_num, rfl, HF2, BX⟩
            case measure => simp [Lib.intOf]; omega
        · have j1 : ¬ ((j : Int) < (n2 : Int)) := by omega
          have HF2 : Hid (bb = ofB (preT ls (k + 1))) := Lib.hid (by
            have e : j = l.length := by have := HN2.out; omega
            rw [HPS.out, ← rowP_all, ← e]
            exact HBB.out)
          go_wp2_with fail
          go_roundw
          case rel => exact ⟨k + 1, _, hlt, by go_num, rfl, HF2, Lib.hid (bch HB.out HW.out)⟩
          case measure => simp [Lib.intOf]; omega
    · have k1 : ¬ ((k : Int) < (n : Int)) := by omega
      have HE : Hid (b = ofB (spanT ls)) := Lib.hid (by
        rw [HBT.out]
        unfold preT spanT
        rw [List.take_of_length_le (by have := HN.out; omega)])
      go_wp2_with fail
      go_ret
      exact ⟨by rw [HE.out]; rfl, HB.out⟩
end Go.Proofs.YtlfehjjnepiljaaGreatDoor
