/- Proved here: readRow of package span, wherever the frames stand. | Proved here: the law of Seq for an iterator that wants a fact of the world all the while. | Proved here: strings.SplitSeq at "||" hands over the pieces of a text, one by one, wherever the library's number of bytes stands. | Proved here: readRows and Read of package span, for texts of few bytes, wherever the frames and the library's number of bytes stand. | Proved here: Read of package span, for texts of few bytes, wherever the frames and the library's number of bytes stand. | Proved here: sayRow of package span, at a row of bounds that may be: its text. | Proved here: say and Text of package span, wherever the frames and the table of the powers of ten stand. -/
import Derived.Shelf.Strings.Search3
import Derived.Maps.AppendAt
import Derived.Lib.Join
import Derived.Test.YtlfehjjnepiljaaGreatDoorM5
import Derived.Test.YtlfehjjnepiljaaGreatDoorM2
import Derived.Test.YtlfehjjnepiljaaGreatDoorM3
import Derived.Test.YtlfehjjnepiljaaGreatDoorM1
namespace Go.Proofs.YtlfehjjnepiljaaGreatDoor
open Go.RowKit Go.Shelf
attribute [local go_sem] Oper.semAt_some

def rI (w : World) (pre : List ByteArray) (W : World) : Prop :=
  ∃ (l : List Bd) (x : Value), (RowIs l pre ∧ l.length ≤ 4) ∧ Boxed W w.heap.size 55 (.slice none 0 0) ∧ Boxed W (w.heap.size + 1) 4 (.bool false) ∧ Boxed W (w.heap.size + 1 + 1) 55 x ∧ W.ownsRow (w.heap.size + 8) 57 8 x l.length (flatB l) ∧ Below w.heap.size w W
def rX (w : World) (s : ByteArray) (_ : List ByteArray) (W : World) : Prop :=
  (∀ m, rowOk m = true → rowT m ≠ s.data.toList) ∧ Boxed W w.heap.size 55 (.slice none 0 0) ∧ Boxed W (w.heap.size + 1) 4 (.bool false) ∧ Below w.heap.size w W
theorem own_apart {W W' : World} {B s n : Nat} {e : TypeId} {x : Value} {xs : List Value} {row : Option Nat} (h : W.ownsRow B e s x n xs) (hg : W.grownBy W' row) (hr : ∀ k, row = some k → k < B) : W'.ownsRow B e s x n xs := by
  refine h.kept hg ?_
  cases ho : x.ownBlock with
  | none => exact .inl rfl
  | some j => exact .inr (fun e2 => by have h1 := (h.lt j ho).1; have h2 := hr j e2.symm; omega)
theorem rI_steady (w : World) : Steady (w.heap.size + 3) (w.heap.size + 3 + 5) (rI w) := by
  rintro pre X Y row ⟨l, x, h0, h1, h2, h3, h4, hb⟩ hg hr
  have far : ∀ k, k < w.heap.size + 3 → some k ≠ row := fun k hk e => by have := (hr k e.symm).1; omega
  exact ⟨l, x, h0, h1.kept hg (far _ (by omega)), h2.kept hg (far _ (by omega)), h3.kept hg (far _ (by omega)), own_apart h4 hg (fun k e => by have := (hr k e).2; omega), hb.grown hg hb.size (fun k e => by have := (hr k e).1; omega)⟩
theorem rX_steady (w : World) (s : ByteArray) : Steady (w.heap.size + 3) (w.heap.size + 3 + 5) (rX w s) := by
  rintro pre X Y row ⟨h0, h1, h2, hb⟩ hg hr
  have far : ∀ k, k < w.heap.size + 3 → some k ≠ row := fun k hk e => by have := (hr k e.symm).1; omega
  exact ⟨h0, h1.kept hg (far _ (by omega)), h2.kept hg (far _ (by omega)), hb.grown hg hb.size (fun k e => by have := (hr k e).1; omega)⟩
/-- Where the loop begins. -/
def rW (s : ByteArray) (w : World) : World :=
  (((((w.alloc (.cells #[.slice none 0 0] 55)).alloc (.cells #[.bool false] 4)).alloc (.cells #[.slice none 0 0] 55)).alloc (.cells #[.string s] 9)).alloc (.cells #[.string ⟨#[44]⟩] 9)).alloc (.cells #[.int .i64 0] 3)
theorem rW_boxes (s : ByteArray) (w : World) : rI w [] (rW s w) ∧ Boxed (rW s w) (w.heap.size + 3) 9 (.string s) ∧ Boxed (rW s w) (w.heap.size + 3 + 1) 9 (.string ⟨#[44]⟩) ∧ Boxed (rW s w) (w.heap.size + 3 + 1 + 1) 3 (.int .i64 0) ∧ (rW s w).heap.size = w.heap.size + 3 + 3 := by
  unfold rW
  have b0 := ((((((Boxed.new w 55 (.slice none 0 0)).alloc (.cells #[.bool false] 4)).alloc (.cells #[.slice none 0 0] 55)).alloc (.cells #[.string s] 9)).alloc (.cells #[.string ⟨#[44]⟩] 9)).alloc (.cells #[.int .i64 0] 3))
  have b1 := (((((Boxed.new (w.alloc (.cells #[.slice none 0 0] 55)) 4 (.bool false)).alloc (.cells #[.slice none 0 0] 55)).alloc (.cells #[.string s] 9)).alloc (.cells #[.string ⟨#[44]⟩] 9)).alloc (.cells #[.int .i64 0] 3))
  have b2 := ((((Boxed.new ((w.alloc (.cells #[.slice none 0 0] 55)).alloc (.cells #[.bool false] 4)) 55 (.slice none 0 0)).alloc (.cells #[.string s] 9)).alloc (.cells #[.string ⟨#[44]⟩] 9)).alloc (.cells #[.int .i64 0] 3))
  have b3 := (((Boxed.new (((w.alloc (.cells #[.slice none 0 0] 55)).alloc (.cells #[.bool false] 4)).alloc (.cells #[.slice none 0 0] 55)) 9 (.string s)).alloc (.cells #[.string ⟨#[44]⟩] 9)).alloc (.cells #[.int .i64 0] 3))
  have b4 := ((Boxed.new ((((w.alloc (.cells #[.slice none 0 0] 55)).alloc (.cells #[.bool false] 4)).alloc (.cells #[.slice none 0 0] 55)).alloc (.cells #[.string s] 9)) 9 (.string ⟨#[44]⟩)).alloc (.cells #[.int .i64 0] 3))
  have b5 := Boxed.new (((((w.alloc (.cells #[.slice none 0 0] 55)).alloc (.cells #[.bool false] 4)).alloc (.cells #[.slice none 0 0] 55)).alloc (.cells #[.string s] 9)).alloc (.cells #[.string ⟨#[44]⟩] 9)) 3 (.int .i64 0)
  simp only [World.size_alloc] at b1 b2 b3 b4 b5
  have hb : Below w.heap.size w (rW s w) := by
    unfold rW
    refine ((((((Below.refl _ w).alloc (Nat.le_refl _) _).alloc ?_ _).alloc ?_ _).alloc ?_ _).alloc ?_ _).alloc ?_ _ <;> (simp only [World.size_alloc]; omega)
  exact ⟨⟨[], .slice none 0 0, ⟨RowIs.nil, by simp⟩, b0, b1, b2, World.ownsRow_nil _ _ _ _, hb⟩, b3, b4, b5, by simp only [World.size_alloc]⟩
theorem rI_on {w : World} {pre : List ByteArray} {X Y : World} (h : rI w pre X) (hb : Below X.heap.size X Y) : rI w pre Y := by
  obtain ⟨l, x, h0, h1, h2, h3, h4, hbb⟩ := h
  exact ⟨l, x, h0, boxed_same h1 (hb.block _ h1.lt), boxed_same h2 (hb.block _ h2.lt), boxed_same h3 (hb.block _ h3.lt), owns_below h4 hb, bch hbb hb⟩
def RowRd (s : Str) (w : World) (e : Ending) (w' : World) : Prop :=
  ∃ (x : Value) (l : List Bd) (o : Bool), e = .returned (.tuple #[x, .bool o]) ∧ (o = true → rowOk l = true ∧ rowT l = s ∧ w'.ownsRow w.heap.size 57 8 x l.length (flatB l)) ∧ (o = false → x = .slice none 0 0 ∧ ∀ m, rowOk m = true → rowT m ≠ s) ∧ Below w.heap.size w w'

theorem res_row (W : World) (g : Nat) (t : TypeId) (x : Value) (o : Bool) (h2 : Boxed W g t x) (h3 : Boxed W (g + 1) 4 (.bool o)) (hx : ∃ a n c, x = .slice a n c) (fn : Func) (tmps : Array Value) (ee : fn.results = #[.cell 2 t, .cell 3 4]) (hu : t = 55 ∨ t = 25) (t2 : tmps.getD 2 undef = .pointer (some ⟨g, 0, none⟩)) (t3 : tmps.getD 3 undef = .pointer (some ⟨g + 1, 0, none⟩)) : (results fn tmps).run Tryz.prog W = .ok (.tuple #[x, .bool o]) W := by
  have c0 := h2.cell
  have c1 := h3.cell
  obtain ⟨a, n, c, rfl⟩ := hx
  rw [Array.getD_eq_getD_getElem?] at t2 t3
  unfold results
  rw [ee]
  rcases hu with rfl | rfl <;> simp [go_sem, t2, t3, c0, c1]
theorem news8 (X : World) (b : Bd) (h : Nat) (Y : World) (hY : Y = X.alloc (.cells b.arr 57)) (hh : h = X.heap.size) : ∀ j u, b.cells[j]? = some u → Y.cell? ((⟨h, 0, none⟩ : Addr).add j) = some u := by
  intro j u hu
  subst hY hh
  rw [add_to, Nat.zero_add, World.cell?_alloc_new]
  show b.arr[j]? = some u
  rw [← Array.getElem?_toList]
  exact hu

theorem split_len (c : UInt8) : ∀ (l x : Str), x ∈ splitL c l → x.length ≤ l.length := by
  intro l
  induction l with
  | nil => intro x hx; simp [splitL] at hx; subst hx; simp
  | cons y r ih =>
    intro x hx
    unfold splitL at hx
    split at hx
    · rcases List.mem_cons.1 hx with rfl | hx
      · simp
      · have := ih x hx
        simp
        omega
    · split at hx
      · obtain rfl := List.mem_singleton.1 hx
        simp
      · rename_i h t e
        rcases List.mem_cons.1 hx with rfl | hx
        · have := ih h (by rw [e]; simp)
          simp
          omega
        · have := ih x (by rw [e]; simp [hx])
          simp
          omega
theorem piece_size {c : UInt8} {s x : ByteArray} {pre : List ByteArray} (h : pre ++ [x] <+: pieces c s) : x.size ≤ s.size := by
  obtain ⟨t, ht⟩ := h
  have h1 : x.data.toList ∈ splitL c s.data.toList := by
    rw [← pieces_list, ← ht]
    simp
  exact split_len c _ _ h1
theorem own_base {w : World} {B B' s n : Nat} {e : TypeId} {x : Value} {xs : List Value} (h : w.ownsRow B e s x n xs) (hB : B' ≤ B) : w.ownsRow B' e s x n xs := by
  refine ⟨h.1, h.2.imp id fun ⟨g, cap, cur, hv, hg, r⟩ => ⟨g, cap, cur, hv, by omega, r⟩⟩
theorem ownF_form {w : World} {B s n : Nat} {e : TypeId} {x : Value} {xs : List Value} (h : w.ownsRow B e s x n xs) : ∃ a c, x = .slice a n c := by
  rcases h.2 with ⟨rfl, h0⟩ | ⟨g, cap, _, rfl, _⟩
  · exact ⟨none, 0, by rw [h0]⟩
  · exact ⟨_, _, rfl⟩
/-- Both results are told. -/
theorem row_stops {w W : World} {t : TypeId} {g lo hi : Nat} (hg : g = w.heap.size) (d1 : Boxed W g t (.slice none 0 0)) (d2 : Boxed W (g + 1) 4 (.bool false)) (hb : Below w.heap.size w W) (hlo : g + 1 < lo) (hhi : hi ≤ W.heap.size) (o : Obj) :
    Fix lo hi W (((W.alloc o).setCell ⟨g, 0, none⟩ (.slice none 0 0)).setCell ⟨g + 1, 0, none⟩ (.bool false)) ∧ Boxed (((W.alloc o).setCell ⟨g, 0, none⟩ (.slice none 0 0)).setCell ⟨g + 1, 0, none⟩ (.bool false)) g t (.slice none 0 0) ∧ Boxed (((W.alloc o).setCell ⟨g, 0, none⟩ (.slice none 0 0)).setCell ⟨g + 1, 0, none⟩ (.bool false)) (g + 1) 4 (.bool false) ∧ Below w.heap.size w (((W.alloc o).setCell ⟨g, 0, none⟩ (.slice none 0 0)).setCell ⟨g + 1, 0, none⟩ (.bool false)) := by
  refine ⟨?_, ?_, ?_, ?_⟩
  · exact ((Fix.below (below_new W o) hhi).cell (by omega) _).cell hlo _
  · exact ((d1.alloc o).set _).other (by omega) _
  · exact ((d2.alloc o).other (by omega) _).set _
  · subst hg
    exact ((hb.alloc hb.size o).setCell (p := ⟨w.heap.size, 0, none⟩) (Nat.le_refl _) _).setCell (p := ⟨w.heap.size + 1, 0, none⟩) (by show w.heap.size ≤ w.heap.size + 1; omega) _

set_option maxRecDepth 100000 in
set_option maxHeartbeats 8000000 in
theorem row_any (s : ByteArray) (hs : s.size ≤ 140737488355328) (h42 : s.data.toList ≠ [42]) (w : World) (hF : FrW w) : Calls Tryz.prog 65 #[.string s] w (RowRd s.data.toList w) := by
  have HBD : Hid (∀ (x : ByteArray) (W : World), x.size ≤ 140737488355328 → FrW W → Calls Tryz.prog 86 #[.string x] W (BoundR x.data.toList W)) := Lib.hid (fun x W hx hW => bound_any x hx W hW)
  have H42 := Lib.hid h42
  have HF := Lib.hid hF
  have q42 : (s.toList == [42]) = false := by rw [beq_eq_false_iff_ne, Lib.toList_data]; exact h42
  clear h42 hF
  refine (callsIn_wide (n := 5)).1 ?_
  refine callsIn_of_wp_marks Tryz.func65 rfl trivial ?_ rfl
  simp only [Tryz.ntmps65, List.size_toArray, List.length_cons, List.length_nil, Nat.reduceAdd, Nat.reduceSub, Array.replicate_succ, Array.replicate_zero, List.push_toArray, List.append_toArray, List.nil_append, List.cons_append]
  gi_wp2_with (refine ⟨trivial, ?_⟩; gi_at_call 64; refine (callsIn_wide.2 (splitseq_any s ⟨#[44]⟩ _)).mono ?_; rintro e w' ⟨rfl, rfl⟩)
  obtain ⟨h0, b5, b6, b7, hsz⟩ := rW_boxes s w
  obtain ⟨W0, hW0⟩ : ∃ W0, rW s w = W0 := ⟨_, rfl⟩
  have hW0' := hW0
  unfold rW at hW0'
  rw [hW0']
  rw [hW0] at h0 b5 b6 b7 hsz
  clear hW0 hW0' q42
  refine range_hands rfl (by omega) (gf := 98) (lb := #[.pointer (some ⟨w.heap.size + 3 + 1, 0, none⟩), .pointer (some ⟨w.heap.size + 3, 0, none⟩), .pointer (some ⟨w.heap.size + 3 + 1 + 1, 0, none⟩)]) rfl trivial (enters_of Tryz.func98 (by kernel_rfl) rfl)
    (w.heap.size + 3) hsz.symm (split1_hands 44 _ (by omega) (w.heap.size + 3) s hs W0 b5 b6 b7) rfl (rI w) (rX w s) (rI_steady w) (rX_steady w s) h0
    (fun x => { tmps := #[.string s, undef, .pointer (some ⟨w.heap.size, 0, none⟩), .pointer (some ⟨w.heap.size + 1, 0, none⟩), .pointer (some ⟨w.heap.size + 1 + 1, 0, none⟩), .string x, undef, undef, .string s, .bool false, .string s,
      .func (.func 98) #[] #[.pointer (some ⟨w.heap.size + 3 + 1, 0, none⟩), .pointer (some ⟨w.heap.size + 3, 0, none⟩), .pointer (some ⟨w.heap.size + 3 + 1 + 1, 0, none⟩)],
      .string x, undef, undef, undef, undef, undef, undef, undef, undef, undef, undef, undef, undef, undef, undef, undef, undef, undef], defers := [] }) ?assign ?body ?done ?stop
  case assign =>
    intro l x X K hK
    gi_wp2
    exact hK
  case body =>
    intro ll pre x X hpre hsx hI
    have HI := Lib.hid hI
    have HS := Lib.hid hsx
    have HP := Lib.hid hpre
    have hxs : x.size ≤ 140737488355328 := Nat.le_trans (piece_size hpre) hs
    have HBX := Lib.hid (HBD.out x X hxs (HF.out.below hI.choose_spec.choose_spec.2.2.2.2.2))
    clear hI hsx hpre hsz b5 b6 b7 h0 hs hxs
    gi_wp2_with (refine ⟨trivial, ?_⟩; gi_at_call 86; refine (CallsIn.inRound ll (callsIn_wide.2 HBX.out)).mono ?_; rintro e w1 ⟨b, o, rfl, h1, h2, hb1⟩; unfold Bd.arr; refine Hid.out ?_)
    refine Lib.hid ?_
    have HI1 := Lib.hid (rI_on HI.out hb1)
    have HF1 := Lib.hid (Fix.below (lo := w.heap.size + 3) hb1 HS.out)
    have HS1 : Hid (w.heap.size + 3 + 5 ≤ w1.heap.size) := Lib.hid (Nat.le_trans HS.out hb1.size)
    have H1 := Lib.hid h1
    have H2 := Lib.hid h2
    clear hb1 h1 h2 HBX HI HS
    obtain ⟨l, y, hl, d1, d2, d3, hown, hlow⟩ := HI1.out
    have HL := Lib.hid hl
    have D1 := Lib.hid d1
    have D2 := Lib.hid d2
    have D3 := Lib.hid d3
    have HO := Lib.hid hown
    have HLO := Lib.hid hlow
    obtain ⟨ay, cy, rfl⟩ := ownF_form hown
    have c1 := (d1.alloc (.cells #[.int .i64 b.kind, .int .i64 b.ver.n0, .int .i64 b.ver.n1, .int .i64 b.ver.n2, .int .i64 b.ver.n3, .int .i64 b.ver.many, .string b.ver.tag, .int .i64 b.ver.step] 57)).cell
    have c2 := (d2.alloc (.cells #[.int .i64 b.kind, .int .i64 b.ver.n0, .int .i64 b.ver.n1, .int .i64 b.ver.n2, .int .i64 b.ver.n3, .int .i64 b.ver.many, .string b.ver.tag, .int .i64 b.ver.step] 57)).cell
    have c3 := (d3.alloc (.cells #[.int .i64 b.kind, .int .i64 b.ver.n0, .int .i64 b.ver.n1, .int .i64 b.ver.n2, .int .i64 b.ver.n3, .int .i64 b.ver.many, .string b.ver.tag, .int .i64 b.ver.step] 57)).cell
    have f1 := (d1.alloc (.cells #[.int .i64 b.kind, .int .i64 b.ver.n0, .int .i64 b.ver.n1, .int .i64 b.ver.n2, .int .i64 b.ver.n3, .int .i64 b.ver.many, .string b.ver.tag, .int .i64 b.ver.step] 57)).frozen
    have f2 := (d2.alloc (.cells #[.int .i64 b.kind, .int .i64 b.ver.n0, .int .i64 b.ver.n1, .int .i64 b.ver.n2, .int .i64 b.ver.n3, .int .i64 b.ver.many, .string b.ver.tag, .int .i64 b.ver.step] 57)).frozen
    have f3 := (d3.alloc (.cells #[.int .i64 b.kind, .int .i64 b.ver.n0, .int .i64 b.ver.n1, .int .i64 b.ver.n2, .int .i64 b.ver.n3, .int .i64 b.ver.many, .string b.ver.tag, .int .i64 b.ver.step] 57)).frozen
    obtain ⟨m, hm⟩ : ∃ m, m = l.length := ⟨_, rfl⟩
    rw [← hm] at c3 HO
    have HM := Lib.hid hm
    have hm4 : m ≤ 4 := by rw [hm]; exact hl.2
    clear hl d1 d2 d3 hown hlow hm HI1
    cases o with
    | false =>
      have HNO := Lib.hid (row_no H42.out HP.out (.inl (fun b hb => H2.out rfl b hb)))
      clear H1 H2
      gi_wp2
      have hh := row_stops (lo := w.heap.size + 3) (hi := w.heap.size + 3 + 5) rfl D1.out D2.out HLO.out (by omega) HS1.out (.cells b.arr 57)
      exact ⟨HF1.out.trans hh.1, HNO.out, hh.2.1, hh.2.2.1, hh.2.2.2⟩
    | true =>
      by_cases h4 : m = 4
      · have HNO := Lib.hid (row_no H42.out HP.out (.inr (by have := HL.out.1.len; have := HM.out; omega)))
        subst h4
        clear H1 H2
        gi_wp2
        have hh := row_stops (lo := w.heap.size + 3) (hi := w.heap.size + 3 + 5) rfl D1.out D2.out HLO.out (by omega) HS1.out (.cells b.arr 57)
        exact ⟨HF1.out.trans hh.1, HNO.out, hh.2.1, hh.2.2.1, hh.2.2.2⟩
      · have q1 : ((m : Int) == 4) = false := by rw [beq_eq_false_iff_ne]; omega
        obtain ⟨i0, hi, hz0, hz1, hz2⟩ := info_parts info57z
        have HN := Lib.hid (news8 (w1.alloc (.cells b.arr 57)) b (w1.heap.size + 1) _ rfl (by simp))
        have HOK := Lib.hid (H1.out rfl)
        clear H1 H2
        gi_wp2_with (gi_at_builtin; refine wpListIn_append_own _ rfl _ _ 55 rfl (w.heap.size + 8) 57 i0 (.agg Bd.zero.arr) 8 72 Tryz.underlying55 hi hz0 hz1 hz2 rfl (by decide) _ _ _ rfl ((HO.out.alloc _).alloc _) ⟨w1.heap.size + 1, 0, none⟩ 1 1 b.cells rfl rfl HN.out (bd_one b) (by unfold maxLen; omega) (by omega) (by have := HS1.out; simp; omega) ?_; intro v' w2 hown2 hgrow _; obtain ⟨a2, cp2, rfl⟩ := ownF_form hown2; have HO2 := Lib.hid hown2; have HG : Hid (World.grownBy ((w1.alloc (.cells b.arr 57)).alloc (.cells b.arr 57)) w2 (Value.slice ay m cy).ownBlock) := Lib.hid hgrow; have HD3 := Lib.hid (((D3.out.alloc (.cells b.arr 57)).alloc (.cells b.arr 57)).kept hgrow (fun e => by have := (HO.out.lt _ e.symm).1; omega)); have hc3 := HD3.out.cell; have hf3 := HD3.out.frozen; clear hown2 hgrow)
        have hg2 := HG.out
        have hsz2 := hg2.size
        simp only [World.size_alloc] at hsz2
        have lown : ∀ k, (Value.slice ay m cy).ownBlock = some k → w.heap.size + 8 ≤ k := fun k e => (HO.out.lt k e).1
        have hb2 : Below w.heap.size w w2 := ((HLO.out.alloc HLO.out.size _).alloc (by have := HLO.out.size; simp; omega) _).grown hg2 (by have := HLO.out.size; simp; omega) (fun k e => by have := lown k e; omega)
        have hf2 : Fix (w.heap.size + 3) (w.heap.size + 3 + 5) w1 w2 := fun k h1 h2 => by
          have hk : k < w1.heap.size := Nat.lt_of_lt_of_le h2 HS1.out
          refine (hg2.block k (by simp; omega) (fun e => by have := lown k e.symm; omega)).trans ?_
          exact (Below.heap_alloc _ _ _ (by simp; omega)).trans (Below.heap_alloc _ _ _ hk)
        have hb12 : Below w1.heap.size w1 ((w1.alloc (.cells b.arr 57)).alloc (.cells b.arr 57)) := ((Below.refl _ _).alloc (Nat.le_refl _) _).alloc (by simp) _
        have k1 : Boxed w2 w.heap.size 55 (.slice none 0 0) := (boxed_same D1.out (hb12.block _ D1.out.lt)).kept hg2 (fun e => by have := lown _ e.symm; omega)
        have k2 : Boxed w2 (w.heap.size + 1) 4 (.bool false) := (boxed_same D2.out (hb12.block _ D2.out.lt)).kept hg2 (fun e => by have := lown _ e.symm; omega)
        refine ⟨HF1.out.trans (hf2.cell (by omega) _), l ++ [b], .slice a2 (m + 1) cp2, ⟨HL.out.1.snoc HOK.out.1 HOK.out.2, by have := HM.out; simp; omega⟩, k1.other (by omega) _, k2.other (by omega) _, HD3.out.set _, ?_, hb2.setCell (p := ⟨w.heap.size + 1 + 1, 0, none⟩) (by show w.heap.size ≤ w.heap.size + 1 + 1; omega) _⟩
        have e1 : (l ++ [b]).length = m + 1 := by have := HM.out; simp; omega
        have e2 : flatB (l ++ [b]) = flatB l ++ b.cells := by rw [flatB_append]; simp [flatB]
        rw [e1, e2]
        exact own_apart HO2.out (grownBy_setCell' _ _ _) (fun k e => by cases e; omega)
  case done =>
    rintro X HX hK
    obtain ⟨l, y, hl, d1, d2, d3, hown, hlow⟩ := HX
    have HL := Lib.hid hl
    have HO := Lib.hid hown
    have D1 := Lib.hid d1
    have D2 := Lib.hid d2
    have HLO := Lib.hid hlow
    have HK := Lib.hid hK
    obtain ⟨ay, cy, rfl⟩ := ownF_form hown
    have c1 := d1.cell
    have c2 := d2.cell
    have c3 := d3.cell
    have f1 := d1.frozen
    have f2 := d2.frozen
    clear hl hown d1 d2 d3 hlow hK hsz b5 b6 b7 hs h0
    gi_wp2
    have e1 : Boxed ((X.setCell ⟨w.heap.size, 0, none⟩ (.slice ay l.length cy)).setCell ⟨w.heap.size + 1, 0, none⟩ (.bool true)) w.heap.size 55 (.slice ay l.length cy) := (D1.out.set _).other (by omega) _
    have e2 : Boxed ((X.setCell ⟨w.heap.size, 0, none⟩ (.slice ay l.length cy)).setCell ⟨w.heap.size + 1, 0, none⟩ (.bool true)) (w.heap.size + 1) 4 (.bool true) := (D2.out.other (by omega) _).set _
    have hK2 : ((X.setCell ⟨w.heap.size, 0, none⟩ (.slice ay l.length cy)).setCell ⟨w.heap.size + 1, 0, none⟩ (.bool true)).heap[w.heap.size + 3 + 3]? = some (.deferred (some [])) := by
      rw [Below.heap_setCell _ _ _ _ (by simp <;> omega), Below.heap_setCell _ _ _ _ (by simp <;> omega)]
      exact HK.out
    have hb2 : Below w.heap.size w ((X.setCell ⟨w.heap.size, 0, none⟩ (.slice ay l.length cy)).setCell ⟨w.heap.size + 1, 0, none⟩ (.bool true)) := (HLO.out.setCell (p := ⟨w.heap.size, 0, none⟩) (Nat.le_refl _) _).setCell (p := ⟨w.heap.size + 1, 0, none⟩) (by show w.heap.size ≤ w.heap.size + 1; omega) _
    have ho2 := own_apart (own_apart (own_apart HO.out (grownBy_setCell' X w.heap.size (.slice ay l.length cy)) (fun k e => by cases e; omega)) (grownBy_setCell' _ (w.heap.size + 1) (.bool true)) (fun k e => by cases e; omega)) (grownBy_putObj' _ (w.heap.size + 3 + 3) (.deferred none)) (fun k e => by cases e; omega)
    refine ⟨by simp, .inl ⟨_, _, rfl, run_takeDeferred hK2, ?_⟩⟩
    obtain ⟨r1, r2⟩ := row_done HL.out.1 HL.out.2
    refine ⟨_, res_row _ w.heap.size 55 (.slice ay l.length cy) true (e1.kept (grownBy_putObj' _ _ _) (by simp <;> omega)) (e2.kept (grownBy_putObj' _ _ _) (by simp <;> omega)) ⟨_, _, _, rfl⟩ Tryz.f65 _ rfl (.inl rfl) rfl rfl, ?_⟩
    refine ⟨_, l, true, rfl, fun _ => ⟨r1, r2, own_base ho2 (by omega)⟩, fun h => (by cases h), hb2.grown (grownBy_putObj' _ _ _) hb2.size (fun r e => by cases e; omega)⟩
  case stop =>
    rintro pre X ⟨hno, d1, d2, hb⟩ hK
    have HNO := Lib.hid hno
    clear hno hsz b5 b6 b7 hs h0
    gi_wp2
    refine ⟨by simp, .inl ⟨_, _, rfl, run_takeDeferred hK, ?_⟩⟩
    refine ⟨_, res_row _ w.heap.size 55 (.slice none 0 0) false (d1.kept (grownBy_putObj' _ _ _) (by simp <;> omega)) (d2.kept (grownBy_putObj' _ _ _) (by simp <;> omega)) ⟨_, _, _, rfl⟩ Tryz.f65 _ rfl (.inl rfl) rfl rfl, ?_⟩
    exact ⟨_, [], false, rfl, fun h => (by cases h), fun _ => ⟨rfl, HNO.out⟩, hb.grown (grownBy_putObj' _ _ _) hb.size (fun r e => by cases e; omega)⟩
end Go.Proofs.YtlfehjjnepiljaaGreatDoor

namespace Go.Proofs.YtlfehjjnepiljaaGreatDoor
open Go.RowKit Go.Shelf

/-- What an iterator of that kind does, wherever G holds all the while, its box being the block lo and two more behind it: it hands xs over, one by one, until it is told to stop. -/
def HandsG {α : Type} (G : World → Prop) (F : Fence) (n : Nat) (P : Program) (gf : Nat) (lb : Array Value) (lo : Nat) (enc : α → Value) (xs : List α) (w : World) : Prop :=
  ∀ (l : Nat) (J Jx : List α → World → Prop) (W : World), Fix lo (lo + 3) w W →
    (∀ pre X v, J pre X → J pre (X.setCell ⟨lo, 0, none⟩ v)) →
    (∀ pre x X, pre ++ [x] <+: xs → J pre X → YieldAt F (n - 1) P l #[enc x] X fun e Y =>
      (e = .returned (.bool true) ∧ J (pre ++ [x]) Y ∧ Fix lo (lo + 3) X Y) ∨ (e = .returned (.bool false) ∧ Jx (pre ++ [x]) Y)) →
    (∀ pre X, J pre X → G X) →
    J [] W →
    CallsIn F n P gf (#[.func (.yield l) #[] #[]] ++ lb) W fun e Y => (∃ v, e = .returned v) ∧ (J xs Y ∨ ∃ pre, Jx pre Y)

variable {F : Fence} {n : Nat} {P : Program}

theorem range_handsG {α : Type} {g : Operand} {ps : Array Tmp} {assign body : Code} {Q : Exit → Act → World → Prop} {a : Act} {w : World}
    (hro : F.round = none) (h1 : 1 ≤ n) {gf : Nat} {lb : Array Value} (hg : a.eval g = .func (.func gf) #[] lb) (hFg : F.fn gf) (eg : ∀ args w, (callFunc gf args).run P w = .ok (.enter gf args) w)
    (lo : Nat) (hlo : lo + 3 = w.heap.size) {enc : α → Value} {xs : List α} {G : World → Prop} (hit : HandsG G F (n - 1) P gf lb lo enc xs w) (hps : ps.size = 1)
    (I Ix : List α → World → Prop) (hG : ∀ pre X, I pre X → G X) (hI : Steady lo (lo + 5) I) (hIx : Steady lo (lo + 5) Ix) (h0 : I [] w)
    (a₁ : α → Act)
    (hassign : ∀ l x X (K : Act → World → Prop), K (a₁ x) X → assign.wpIn (F.inRound l) (n - 1 - 1) P (Exit.then K (fun _ _ _ => False)) { tmps := (ps.zip #[enc x]).foldl (fun t (p, v) => t.setIfInBounds p v) a.tmps, defers := [] } X)
    (hbody : ∀ l pre x X, pre ++ [x] <+: xs → lo + 5 ≤ X.heap.size → I pre X → body.wpIn (F.inRound l) (n - 1 - 1) P (Left lo (lo + 5) I Ix (pre ++ [x]) X) (a₁ x) X)
    (hdone : ∀ X, I xs X → X.heap[lo + 3]? = some (.deferred (some [])) → Q .normal { a with defers := { target := .collected (lo + 3), args := #[] } :: a.defers } X)
    (hstop : ∀ pre X, Ix pre X → X.heap[lo + 3]? = some (.deferred (some [])) → Code.ret.wpIn F n P Q { a with defers := { target := .collected (lo + 3), args := #[] } :: a.defers } X) :
    (Code.rangeFunc g ps assign body).wpIn F n P Q a w := by
  refine wpIn_rangeFunc fun fn hfn => ?_
  rw [hro]
  -- the record of this loop, in whatever state
  let R : LoopState → Option Code → Obj := fun st j => .loop { state := st, pending := j, fn := fn, tmps := a.tmps, params := ps, assign := assign, body := body, defers := w.heap.size }
  have eD : w.heap.size = lo + 3 := hlo.symm
  let w1 : World := (w.alloc (.deferred (some []))).alloc (R .ready none)
  have s1 : w1.heap.size = lo + 5 := by simp [w1]; omega
  have r1 : w1.heap[lo + 4]? = some (R .ready none) := by
    have := World.alloc_heap_new (w.alloc (.deferred (some []))) (R .ready none)
    rwa [World.size_alloc, eD] at this
  have d1 : w1.heap[lo + 3]? = some (.deferred (some [])) := by
    have := World.alloc_heap_new w (.deferred (some []))
    rw [eD] at this
    exact (Below.heap_alloc _ _ _ (by simp; omega)).trans this
  have i1 : I [] w1 := hI _ _ _ none (hI _ _ _ none h0 (World.grownBy_alloc _ _ _) (fun r e => by cases e)) (World.grownBy_alloc _ _ _) (fun r e => by cases e)
  have f1 : Fix lo (lo + 3) w w1 := fun k _ hk => (Below.heap_alloc _ _ _ (by simp; omega)).trans (Below.heap_alloc _ _ _ (by omega))
  have turn : ∀ {Z : List α → World → Prop}, Steady lo (lo + 5) Z → ∀ {ys X} k o, lo ≤ k → k < lo + 5 → Z ys X → Z ys (X.putObj k o) := fun hZ _ _ k o a b hx => hZ _ _ _ (some k) hx (grownBy_putObj' _ _ _) (fun r e => by cases e; exact ⟨a, b⟩)
  -- between two rounds
  let J : List α → World → Prop := fun ys X => I ys X ∧ X.heap[lo + 4]? = some (R .ready none) ∧ X.heap[lo + 3]? = some (.deferred (some []))
  let Jx : List α → World → Prop := fun ys X => Ix ys X ∧ X.heap[lo + 4]? = some (R .done (some .ret)) ∧ X.heap[lo + 3]? = some (.deferred (some []))
  refine ⟨lo + 4, [{ target := .collected (lo + 3), args := #[] }], w1, { target := .fn (.func gf) lb, args := #[.func (.yield (lo + 4)) #[] #[]] }, w1, gf, #[.func (.yield (lo + 4)) #[] #[]] ++ lb, w1, ?_, ?_, ?_, ?_, fun _ => h1, ?_⟩
  · have := run_enterLoop_outer (P := P) (w := w) fn a.tmps ps assign body
    rw [this, eD]
    simp only [w1, R, eD]
  · simp only [resolve, hg]
    simp [go_sem]
  · intro f' e
    simp [Target.leads] at e
    subst e
    exact hFg
  · simp [invoke, go_sem, eg]
  · refine (hit (lo + 4) J Jx w1 f1 (fun ys X v hx => ?_) (fun pre x X hpre hx => ?_) (fun pre X hx => hG pre X hx.1) ⟨i1, r1, d1⟩).mono ?_
    · refine ⟨hI _ _ _ (some lo) hx.1 (grownBy_setCell' _ _ _) (fun r e => by cases e; omega), ?_, ?_⟩
      · rw [Below.heap_setCell _ _ _ _ (by simp)]; exact hx.2.1
      · rw [Below.heap_setCell _ _ _ _ (by simp)]; exact hx.2.2
    · obtain ⟨hi, hr, hd⟩ := hx
      have hsz : lo + 5 ≤ X.heap.size := (Array.getElem?_eq_some_iff.1 hr).1
      refine ⟨fn, _, assign, body, run_yield hr (by simp [hps]), roundIn_of_wpIn hfn (hassign _ x X _ ⟨_, run_beginRound hr rfl, ?_⟩)⟩
      have hr2 := World.putObj_heap_same (w := X) (r := lo + 4) (o := R .busy none) (by omega)
      have hd2 := (World.putObj_heap_other (w := X) (r := lo + 4) (o := R .busy none) (k := lo + 3) (by omega)).trans hd
      refine wpIn_mono (hbody _ pre x _ hpre (by simpa using hsz) (turn hI (lo + 4) (R .busy none) (by omega) (by omega) hi)) ?_
      rintro e a3 Y hp
      have fin : ∀ (j : Option Code), Fix lo (lo + 5) (X.putObj (lo + 4) (R .busy none)) Y → (Instr.endRound (lo + 4) j).run P Y = .ok (.bool j.isNone) (Y.putObj (lo + 4) (R (if j.isNone then .ready else .done) j)) ∧
          (Y.putObj (lo + 4) (R (if j.isNone then .ready else .done) j)).heap[lo + 4]? = some (R (if j.isNone then .ready else .done) j) ∧ (Y.putObj (lo + 4) (R (if j.isNone then .ready else .done) j)).heap[lo + 3]? = some (.deferred (some [])) := by
        intro j hfx
        have hr3 := (hfx (lo + 4) (by omega) (by omega)).trans hr2
        have hd3 := (hfx (lo + 3) (by omega) (by omega)).trans hd2
        exact ⟨run_endRound j hr3, World.putObj_heap_same (Array.getElem?_eq_some_iff.1 hr3).1, (World.putObj_heap_other (by omega)).trans hd3⟩
      cases e with
      | normal =>
        obtain ⟨hfx, hi2⟩ := hp
        obtain ⟨q1, q2, q3⟩ := fin none hfx
        exact ⟨_, _, q1, .inl ⟨rfl, ⟨turn hI (lo + 4) _ (by omega) (by omega) hi2, q2, q3⟩, (((Fix.put X _ (by omega)).trans (hfx.part (by omega))).trans (Fix.put Y _ (by omega)))⟩⟩
      | ret =>
        obtain ⟨hfx, hi2⟩ := hp
        obtain ⟨q1, q2, q3⟩ := fin (some .ret) hfx
        exact ⟨_, _, q1, .inr ⟨rfl, turn hIx (lo + 4) _ (by omega) (by omega) hi2, q2, q3⟩⟩
      | exit id => exact hp.elim
      | goto t => exact hp.elim
      | panic c => exact hp.elim
      | outgrown => exact hp.elim
    · rintro e Y ⟨⟨v, rfl⟩, ⟨hi, hr, hd⟩ | ⟨pre, hi, hr, hd⟩⟩
      · exact ⟨none, _, run_endLoop hr (by simp), hdone _ (turn hI (lo + 4) _ (by omega) (by omega) hi) ((World.putObj_heap_other (by omega)).trans hd)⟩
      · exact ⟨some .ret, _, run_endLoop hr (by simp), hstop pre _ (turn hIx (lo + 4) _ (by omega) (by omega) hi) ((World.putObj_heap_other (by omega)).trans hd)⟩
end Go.Proofs.YtlfehjjnepiljaaGreatDoor

namespace Go.Proofs.YtlfehjjnepiljaaGreatDoor
open Go.RowKit Go.Shelf
attribute [local go_sem] Oper.semAt_some

/-- The library's number of bytes that are looked for at once is a number. -/
def MaxW (w : World) : Prop := ∃ m : Int, w.cell? ⟨1, 0, none⟩ = some (.int .i64 m)
theorem Tryz.strings_IndexD (s : ByteArray) {w : World} (hm : MaxW w) (W : World) (hs : s.size < 4294967281) (e : w = W := by rfl) :
    Calls Tryz.prog 100 #[.string s, .string ⟨#[124, 124]⟩] W fun e w' => e = .returned (.int .i64 (Lib.index s.data.toList bars)) ∧ w' = W := by
  subst e
  obtain ⟨m, hm⟩ := hm
  exact Any.strings_Index Tryz.lays143 s ⟨#[124, 124]⟩ m w hs hm

set_option maxRecDepth 100000 in
set_option maxHeartbeats 4000000 in
theorem splitD_hands (n : Nat) (hn : 1 ≤ n) (B : Nat) (s : ByteArray) (hs : s.size < 4294967281) (w : World) (b0 : Boxed w B 9 (.string s)) (b1 : Boxed w (B + 1) 9 (.string ⟨#[124, 124]⟩)) (b2 : Boxed w (B + 1 + 1) 3 (.int .i64 0)) :
    HandsG MaxW Fence.wide n Tryz.prog 98 #[.pointer (some ⟨B + 1, 0, none⟩), .pointer (some ⟨B, 0, none⟩), .pointer (some ⟨B + 1 + 1, 0, none⟩)] B Value.string (piecesD s) w := fun l J Jx W hW hJ hY hG h0 => by
  have H0 := Lib.hid (hW.box b0 (by omega) (by omega))
  have H1 := Lib.hid (hW.box b1 (by omega) (by omega))
  have H2 := Lib.hid (hW.box b2 (by omega) (by omega))
  have hc0 := H0.out.cell
  have hc1 := H1.out.cell
  have hc2 := H2.out.cell
  have hz : ((2 : Int) == 0) = false := rfl
  clear b0 b1 b2 hW
  refine callsIn_of_wp Tryz.func98 rfl trivial ?_ rfl
  simp only [Tryz.ntmps98, List.size_toArray, List.length_cons, List.length_nil, Nat.reduceAdd, Nat.reduceSub, Array.replicate_succ, Array.replicate_zero, List.push_toArray, List.append_toArray, List.nil_append, List.cons_append]
  gi_wp2
  gi_loopw [7, 8, 29, 30, 31, 32, 33, 34, 35, 36, 37, 38, 39, 40, 41, 42, 43, 44, 45, 46, 47, 48] (fun _ _ _ _ _ _ _ _ _ _ _ _ _ _ _ _ _ _ _ _ _ _ wr => ∃ (r : ByteArray) (f : Nat) (pre : List ByteArray), r.size ≤ s.size ∧ Hid (r.size ≤ f ∧ piecesD s = pre ++ pcsD f r) ∧ J pre wr ∧ Hid (Boxed wr B 9 (.string r)) ∧ Hid (Boxed wr (B + 1) 9 (.string ⟨#[124, 124]⟩)) ∧ Hid (Boxed wr (B + 1 + 1) 3 (.int .i64 0)))
    (fun _ _ _ _ _ _ _ _ _ _ _ _ _ _ _ _ _ _ _ _ _ _ wr => leftAt B wr)
  case atStart => exact ⟨s, s.size, [], Nat.le_refl _, Lib.hid ⟨by omega, rfl⟩, h0, H0, H1, H2⟩
  case round =>
    obtain ⟨r, f, pre, hr, HX, hJs, H3, H4, H5⟩ := hrel
    have hc3 := H3.out.cell
    have hc4 := H4.out.cell
    have hc5 := H5.out.cell
    have hc3f := H3.out.frozen
    have HM : Hid (MaxW wr) := Lib.hid (hG _ _ hJs)
    have HSZ : Hid (r.size < 4294967281) := Lib.hid (by omega)
    clear hc0 hc1 hc2
    rcases indexD_in r.data.toList with hi | ⟨k, hi, hk⟩
    · -- no such byte: what is left is the last piece
      have HI := Lib.hid hi
      have HE : Hid (piecesD s = pre ++ [r]) := Lib.hid (by
        rw [HX.out.2]
        cases f with
        | zero => rfl
        | succ f => unfold pcsD; rw [if_pos (by rw [hi]; decide)])
      obtain ⟨fn, tmps, assign, body, hy, hR⟩ := hY pre r wr ⟨[], by rw [HE.out, List.append_nil]⟩ hJs
      clear hi
      gi_wp2_with (refine ⟨trivial, ?_⟩; gi_at_call 100; refine (callsIn_wide.2 (Tryz.strings_IndexD r HM.out _ (by have := HSZ.out; omega))).mono ?_; rintro e w' ⟨rfl, rfl⟩; rw [HI.out])
      refine hR.mono ?_
      rintro e2 W3 (⟨rfl, hJ3, hk3⟩ | ⟨rfl, hJx3⟩)
      · gi_wp2
        go_end0
        exact ⟨⟨_, rfl⟩, .inl (by rw [HE.out]; exact hJ3)⟩
      · gi_wp2
        go_end0
        exact ⟨⟨_, rfl⟩, .inr ⟨_, hJx3⟩⟩
    · have HI := Lib.hid hi
      have hsz : r.data.toList.length = r.size := rfl
      rw [hsz] at hk
      obtain ⟨f', rfl⟩ : ∃ f', f = f' + 1 := ⟨f - 1, by have := HX.out.1; omega⟩
      have HE : Hid (piecesD s = pre ++ r.extract 0 k :: pcsD f' (r.extract (k + 2) r.size)) := Lib.hid (by
        rw [HX.out.2, pcsD, if_neg (by rw [hi]; omega), hi]
        rfl)
      have d1 : decide ((k : Int) < 0) = false := decide_eq_false (by omega)
      have d2 : (0 : Int) ≤ (k : Int) := by omega
      have d3 : (k : Int) ≤ (r.size : Int) := by omega
      have d4 : IntKind.i64.wrap ((k : Int) + 2) = (k : Int) + 2 := IntWalk.i64_in _ (by omega)
      have d5 : (0 : Int) ≤ (k : Int) + 2 := by omega
      have d6 : (k : Int) + 2 ≤ (r.size : Int) := by omega
      have d7 : ((k : Int) + 2).toNat = k + 2 := by omega
      have d8 : IntKind.i64.wrap (k : Int) = (k : Int) := IntWalk.i64_in _ (by omega)
      obtain ⟨fn, tmps, assign, body, hy, hR⟩ := hY pre (r.extract 0 k) wr ⟨pcsD f' (r.extract (k + 2) r.size), by rw [HE.out, List.append_assoc]; rfl⟩ hJs
      clear hi hsz
      gi_wp2_with (refine ⟨trivial, ?_⟩; gi_at_call 100; refine (callsIn_wide.2 (Tryz.strings_IndexD r HM.out _ (by have := HSZ.out; omega))).mono ?_; rintro e w' ⟨rfl, rfl⟩; rw [HI.out])
      refine hR.mono ?_
      rintro e2 W3 (⟨rfl, hJ3, hk3⟩ | ⟨rfl, hJx3⟩)
      · have g0 := Lib.hid (hk3.box H3.out (by omega) (by omega))
        have g1 := Lib.hid (hk3.box H4.out (by omega) (by omega))
        have g2 := Lib.hid (hk3.box H5.out (by omega) (by omega))
        have q0 := g0.out.cell
        have q1 := g1.out.cell
        have q0f := g0.out.frozen
        clear hk3
        gi_wp2
        go_roundw
        case rel => exact ⟨r.extract (k + 2) r.size, f', pre ++ [r.extract 0 k], by simp; omega, Lib.hid ⟨by simp; have := HX.out.1; omega, by rw [HE.out, List.append_assoc]; rfl⟩, hJ _ _ _ hJ3, Lib.hid (g0.out.set _), Lib.hid (g1.out.other (by omega) _), Lib.hid (g2.out.other (by omega) _)⟩
        case measure =>
          rw [leftAt_of H3.out, leftAt_of (g0.out.set _)]
          simp
          omega
      · gi_wp2
        refine bodyPost_ret (results_none rfl _ _ _) rfl ?_
        exact ⟨⟨_, rfl⟩, .inr ⟨_, hJx3⟩⟩
end Go.Proofs.YtlfehjjnepiljaaGreatDoor

namespace Go.Proofs.YtlfehjjnepiljaaGreatDoor
open Go.RowKit Go.Shelf
attribute [local go_sem] Oper.semAt_some

set_option maxRecDepth 100000 in
set_option maxHeartbeats 2000000 in
theorem row_star (s : ByteArray) (h42 : s.data.toList = [42]) (w : World) : Calls Tryz.prog 65 #[.string s] w (RowRd s.data.toList w) := by
  have H42 := Lib.hid h42
  have q42 : (s.toList == [42]) = true := by rw [beq_iff_eq, Lib.toList_data]; exact h42
  clear h42
  refine (callsIn_wide (n := 5)).1 ?_
  refine callsIn_of_wp_marks Tryz.func65 rfl trivial ?_ rfl
  simp only [Tryz.ntmps65, List.size_toArray, List.length_cons, List.length_nil, Nat.reduceAdd, Nat.reduceSub, Array.replicate_succ, Array.replicate_zero, List.push_toArray, List.append_toArray, List.nil_append, List.cons_append]
  gi_wp2
  have b0 := (Boxed.new w 55 (.slice none 0 0)).alloc (.cells #[.bool true] 4)
  have b1 := Boxed.new (w.alloc (.cells #[.slice none 0 0] 55)) 4 (.bool true)
  simp only [World.size_alloc] at b1
  refine ⟨_, res_row _ w.heap.size 55 (.slice none 0 0) true b0 b1 ⟨_, _, _, rfl⟩ Tryz.f65 _ rfl (.inl rfl) rfl rfl, ?_⟩
  exact ⟨_, [], true, rfl, fun _ => ⟨rfl, H42.out.symm, World.ownsRow_nil _ _ _ _⟩, fun h => (by cases h), ((Below.refl _ w).alloc (Nat.le_refl _) _).alloc (by simp) _⟩
theorem rowRd_any (s : ByteArray) (hs : s.size ≤ 140737488355328) (w : World) (hF : FrW w) : Calls Tryz.prog 65 #[.string s] w (RowRd s.data.toList w) := by
  by_cases h : s.data.toList = [42]
  · exact row_star s h w
  · exact row_any s hs h w hF

/-- Rows of bounds in memory of the call's own. -/
def OwnR (w : World) (B : Nat) (x : Value) (ls : List (List Bd)) : Prop :=
  ∃ vs : List Value, w.ownsRow B 55 1 x vs.length vs ∧ vs.length = ls.length ∧ (∀ v ∈ vs, v.oneCell' = true) ∧ ∀ (i : Nat) (v : Value) (l : List Bd), vs[i]? = some v → ls[i]? = some l → w.ownsRow B 57 8 v l.length (flatB l)
theorem OwnR.nil (w : World) (B : Nat) : OwnR w B (.slice none 0 0) [] := ⟨[], World.ownsRow_nil _ _ _ _, rfl, by simp, fun i v l h => by cases h⟩
theorem OwnR.rd {w : World} {B : Nat} {x : Value} {ls : List (List Bd)} (h : OwnR w B x ls) : RdR w x ls := by
  obtain ⟨vs, h1, h2, _, h3⟩ := h
  exact ⟨vs, RdF.of_own h1, h2, fun i v l hv hl => RdF.of_own (h3 i v l hv hl)⟩
theorem OwnR.on {w w' : World} {B : Nat} {x : Value} {ls : List (List Bd)} (h : OwnR w B x ls) (hb : Below w.heap.size w w') : OwnR w' B x ls := by
  obtain ⟨vs, h1, h2, h4, h3⟩ := h
  exact ⟨vs, owns_below h1 hb, h2, h4, fun i v l hv hl => owns_below (h3 i v l hv hl) hb⟩
theorem OwnR.base {w : World} {B B' : Nat} {x : Value} {ls : List (List Bd)} (h : OwnR w B x ls) (hB : B' ≤ B) : OwnR w B' x ls := by
  obtain ⟨vs, h1, h2, h4, h3⟩ := h
  exact ⟨vs, own_base h1 hB, h2, h4, fun i v l hv hl => own_base (h3 i v l hv hl) hB⟩
theorem OwnR.apart {W W' : World} {B : Nat} {x : Value} {ls : List (List Bd)} {row : Option Nat} (h : OwnR W B x ls) (hg : W.grownBy W' row) (hr : ∀ k, row = some k → k < B) : OwnR W' B x ls := by
  obtain ⟨vs, h1, h2, h4, h3⟩ := h
  exact ⟨vs, own_apart h1 hg hr, h2, h4, fun i v l hv hl => own_apart (h3 i v l hv hl) hg hr⟩
theorem OwnR.form {w : World} {B : Nat} {x : Value} {ls : List (List Bd)} (h : OwnR w B x ls) : ∃ a c, x = .slice a ls.length c := by
  obtain ⟨vs, h1, h2, _, h3⟩ := h
  obtain ⟨a, c, e⟩ := ownF_form h1
  exact ⟨a, c, by rw [e, h2]⟩
theorem OwnR.lt {w : World} {B : Nat} {x : Value} {ls : List (List Bd)} (h : OwnR w B x ls) : ∀ k, x.ownBlock = some k → B ≤ k ∧ k < w.heap.size := by
  obtain ⟨vs, h1, _⟩ := h
  exact h1.lt
/-- Rows of other cells lie in other blocks. -/
theorem own_kinds {w : World} {B B' s s' n n' : Nat} {e e' : TypeId} {x y : Value} {xs ys : List Value} (h : w.ownsRow B e s x n xs) (h' : w.ownsRow B' e' s' y n' ys) (hne : e ≠ e') : y.ownBlock = none ∨ y.ownBlock ≠ x.ownBlock := by
  rcases h'.2 with ⟨rfl, _⟩ | ⟨g', cap', cur', rfl, _, hh', _⟩
  · exact .inl rfl
  · refine .inr (fun e2 => ?_)
    rcases h.2 with ⟨rfl, _⟩ | ⟨g, cap, cur, rfl, _, hh, _⟩
    · cases e2
    · have : g' = g := by simpa [Value.ownBlock] using e2
      subst this
      rw [hh] at hh'
      cases hh'
      exact hne rfl
/-- One row more. -/
theorem OwnR.push {w w2 : World} {B : Nat} {x v x2 : Value} {ls : List (List Bd)} {l : List Bd} (h : OwnR w B x ls) (hv : w.ownsRow B 57 8 v l.length (flatB l)) (hg : w.grownBy w2 x.ownBlock) (vs : List Value) (hvs : ∀ us, w.ownsRow B 55 1 x us.length us → us.length = ls.length → (∀ u ∈ us, u.oneCell' = true) → vs = us) (ho : w2.ownsRow B 55 1 x2 (ls.length + 1) (vs ++ [v])) : OwnR w2 B x2 (ls ++ [l]) := by
  obtain ⟨us, h1, h2, h4, h3⟩ := h
  obtain rfl := hvs us h1 h2 h4
  have e1 : (vs ++ [v]).length = ls.length + 1 := by simp [h2]
  have v1 : v.oneCell' = true := by
    obtain ⟨a, c, rfl⟩ := ownF_form hv
    rfl
  refine ⟨vs ++ [v], by rw [e1]; exact ho, by rw [e1]; simp, fun u hu => ?_, fun i u m hu hm => ?_⟩
  · rcases List.mem_append.1 hu with hu | hu
    · exact h4 u hu
    · rw [List.mem_singleton.1 hu]; exact v1
  · by_cases hi : i < vs.length
    · rw [List.getElem?_append_left hi] at hu
      rw [List.getElem?_append_left (by omega)] at hm
      have hk := h3 i u m hu hm
      exact hk.kept hg (own_kinds h1 hk (by decide))
    · have hl := (List.getElem?_eq_some_iff.1 hu).1
      simp at hl
      obtain rfl : i = vs.length := by omega
      rw [List.getElem?_append_right (Nat.le_refl _), Nat.sub_self] at hu
      rw [List.getElem?_append_right (by omega), h2, Nat.sub_self] at hm
      cases hu
      cases hm
      exact hv.kept hg (own_kinds h1 hv (by decide))
theorem info55z : (Tryz.prog.info? 55).map (fun i => (i.zero, i.size, i.bytes)) = some (some (.slice none 0 0), 1, 24) := by kernel_rfl
theorem MaxW.below {w w' : World} (h : MaxW w) (h1 : 1 < w.heap.size) (hb : Below w.heap.size w w') : MaxW w' := by
  obtain ⟨m, hm⟩ := h
  exact ⟨m, (hb.cell (p := ⟨1, 0, none⟩) h1).trans hm⟩
theorem splitD_len : ∀ (l x : Str), x ∈ splitD l → x.length ≤ l.length := by
  intro l
  fun_induction splitD l with
  | case1 => intro x hx; simp at hx; subst hx; simp
  | case2 r ih =>
    intro x hx
    rcases List.mem_cons.1 hx with rfl | hx
    · simp
    · have := ih x hx; simp; omega
  | case3 y r _ hs ih => exact absurd hs (splitD_ne r)
  | case4 y r _ h t hs ih =>
    intro x hx
    rcases List.mem_cons.1 hx with rfl | hx
    · have := ih h (by rw [hs]; simp); simp; omega
    · have := ih x (by rw [hs]; simp [hx]); simp; omega
theorem pieceD_size {s x : ByteArray} {pre : List ByteArray} (h : pre ++ [x] <+: piecesD s) : x.size ≤ s.size := by
  obtain ⟨t, ht⟩ := h
  have h1 : x.data.toList ∈ splitD s.data.toList := by
    rw [← piecesD_list, ← ht]
    simp
  exact splitD_len _ _ h1

def sI (w : World) (pre : List ByteArray) (W : World) : Prop :=
  ∃ (l : List (List Bd)) (x : Value), (RowsAre l pre ∧ l.length ≤ 4) ∧ Boxed W w.heap.size 25 (.slice none 0 0) ∧ Boxed W (w.heap.size + 1) 4 (.bool false) ∧ Boxed W (w.heap.size + 1 + 1) 25 x ∧ OwnR W (w.heap.size + 8) x l ∧ Below w.heap.size w W
def sX (w : World) (s : ByteArray) (_ : List ByteArray) (W : World) : Prop :=
  (∀ m, spanOk m = true → spanT m ≠ s.data.toList) ∧ Boxed W w.heap.size 25 (.slice none 0 0) ∧ Boxed W (w.heap.size + 1) 4 (.bool false) ∧ Below w.heap.size w W
theorem sI_steady (w : World) : Steady (w.heap.size + 3) (w.heap.size + 3 + 5) (sI w) := by
  rintro pre X Y row ⟨l, x, h0, h1, h2, h3, h4, hb⟩ hg hr
  have far : ∀ k, k < w.heap.size + 3 → some k ≠ row := fun k hk e => by have := (hr k e.symm).1; omega
  exact ⟨l, x, h0, h1.kept hg (far _ (by omega)), h2.kept hg (far _ (by omega)), h3.kept hg (far _ (by omega)), h4.apart hg (fun k e => by have := (hr k e).2; omega), hb.grown hg hb.size (fun k e => by have := (hr k e).1; omega)⟩
theorem sX_steady (w : World) (s : ByteArray) : Steady (w.heap.size + 3) (w.heap.size + 3 + 5) (sX w s) := by
  rintro pre X Y row ⟨h0, h1, h2, hb⟩ hg hr
  have far : ∀ k, k < w.heap.size + 3 → some k ≠ row := fun k hk e => by have := (hr k e.symm).1; omega
  exact ⟨h0, h1.kept hg (far _ (by omega)), h2.kept hg (far _ (by omega)), hb.grown hg hb.size (fun k e => by have := (hr k e).1; omega)⟩
/-- Where the loop begins. -/
def sW (s : ByteArray) (w : World) : World :=
  (((((w.alloc (.cells #[.slice none 0 0] 25)).alloc (.cells #[.bool false] 4)).alloc (.cells #[.slice none 0 0] 25)).alloc (.cells #[.string s] 9)).alloc (.cells #[.string ⟨#[124, 124]⟩] 9)).alloc (.cells #[.int .i64 0] 3)
theorem sW_boxes (s : ByteArray) (w : World) : sI w [] (sW s w) ∧ Boxed (sW s w) (w.heap.size + 3) 9 (.string s) ∧ Boxed (sW s w) (w.heap.size + 3 + 1) 9 (.string ⟨#[124, 124]⟩) ∧ Boxed (sW s w) (w.heap.size + 3 + 1 + 1) 3 (.int .i64 0) ∧ (sW s w).heap.size = w.heap.size + 3 + 3 := by
  unfold sW
  have b0 := ((((((Boxed.new w 25 (.slice none 0 0)).alloc (.cells #[.bool false] 4)).alloc (.cells #[.slice none 0 0] 25)).alloc (.cells #[.string s] 9)).alloc (.cells #[.string ⟨#[124, 124]⟩] 9)).alloc (.cells #[.int .i64 0] 3))
  have b1 := (((((Boxed.new (w.alloc (.cells #[.slice none 0 0] 25)) 4 (.bool false)).alloc (.cells #[.slice none 0 0] 25)).alloc (.cells #[.string s] 9)).alloc (.cells #[.string ⟨#[124, 124]⟩] 9)).alloc (.cells #[.int .i64 0] 3))
  have b2 := ((((Boxed.new ((w.alloc (.cells #[.slice none 0 0] 25)).alloc (.cells #[.bool false] 4)) 25 (.slice none 0 0)).alloc (.cells #[.string s] 9)).alloc (.cells #[.string ⟨#[124, 124]⟩] 9)).alloc (.cells #[.int .i64 0] 3))
  have b3 := (((Boxed.new (((w.alloc (.cells #[.slice none 0 0] 25)).alloc (.cells #[.bool false] 4)).alloc (.cells #[.slice none 0 0] 25)) 9 (.string s)).alloc (.cells #[.string ⟨#[124, 124]⟩] 9)).alloc (.cells #[.int .i64 0] 3))
  have b4 := ((Boxed.new ((((w.alloc (.cells #[.slice none 0 0] 25)).alloc (.cells #[.bool false] 4)).alloc (.cells #[.slice none 0 0] 25)).alloc (.cells #[.string s] 9)) 9 (.string ⟨#[124, 124]⟩)).alloc (.cells #[.int .i64 0] 3))
  have b5 := Boxed.new (((((w.alloc (.cells #[.slice none 0 0] 25)).alloc (.cells #[.bool false] 4)).alloc (.cells #[.slice none 0 0] 25)).alloc (.cells #[.string s] 9)).alloc (.cells #[.string ⟨#[124, 124]⟩] 9)) 3 (.int .i64 0)
  simp only [World.size_alloc] at b1 b2 b3 b4 b5
  have hb : Below w.heap.size w (sW s w) := by
    unfold sW
    refine ((((((Below.refl _ w).alloc (Nat.le_refl _) _).alloc ?_ _).alloc ?_ _).alloc ?_ _).alloc ?_ _).alloc ?_ _ <;> (simp only [World.size_alloc]; omega)
  exact ⟨⟨[], .slice none 0 0, ⟨RowsAre.nil, by simp⟩, b0, b1, b2, OwnR.nil _ _, hb⟩, b3, b4, b5, by simp only [World.size_alloc]⟩
theorem sI_on {w : World} {pre : List ByteArray} {X Y : World} (h : sI w pre X) (hb : Below X.heap.size X Y) : sI w pre Y := by
  obtain ⟨l, x, h0, h1, h2, h3, h4, hbb⟩ := h
  exact ⟨l, x, h0, boxed_same h1 (hb.block _ h1.lt), boxed_same h2 (hb.block _ h2.lt), boxed_same h3 (hb.block _ h3.lt), h4.on hb, bch hbb hb⟩
def RowsRd (s : Str) (w : World) (e : Ending) (w' : World) : Prop :=
  ∃ (x : Value) (l : List (List Bd)) (o : Bool), e = .returned (.tuple #[x, .bool o]) ∧ (o = true → spanOk l = true ∧ spanT l = s ∧ OwnR w' w.heap.size x l) ∧ (o = false → x = .slice none 0 0 ∧ ∀ m, spanOk m = true → spanT m ≠ s) ∧ Below w.heap.size w w'

theorem own_same {w : World} {B s n : Nat} {e : TypeId} {x : Value} {xs ys : List Value} (h : w.ownsRow B e s x n xs) (h' : w.ownsRow B e s x n ys) : xs = ys := by
  have l1 := h.1
  have l2 := h'.1
  rcases h.2 with ⟨rfl, h0⟩ | ⟨g, cap, cur, rfl, _, hh, _, _, _, ht⟩
  · subst h0
    rw [Nat.zero_mul] at l1 l2
    rw [List.eq_nil_of_length_eq_zero l1, List.eq_nil_of_length_eq_zero l2]
  · rcases h'.2 with ⟨hv, _⟩ | ⟨g', cap', cur', hv, _, hh', _, _, _, ht'⟩
    · cases hv
    · cases hv
      rw [hh] at hh'
      cases hh'
      rw [← ht, ← ht']
theorem rows_stops {w W : World} {t : TypeId} {g lo hi : Nat} (hg : g = w.heap.size) (d1 : Boxed W g t (.slice none 0 0)) (d2 : Boxed W (g + 1) 4 (.bool false)) (hb : Below w.heap.size w W) (hlo : g + 1 < lo) :
    Fix lo hi W ((W.setCell ⟨g, 0, none⟩ (.slice none 0 0)).setCell ⟨g + 1, 0, none⟩ (.bool false)) ∧ Boxed ((W.setCell ⟨g, 0, none⟩ (.slice none 0 0)).setCell ⟨g + 1, 0, none⟩ (.bool false)) g t (.slice none 0 0) ∧ Boxed ((W.setCell ⟨g, 0, none⟩ (.slice none 0 0)).setCell ⟨g + 1, 0, none⟩ (.bool false)) (g + 1) 4 (.bool false) ∧ Below w.heap.size w ((W.setCell ⟨g, 0, none⟩ (.slice none 0 0)).setCell ⟨g + 1, 0, none⟩ (.bool false)) := by
  refine ⟨((Fix.refl _ _ _).cell (by omega) _).cell hlo _, (d1.set _).other (by omega) _, (d2.other (by omega) _).set _, ?_⟩
  subst hg
  exact (hb.setCell (p := ⟨w.heap.size, 0, none⟩) (Nat.le_refl _) _).setCell (p := ⟨w.heap.size + 1, 0, none⟩) (by show w.heap.size ≤ w.heap.size + 1; omega) _

set_option maxRecDepth 100000 in
set_option maxHeartbeats 8000000 in
theorem rows_any (s : ByteArray) (hs : s.size < 4294967281) (w : World) (hF : FrW w) (hM : MaxW w) (hM1 : 1 < w.heap.size) : Calls Tryz.prog 42 #[.string s] w (RowsRd s.data.toList w) := by
  have HBD : Hid (∀ (x : ByteArray) (W : World), x.size ≤ 140737488355328 → FrW W → Calls Tryz.prog 65 #[.string x] W (RowRd x.data.toList W)) := Lib.hid (fun x W hx hW => rowRd_any x hx W hW)
  have HM1 := Lib.hid hM1
  have HMW := Lib.hid hM
  have HF := Lib.hid hF
  clear hF hM hM1
  refine (callsIn_wide (n := 5)).1 ?_
  refine callsIn_of_wp_marks Tryz.func42 rfl trivial ?_ rfl
  simp only [Tryz.ntmps42, List.size_toArray, List.length_cons, List.length_nil, Nat.reduceAdd, Nat.reduceSub, Array.replicate_succ, Array.replicate_zero, List.push_toArray, List.append_toArray, List.nil_append, List.cons_append]
  gi_wp2_with (refine ⟨trivial, ?_⟩; gi_at_call 64; refine (callsIn_wide.2 (splitseq_any s ⟨#[124, 124]⟩ _)).mono ?_; rintro e w' ⟨rfl, rfl⟩)
  obtain ⟨h0, b5, b6, b7, hsz⟩ := sW_boxes s w
  obtain ⟨W0, hW0⟩ : ∃ W0, sW s w = W0 := ⟨_, rfl⟩
  have hW0' := hW0
  unfold sW at hW0'
  rw [hW0']
  rw [hW0] at h0 b5 b6 b7 hsz
  clear hW0 hW0'
  refine range_handsG (G := MaxW) rfl (by omega) (gf := 98) (lb := #[.pointer (some ⟨w.heap.size + 3 + 1, 0, none⟩), .pointer (some ⟨w.heap.size + 3, 0, none⟩), .pointer (some ⟨w.heap.size + 3 + 1 + 1, 0, none⟩)]) rfl trivial (enters_of Tryz.func98 (by kernel_rfl) rfl)
    (w.heap.size + 3) hsz.symm (splitD_hands _ (by omega) (w.heap.size + 3) s hs W0 b5 b6 b7) rfl (sI w) (sX w s) (fun pre X hX => HMW.out.below HM1.out hX.choose_spec.choose_spec.2.2.2.2.2) (sI_steady w) (sX_steady w s) h0
    (fun x => { tmps := #[.string s, undef, .pointer (some ⟨w.heap.size, 0, none⟩), .pointer (some ⟨w.heap.size + 1, 0, none⟩), .pointer (some ⟨w.heap.size + 1 + 1, 0, none⟩), .string x, undef, undef, .string s,
      .func (.func 98) #[] #[.pointer (some ⟨w.heap.size + 3 + 1, 0, none⟩), .pointer (some ⟨w.heap.size + 3, 0, none⟩), .pointer (some ⟨w.heap.size + 3 + 1 + 1, 0, none⟩)],
      .string x, undef, undef, undef, undef, undef, undef, undef, undef, undef, undef, undef, undef, undef, undef, undef, undef, undef], defers := [] }) ?assign ?body ?done ?stop
  case assign =>
    intro l x X K hK
    gi_wp2
    exact hK
  case body =>
    intro ll pre x X hpre hsx hI
    have HI := Lib.hid hI
    have HS := Lib.hid hsx
    have HP := Lib.hid hpre
    have hxs : x.size ≤ 140737488355328 := Nat.le_trans (pieceD_size hpre) (by omega)
    have HBX := Lib.hid (HBD.out x X hxs (HF.out.below hI.choose_spec.choose_spec.2.2.2.2.2))
    clear hI hsx hpre hsz b5 b6 b7 h0 hs hxs
    gi_wp2_with (refine ⟨trivial, ?_⟩; gi_at_call 65; refine (CallsIn.inRound ll (callsIn_wide.2 HBX.out)).mono ?_; rintro e w1 ⟨b, lb, o, rfl, h1, h2, hb1⟩; refine Hid.out ?_)
    refine Lib.hid ?_
    have HI1 := Lib.hid (sI_on HI.out hb1)
    have HF1 := Lib.hid (Fix.below (lo := w.heap.size + 3) hb1 HS.out)
    have HS1 : Hid (w.heap.size + 3 + 5 ≤ w1.heap.size) := Lib.hid (Nat.le_trans HS.out hb1.size)
    have H1 := Lib.hid h1
    have H2 := Lib.hid h2
    have HX8 : Hid (w.heap.size + 8 ≤ X.heap.size) := HS
    clear hb1 h1 h2 HBX HI HS
    obtain ⟨l, y, hl, d1, d2, d3, hown, hlow⟩ := HI1.out
    have HL := Lib.hid hl
    have D1 := Lib.hid d1
    have D2 := Lib.hid d2
    have D3 := Lib.hid d3
    have HO := Lib.hid hown
    have HLO := Lib.hid hlow
    obtain ⟨ay, cy, rfl⟩ := hown.form
    have c1 := d1.cell
    have c2 := d2.cell
    have c3 := d3.cell
    have f1 := d1.frozen
    have f2 := d2.frozen
    have f3 := d3.frozen
    obtain ⟨m, hm⟩ : ∃ m, m = l.length := ⟨_, rfl⟩
    rw [← hm] at c3 HO
    have HM := Lib.hid hm
    have hm4 : m ≤ 4 := by rw [hm]; exact hl.2
    clear hl d1 d2 d3 hown hlow hm HI1
    cases o with
    | false =>
      have HNO := Lib.hid (span_no HP.out (.inl (fun b hb => (H2.out rfl).2 b hb)))
      clear H1 H2
      gi_wp2
      have hh := rows_stops (lo := w.heap.size + 3) (hi := w.heap.size + 3 + 5) rfl D1.out D2.out HLO.out (by omega)
      exact ⟨HF1.out.trans hh.1, HNO.out, hh.2.1, hh.2.2.1, hh.2.2.2⟩
    | true =>
      by_cases h4 : m = 4
      · have HNO := Lib.hid (span_no HP.out (.inr (by have := HL.out.1.len; have := HM.out; omega)))
        subst h4
        clear H1 H2
        gi_wp2
        have hh := rows_stops (lo := w.heap.size + 3) (hi := w.heap.size + 3 + 5) rfl D1.out D2.out HLO.out (by omega)
        exact ⟨HF1.out.trans hh.1, HNO.out, hh.2.1, hh.2.2.1, hh.2.2.2⟩
      · have q1 : ((m : Int) == 4) = false := by rw [beq_eq_false_iff_ne]; omega
        obtain ⟨i0, hi, hz0, hz1, hz2⟩ := info_parts info55z
        have HOK := Lib.hid (H1.out rfl)
        obtain ⟨us, hu1, hu2, hu4, hu3⟩ := HO.out
        have hul : us.length = m := by rw [hu2, HM.out]
        rw [hul] at hu1
        obtain ⟨ab, cb, rfl⟩ := ownF_form HOK.out.2.2
        have HU1 := Lib.hid hu1
        have hN := cell_one_new w1 (.slice ab lb.length cb) 55
        have HN := Lib.hid hN
        clear H1 H2 hu1 hu2 hu3 hu4 hN hul
        gi_wp2_with (gi_at_builtin; refine wpListIn_append_own _ rfl _ _ 25 rfl (w.heap.size + 8) 55 i0 (.slice none 0 0) 1 24 Tryz.underlying25 hi hz0 hz1 hz2 rfl (by decide) _ _ _ rfl (HU1.out.alloc _) ⟨w1.heap.size, 0, none⟩ 1 1 [.slice ab lb.length cb] rfl rfl HN.out (by simp [Value.oneCell']) (by unfold maxLen; omega) (by omega) (by have := HS1.out; simp; omega) ?_; intro v' w2 hown2 hgrow _; obtain ⟨a2, cp2, rfl⟩ := ownF_form hown2; have HO2 := Lib.hid hown2; have HG : Hid (World.grownBy (w1.alloc (.cells #[.slice ab lb.length cb] 55)) w2 (Value.slice ay m cy).ownBlock) := Lib.hid hgrow; have HD3 := Lib.hid ((D3.out.alloc (.cells #[.slice ab lb.length cb] 55)).kept hgrow (fun e => by have := (HU1.out.lt _ e.symm).1; omega)); have hc3 := HD3.out.cell; have hf3 := HD3.out.frozen; clear hown2 hgrow)
        have hg2 := HG.out
        have hsz2 := hg2.size
        simp only [World.size_alloc] at hsz2
        have lown : ∀ k, (Value.slice ay m cy).ownBlock = some k → w.heap.size + 8 ≤ k := fun k e => (HU1.out.lt k e).1
        have hb2 : Below w.heap.size w w2 := (HLO.out.alloc HLO.out.size _).grown hg2 (by have := HLO.out.size; simp; omega) (fun k e => by have := lown k e; omega)
        have hf2 : Fix (w.heap.size + 3) (w.heap.size + 3 + 5) w1 w2 := fun k h1 h2 => by
          have hk : k < w1.heap.size := Nat.lt_of_lt_of_le h2 HS1.out
          refine (hg2.block k (by simp; omega) (fun e => by have := lown k e.symm; omega)).trans ?_
          exact Below.heap_alloc _ _ _ hk
        have hb12 : Below w1.heap.size w1 (w1.alloc (.cells #[.slice ab lb.length cb] 55)) := below_new _ _
        have k1 : Boxed w2 w.heap.size 25 (.slice none 0 0) := (boxed_same D1.out (hb12.block _ D1.out.lt)).kept hg2 (fun e => by have := lown _ e.symm; omega)
        have k2 : Boxed w2 (w.heap.size + 1) 4 (.bool false) := (boxed_same D2.out (hb12.block _ D2.out.lt)).kept hg2 (fun e => by have := lown _ e.symm; omega)
        refine ⟨HF1.out.trans (hf2.cell (by omega) _), l ++ [lb], .slice a2 (m + 1) cp2, ⟨HL.out.1.snoc HOK.out.1 HOK.out.2.1, by have := HM.out; simp; omega⟩, k1.other (by omega) _, k2.other (by omega) _, HD3.out.set _, ?_, hb2.setCell (p := ⟨w.heap.size + 1 + 1, 0, none⟩) (by show w.heap.size ≤ w.heap.size + 1 + 1; omega) _⟩
        refine OwnR.apart ?_ (grownBy_setCell' _ _ _) (fun k e => by cases e; omega)
        refine OwnR.push (w := w1.alloc (.cells #[.slice ab lb.length cb] 55)) (x := .slice ay m cy) (HO.out.on hb12) (owns_below (own_base HOK.out.2.2 HX8.out) hb12) hg2 us (fun us2 h1 h2 _ => ?_) (by rw [← HM.out]; exact HO2.out)
        have h1' : (w1.alloc (.cells #[.slice ab lb.length cb] 55)).ownsRow (w.heap.size + 8) 55 1 (.slice ay m cy) m us := HU1.out.alloc _
        have e2 : us2.length = m := by rw [h2, HM.out]
        rw [e2] at h1
        exact own_same h1' h1
  case done =>
    rintro X HX hK
    obtain ⟨l, y, hl, d1, d2, d3, hown, hlow⟩ := HX
    have HL := Lib.hid hl
    have HO := Lib.hid hown
    have D1 := Lib.hid d1
    have D2 := Lib.hid d2
    have HLO := Lib.hid hlow
    have HK := Lib.hid hK
    obtain ⟨ay, cy, rfl⟩ := hown.form
    have c1 := d1.cell
    have c2 := d2.cell
    have c3 := d3.cell
    have f1 := d1.frozen
    have f2 := d2.frozen
    clear hl hown d1 d2 d3 hlow hK hsz b5 b6 b7 hs h0
    gi_wp2
    have e1 : Boxed ((X.setCell ⟨w.heap.size, 0, none⟩ (.slice ay l.length cy)).setCell ⟨w.heap.size + 1, 0, none⟩ (.bool true)) w.heap.size 25 (.slice ay l.length cy) := (D1.out.set _).other (by omega) _
    have e2 : Boxed ((X.setCell ⟨w.heap.size, 0, none⟩ (.slice ay l.length cy)).setCell ⟨w.heap.size + 1, 0, none⟩ (.bool true)) (w.heap.size + 1) 4 (.bool true) := (D2.out.other (by omega) _).set _
    have hK2 : ((X.setCell ⟨w.heap.size, 0, none⟩ (.slice ay l.length cy)).setCell ⟨w.heap.size + 1, 0, none⟩ (.bool true)).heap[w.heap.size + 3 + 3]? = some (.deferred (some [])) := by
      rw [Below.heap_setCell _ _ _ _ (by simp <;> omega), Below.heap_setCell _ _ _ _ (by simp <;> omega)]
      exact HK.out
    have hb2 : Below w.heap.size w ((X.setCell ⟨w.heap.size, 0, none⟩ (.slice ay l.length cy)).setCell ⟨w.heap.size + 1, 0, none⟩ (.bool true)) := (HLO.out.setCell (p := ⟨w.heap.size, 0, none⟩) (Nat.le_refl _) _).setCell (p := ⟨w.heap.size + 1, 0, none⟩) (by show w.heap.size ≤ w.heap.size + 1; omega) _
    have ho2 := ((HO.out.apart (grownBy_setCell' X w.heap.size (.slice ay l.length cy)) (fun k e => by cases e; omega)).apart (grownBy_setCell' _ (w.heap.size + 1) (.bool true)) (fun k e => by cases e; omega)).apart (grownBy_putObj' _ (w.heap.size + 3 + 3) (.deferred none)) (fun k e => by cases e; omega)
    refine ⟨by simp, .inl ⟨_, _, rfl, run_takeDeferred hK2, ?_⟩⟩
    obtain ⟨r1, r2⟩ := span_done HL.out.1 HL.out.2
    refine ⟨_, res_row _ w.heap.size 25 (.slice ay l.length cy) true (e1.kept (grownBy_putObj' _ _ _) (by simp <;> omega)) (e2.kept (grownBy_putObj' _ _ _) (by simp <;> omega)) ⟨_, _, _, rfl⟩ Tryz.f42 _ rfl (.inr rfl) rfl rfl, ?_⟩
    refine ⟨_, l, true, rfl, fun _ => ⟨r1, r2, ho2.base (by omega)⟩, fun h => (by cases h), hb2.grown (grownBy_putObj' _ _ _) hb2.size (fun r e => by cases e; omega)⟩
  case stop =>
    rintro pre X ⟨hno, d1, d2, hb⟩ hK
    have HNO := Lib.hid hno
    clear hno hsz b5 b6 b7 hs h0
    gi_wp2
    refine ⟨by simp, .inl ⟨_, _, rfl, run_takeDeferred hK, ?_⟩⟩
    refine ⟨_, res_row _ w.heap.size 25 (.slice none 0 0) false (d1.kept (grownBy_putObj' _ _ _) (by simp <;> omega)) (d2.kept (grownBy_putObj' _ _ _) (by simp <;> omega)) ⟨_, _, _, rfl⟩ Tryz.f42 _ rfl (.inr rfl) rfl rfl, ?_⟩
    exact ⟨_, [], false, rfl, fun h => (by cases h), fun _ => ⟨rfl, HNO.out⟩, hb.grown (grownBy_putObj' _ _ _) hb.size (fun r e => by cases e; omega)⟩
end Go.Proofs.YtlfehjjnepiljaaGreatDoor

namespace Go.Proofs.YtlfehjjnepiljaaGreatDoor
open Go.RowKit Go.Shelf

theorem zero27 : (Tryz.prog.info? 27).map (·.zero) = some (some (.agg #[.slice none 0 0])) := by kernel_rfl
theorem info27 (x : Value) : (Tryz.prog.info? 27).map (·.size) = some (#[x] : Array Value).size := by
  show _ = some 1
  kernel_rfl
theorem built27 : Tryz.prog.built 27 [] = some #[.slice none 0 0] := by kernel_rfl
theorem built27s (a : Option Addr) (n c : Nat) : Tryz.prog.built 27 [(0, .slice a n c)] = some #[.slice a n c] := by kernel_rfl
theorem slice_one (a : Option Addr) (n c : Nat) : (#[.slice a n c] : Array Value).all (·.oneCell') = true := by
  simp [Value.oneCell']
theorem builds_none27 {ops : Array Oper} {rest : List Oper} {o : Oper} {a : Act} {w : World} {Q : Exit → Act → World → Prop} (hg : o.guard = none) (ho : o.op = .build 27 #[]) (h : wpList Tryz.prog ops Q rest (a.put o.dst (.agg #[.slice none 0 0])) w) : wpList Tryz.prog ops Q (o :: rest) a w := by
  have e : Tryz.prog.built 27 ((#[] : Array (Nat × Operand)).map fun (i, x) => (i, a.eval x)).toList = some #[.slice none 0 0] := (congrArg (Tryz.prog.built 27) (by simp)).trans built27
  exact wpList_build hg 27 #[] ho (by rw [e]; rfl) (by rw [e]; exact h)
theorem builds27 {ops : Array Oper} {rest : List Oper} {o : Oper} {ac : Act} {w : World} {Q : Exit → Act → World → Prop} (hg : o.guard = none) (x : Operand) (ho : o.op = .build 27 #[(0, x)]) (a : Option Addr) (n c : Nat) (hx : ac.eval x = .slice a n c)
    (h : wpList Tryz.prog ops Q rest (ac.put o.dst (.agg #[.slice a n c])) w) : wpList Tryz.prog ops Q (o :: rest) ac w := by
  have e : Tryz.prog.built 27 ((#[(0, x)] : Array (Nat × Operand)).map fun (i, x) => (i, ac.eval x)).toList = some #[.slice a n c] := by
    refine Eq.trans (congrArg (Tryz.prog.built 27) ?_) (built27s a n c)
    simp [hx]
  exact wpList_build hg 27 _ ho (by rw [e]; rfl) (by rw [e]; exact h)
theorem setRow_grown (w : World) (g : Nat) (cs : Array Value) : w.grownBy (w.setRow g cs) (some g) := ⟨rfl, rfl, rfl, by simp, fun k _ hk => setRow_other w g k _ (fun e => hk (by simp [e]))⟩
def ReadS (s : Str) (w : World) (e : Ending) (w' : World) : Prop :=
  ∃ (x : Value) (l : List (List Bd)) (z : Int), e = .returned (.tuple #[.agg #[x], .int .i64 z]) ∧ ((z = 0 ∧ spanOk l = true ∧ spanT l = s ∧ OwnR w' w.heap.size x l) ∨ (z = 150 ∧ x = .slice none 0 0 ∧ ∀ m, spanOk m = true → spanT m ≠ s)) ∧ Below w.heap.size w w'

set_option maxRecDepth 100000 in
set_option maxHeartbeats 2000000 in
theorem sread_any (s : ByteArray) (hs : s.size < 4294967281) (w : World) (hF : FrW w) (hM : MaxW w) (hM1 : 1 < w.heap.size) : Calls Tryz.prog 17 #[.string s] w (ReadS s.data.toList w) := by
  have X0 : Hid (Box (w.alloc (.cells #[.slice none 0 0] 27)) w.heap.size 27 #[.slice none 0 0]) := Lib.hid box_new
  have B0 : Hid (Below w.heap.size w (w.alloc (.cells #[.slice none 0 0] 27))) := Lib.hid (below_new _ _)
  have HR := Lib.hid (rows_any s hs (w.alloc (.cells #[.slice none 0 0] 27)) (hF.below B0.out) (hM.below hM1 B0.out) (by simp; omega))
  clear hs hF hM hM1
  go_enter Tryz.func17, Tryz.ntmps17
  go_wp2_with (with_reducible refine wpList_zero rfl 27 rfl #[.slice none 0 0] zero27 ?_)
  refine HR.out.mono ?_
  rintro e w1 ⟨x, l, o, rfl, h1, h2, hb⟩
  have H1 := Lib.hid h1
  have H2 := Lib.hid h2
  have X1 := Lib.hid (X0.out.on hb)
  have B1 := Lib.hid (bch B0.out hb)
  have HL : Hid (w.heap.size + 1 = (w.alloc (.cells #[.slice none 0 0] 27)).heap.size) := Lib.hid (by simp)
  clear HR X0 B0 h1 h2 hb
  cases o with
  | false =>
    obtain ⟨rfl, hno⟩ := H2.out rfl
    have HNO := Lib.hid hno
    clear H1 H2 hno
    go_wp2_with (first
      | (refine builds_none27 rfl rfl ?_)
      | (refine wpList_store_row rfl 27 (.tmp 2) (.tmp 13) rfl w.heap.size #[.slice none 0 0] rfl rfl 27 _ X1.out (info27 _) rfl (slice_one _ _ _) ?_))
    refine bodyPost_ret (results_ver rfl _ _ w.heap.size rfl #[.slice none 0 0] (run_loadVar_row _ w.heap.size 27 27 #[.slice none 0 0] (0, 0) _ (X1.out.row _) Tryz.underlying27 rfl (info27 _))) rfl ⟨_, [], 150, rfl, .inr ⟨rfl, rfl, HNO.out⟩, below_row B1.out (Nat.le_refl _) _⟩
  | true =>
    have HOK := Lib.hid (H1.out rfl)
    obtain ⟨a, c, rfl⟩ := HOK.out.2.2.form
    clear H1 H2
    go_wp2_with (first
      | (refine builds27 rfl (.tmp 14) rfl a l.length c rfl ?_)
      | (refine wpList_store_row rfl 27 (.tmp 2) (.tmp 15) rfl w.heap.size #[.slice a l.length c] rfl rfl 27 _ X1.out (info27 _) rfl (slice_one _ _ _) ?_))
    refine bodyPost_ret (results_ver rfl _ _ w.heap.size rfl #[.slice a l.length c] (run_loadVar_row _ w.heap.size 27 27 #[.slice a l.length c] (0, 0) _ (X1.out.row _) Tryz.underlying27 rfl (info27 _))) rfl ⟨_, l, 0, rfl, .inl ⟨rfl, HOK.out.1, HOK.out.2.1, ?_⟩, below_row B1.out (Nat.le_refl _) _⟩
    have ho := HOK.out.2.2
    rw [← HL.out] at ho
    exact (ho.apart (setRow_grown w1 w.heap.size _) (fun k e => by cases e; omega)).base (by omega)
end Go.Proofs.YtlfehjjnepiljaaGreatDoor

namespace Go.Proofs.YtlfehjjnepiljaaGreatDoor
open Go.RowKit Go.Shelf

theorem join_list (c : UInt8) : ∀ L : List Str, Lib.join L [c] = joinL c L
  | [] => rfl
  | [a] => Lib.join_one a [c]
  | a :: b :: r => by
    have := join_list c (b :: r)
    rw [Lib.join_cons] at this ⊢
    rw [joinL, ← this]
    simp [Lib.joinTail]
theorem join_listD : ∀ L : List Str, Lib.join L [124, 124] = joinD L
  | [] => rfl
  | [a] => Lib.join_one a _
  | a :: b :: r => by
    have := join_listD (b :: r)
    rw [Lib.join_cons] at this ⊢
    rw [joinD, ← this]
    simp [Lib.joinTail]
theorem vtext_len {v : Ver} (h : v.ok = true) : v.text.length ≤ 40 := by
  have h4 := many_ok4 h
  have hd := dots_len v.num v.many.toNat (fun j hj => by
    have := ok_num4 h j (by omega)
    unfold numB at this
    simp only [decide_eq_true_eq] at this
    omega)
  have hs : (if v.step = 0 then [] else Lib.decDigits v.step.toNat).length ≤ 4 ∧ (if v.tag.data.toList = [] then ([] : Str) else 45 :: v.tag.data.toList).length ≤ 7 := by
    by_cases ht : v.tag.data.toList = []
    · rw [if_pos (ok_step0 h ht), if_pos ht]
      simp
    · have h1 := ok_tag h ht
      have h2 := ok_stepb h ht
      rw [if_neg ht]
      refine ⟨?_, by rw [List.length_cons]; omega⟩
      split
      · simp
      · exact nD_le _ (by omega)
  unfold Ver.text
  rw [List.length_append, List.length_append]
  omega
theorem btext_len {b : Bd} (h : b.ok = true) : b.text.length ≤ 44 := by
  have := vtext_len (bd_ok h).2.1
  have h1 : (aheadL b.kind).length ≤ 2 := by unfold aheadL; (repeat' split) <;> simp
  have h2 : (behindL b.kind).length ≤ 2 := by unfold behindL; split <;> simp
  unfold Bd.text
  rw [List.length_append, List.length_append]
  omega
theorem joinL_len (c : UInt8) (m : Nat) : ∀ L : List Str, (∀ x ∈ L, x.length ≤ m) → (joinL c L).length ≤ L.length * (m + 1)
  | [], _ => by simp [joinL]
  | [a], h => by have := h a (by simp); simp [joinL]; omega
  | a :: b :: r, h => by
    have h1 := h a (by simp)
    have h2 := joinL_len c m (b :: r) (fun x hx => h x (by simp [hx]))
    rw [joinL, List.length_append, List.length_cons]
    simp only [List.length_cons] at h2 ⊢
    rw [Nat.succ_mul]
    omega
theorem ofB_add (x y : Str) : ofB (x ++ y) = ofB x ++ ofB y := by
  apply ba_ext
  rw [ByteArray.data_append]
  simp [ofB]
theorem ahead_len (k : Int) : (ofB (aheadL k)).size ≤ 2 := by
  show (aheadL k).length ≤ 2
  unfold aheadL
  (repeat' split) <;> simp
theorem behind_len (k : Int) : (ofB (behindL k)).size ≤ 2 := by
  show (behindL k).length ≤ 2
  unfold behindL
  split <;> simp
theorem vtext_any {v : Ver} (hv : v.ok = true) (w : World) (hT : TabW w) : Calls Tryz.prog 81 #[.agg v.arr] w fun e w' => e = .returned (.tuple #[.string (ofB v.text), .int .i64 0]) ∧ Below w.heap.size w w' := by
  have h := text_any v w hT
  have e : v.textR = (v.text, 0) := if_pos hv
  rw [e] at h
  exact h
theorem info9z : (Tryz.prog.info? 9).map (fun i => (i.zero, i.size, i.bytes)) = some (some (.string ⟨#[]⟩), 1, 16) := by kernel_rfl
/-- append of one text to a row of texts of the call's own, at a step of a region that draws. -/
theorem wp_append_str {op : Oper} {a : Act} {w : World} {K : Act → World → Prop} {Q : Exit → Act → World → Prop} {ops : Array Oper} (hw : Region.wanted op (yielded ops a.tmps) = true) (s x : Operand)
    (ho : op.op = .call { callee := .builtin .append, args := #[s, x], argTypes := #[23, 23] }) (base : Nat) (v : Value) (ts : List ByteArray) (hs : a.eval s = v) (hown : w.ownsRow base 9 1 v ts.length (ts.map Value.string)) (g : Nat) (y : ByteArray) (hx : a.eval x = .slice (some ⟨g, 0, none⟩) 1 1)
    (hy : w.cell? ⟨g, 0, none⟩ = some (.string y)) (hl : ts.length ≤ 1000) (hb : base ≤ w.heap.size)
    (h : ∀ v' w', w'.ownsRow base 9 1 v' (ts ++ [y]).length ((ts ++ [y]).map Value.string) → w.grownBy w' v.ownBlock → K (a.put op.dst v') w') : if Region.wanted op (yielded ops a.tmps) = true then op.wp Tryz.prog a w K Q else K (a.put op.dst undef) w := by
  rw [if_pos hw]
  obtain ⟨i0, hi, hz0, hz1, hz2⟩ := info_parts info9z
  obtain ⟨v', w', hr, h2, h3, _⟩ := run_append_own_at (P := Tryz.prog) w base 23 op.type 9 i0 (.string ⟨#[]⟩) 1 16 Tryz.underlying23 hi hz0 hz1 hz2 rfl (by decide) v ts.length (ts.map Value.string) hown ⟨g, 0, none⟩ 1 1 [.string y] rfl (fun j u hu => by
    have hj : j = 0 := by
      have := (List.getElem?_eq_some_iff.1 hu).1
      simpa using this
    subst hj
    cases hu
    exact hy) (by simp [Value.oneCell']) (by unfold maxLen; omega) (by omega) hb
  unfold Oper.wp execOp
  simp only [ho, resolve, invoke, builtin, Sem.run_bind, Sem.run_pure, Result.andThen_ok, List.map_toArray, List.map_cons, List.map_nil, hs, hx, hr]
  exact h v' w' (by rw [List.length_append, List.map_append]; exact h2) h3
/-- What holds while a bound's text is put together. -/
structure SaysB (g k : Nat) (b : Bd) (w W : World) : Prop where
  box : Box W g 57 b.arr
  fr : FrW W
  low : Below w.heap.size w W
  kind : b.kind = (k : Int)
namespace SaysB
variable {g k : Nat} {b : Bd} {w W W' : World}
theorem drew (h : SaysB g k b w W) : SaysB g k b w W.drew := ⟨h.box, h.fr, h.low.drew, h.kind⟩
theorem alloc (h : SaysB g k b w W) (o : Obj) : SaysB g k b w (W.alloc o) := ⟨h.box.alloc o, h.fr.below (below_new W o), h.low.alloc h.low.size o, h.kind⟩
theorem grown (h : SaysB g k b w W) {row : Option Nat} (hg : W.grownBy W' row) (hne : some g ≠ row) (hr : ∀ j, row = some j → 0 < w.heap.size ∧ w.heap.size ≤ j) : SaysB g k b w W' :=
  ⟨(hg.block g h.box.lt hne).trans h.box, ⟨Nat.lt_of_lt_of_le h.fr.1 hg.size, fun i hi => by
    have far : ∀ t, W'.cell? ⟨0, t, none⟩ = W.cell? ⟨0, t, none⟩ := fun t => by
      have e0 : W'.heap[0]? = W.heap[0]? := hg.block 0 h.fr.1 (fun e => by have := hr 0 e.symm; omega)
      simp [World.cell?, e0]
    rw [far, far]
    exact h.fr.2 i hi⟩, h.low.grown hg h.low.size (fun j e => (hr j e).2), h.kind⟩
end SaysB
def textsOf (l : List Bd) : List ByteArray := l.map fun b => ofB b.text
theorem texts_snoc {l : List Bd} {k : Nat} {b : Bd} (h : l[k]? = some b) : textsOf (l.take (k + 1)) = textsOf (l.take k) ++ [ofB b.text] := by
  unfold textsOf
  rw [List.take_add_one, h, List.map_append]
  rfl

set_option maxRecDepth 100000 in
set_option maxHeartbeats 8000000 in
theorem sayRow_any (l : List Bd) (x : Value) (w : World) (hx : RdB w x l) (hok : rowOk l = true) (hF : FrW w) (hT : TabW w) : Calls Tryz.prog 61 #[x] w fun e w' => e = .returned (.string (ofB (rowT l))) ∧ Below w.heap.size w w' := by
  obtain ⟨a, c, rfl, hlc, hcm, hcell⟩ := hx.open
  have HC := Lib.hid hcell
  have HF := Lib.hid hF
  have HT := Lib.hid hT
  have HROK := Lib.hid (row_ok hok)
  obtain ⟨n, hn⟩ : ∃ n, n = l.length := ⟨_, rfl⟩
  rw [← hn] at hlc HC ⊢
  have HN := Lib.hid hn
  have hn4 : n ≤ 4 := by rw [hn]; exact (row_ok hok).1
  have w0 : 0 < w.heap.size := hF.1
  unfold maxLen at hcm
  clear hn hcell hx hok hF hT
  by_cases h0 : n = 0
  · have z0 : ((n : Int) == 0) = true := by simp [h0]
    have HE : Hid (rowT l = [42]) := Lib.hid (by
      have : l = [] := List.eq_nil_of_length_eq_zero (by have := HN.out; omega)
      rw [this]; rfl)
    clear h0
    go_enter Tryz.func61, Tryz.ntmps61
    go_wp2_with fail
    go_ret
    exact ⟨by rw [HE.out]; rfl, Below.refl _ _⟩
  · have z0 : ((n : Int) == 0) = false := by rw [beq_eq_false_iff_ne]; omega
    have HNE : Hid (l ≠ []) := Lib.hid (fun e => by have := HN.out; rw [e] at this; simp at this; omega)
    clear h0
    go_enter Tryz.func61, Tryz.ntmps61
    go_wp2_with fail
    go_loopw [3, 5, 6, 7, 13, 14, 15, 16, 17, 18, 19, 20, 21, 22, 23, 24, 25, 26, 27, 28, 29, 30, 31, 32, 33, 34, 35, 36, 37, 38, 39] (fun r _ _ _ i _ _ _ _ _ _ _ _ _ _ _ _ _ _ _ _ _ _ _ _ _ _ _ _ _ _ W => ∃ j : Nat, j ≤ n ∧ i = .int .i64 j ∧ W.ownsRow w.heap.size 9 1 r (textsOf (l.take j)).length ((textsOf (l.take j)).map Value.string) ∧ Hid (Below w.heap.size w W)) (fun _ _ _ _ i _ _ _ _ _ _ _ _ _ _ _ _ _ _ _ _ _ _ _ _ _ _ _ _ _ _ _ => n - (Lib.intOf i).toNat)
    case atStart => exact ⟨0, Nat.zero_le _, rfl, World.ownsRow_nil _ _ _ _, Lib.hid (Below.refl _ _)⟩
    case round =>
      obtain ⟨j, hj, rfl, hrow, HB⟩ := hrel
      have HR := Lib.hid hrow
      clear hrow
      obtain ⟨wq, hwq⟩ : ∃ q, q = wr := ⟨_, rfl⟩
      rw [← hwq] at HR HB ⊢
      clear hwq
      by_cases jlt : j < n
      · obtain ⟨b, hb⟩ : ∃ v, l[j]? = some v := ⟨_, List.getElem?_eq_getElem (by have := HN.out; omega)⟩
        obtain ⟨g2, o2, rfl, hg2, hc2⟩ := HC.out (by omega)
        obtain ⟨q0, q1, q2, q3, q4, q5, q6, q7⟩ := (hc2 j b hb).on hg2 HB.out
        have j1 : (j : Int) < (n : Int) := by omega
        have j2 : (0 : Int) ≤ (j : Int) := by omega
        have j4 : IntKind.i64.wrap ((j : Int) + 1) = (j : Int) + 1 := IntWalk.i64_in _ (by omega)
        have HTS := Lib.hid (texts_snoc hb)
        have HOKB := Lib.hid (HROK.out.2 b (List.mem_of_getElem? hb))
        obtain ⟨ts, hts⟩ : ∃ ts, ts = textsOf (l.take j) := ⟨_, rfl⟩
        rw [← hts] at HR HTS
        have HTL : Hid (ts.length ≤ 4) := Lib.hid (by rw [hts]; unfold textsOf; simp; omega)
        have Y0 : Hid (Box (wq.alloc (.cells Bd.zero.arr 57)) wq.heap.size 57 Bd.zero.arr) := Lib.hid box_new
        obtain ⟨w2, hw2⟩ : ∃ q, q = (wq.alloc (.cells Bd.zero.arr 57)).setRow wq.heap.size b.arr := ⟨_, rfl⟩
        have Y2 : Hid (Box w2 wq.heap.size 57 b.arr) := Lib.hid (by rw [hw2]; exact Y0.out.row _)
        have b2 : Below wq.heap.size wq w2 := by rw [hw2]; exact below_row ((Below.refl _ _).alloc (Nat.le_refl _) _) (Nat.le_refl _) _
        have B2 : Hid (Below w.heap.size w w2) := Lib.hid (bch HB.out b2)
        have R2 := Lib.hid (owns_below HR.out b2)
        have HOB : Hid (∀ i, u3.ownBlock = some i → i < wq.heap.size ∧ w.heap.size ≤ i) := Lib.hid (fun i e => by have := HR.out.lt i e; omega)
        clear hb hc2 b2 hts
        go_upto_region 7 with (first
          | (with_reducible refine wpList_zero rfl 57 rfl Bd.zero.arr zero57 ?_)
          | (refine wpList_store_row rfl 57 (.tmp 5) (.tmp 16) rfl wq.heap.size b.arr rfl rfl 57 _ Y0.out (info57 _) rfl (barr_one _) ?_))
        rw [← hw2]
        have gq := HB.out.size
        obtain ⟨g5, hg5⟩ : ∃ q, q = wq.heap.size := ⟨_, rfl⟩
        rw [← hg5] at Y2 HOB gq ⊢
        clear hw2 Y0 q0 q1 q2 q3 q4 q5 q6 q7 HB HR hg5
        have HV := Lib.hid (fun W hW => vtext_any (bd_ok HOKB.out).2.1 W hW)
        obtain ⟨q0, q1, q2, q3, q4, q5, q6, q7⟩ := Y2.out.bd
        go_wp2_with fail
        refine (HV.out _ (HT.out.below B2.out)).mono ?_
        rintro e w3 ⟨rfl, hb⟩
        have Y3 := Lib.hid (Y2.out.on hb)
        have R3 := Lib.hid (owns_below R2.out hb)
        have B3 := Lib.hid (bch B2.out hb)
        clear Y2 R2 B2 HV hb q0 q1 q2 q3 q4 q5 q6 q7
        obtain ⟨k, hk⟩ : ∃ k : Nat, b.kind = (k : Int) := ⟨b.kind.toNat, by have := (bd_ok HOKB.out).1; omega⟩
        have hk8 : k < 8 := by have := (bd_ok HOKB.out).1; omega
        have HK8 := Lib.hid hk8
        have k0 : Hid (SaysB g5 k b w w3) := Lib.hid ⟨Y3.out, HF.out.below B3.out, B3.out, hk⟩
        have k1 : (0 : Int) ≤ (k : Int) := by omega
        have k2 : (k : Int) < 8 := by omega
        have HKK := Lib.hid hk
        have HTX : Hid (ofB b.text = ofB (aheadL (k : Int)) ++ ofB b.ver.text ++ ofB (behindL (k : Int))) := Lib.hid (by
          unfold Bd.text
          rw [hk]
          exact (ofB_add _ _).trans (by rw [ofB_add]))
        have sz1 : (ofB (aheadL (k : Int))).size ≤ 2 := ahead_len _
        have sz2 : (ofB b.ver.text).size ≤ 40 := vtext_len (bd_ok HOKB.out).2.1
        have sz3 : (ofB (behindL (k : Int))).size ≤ 2 := behind_len _
        obtain ⟨ta, hta⟩ : ∃ t, t = ofB (aheadL (k : Int)) := ⟨_, rfl⟩
        obtain ⟨tv, htv⟩ : ∃ t, t = ofB b.ver.text := ⟨_, rfl⟩
        obtain ⟨tz, htz⟩ : ∃ t, t = ofB (behindL (k : Int)) := ⟨_, rfl⟩
        rw [← hta, ← htv, ← htz] at HTX
        rw [← hta] at sz1
        rw [← htv] at sz2 ⊢
        rw [← htz] at sz3
        have HTA := Lib.hid hta
        have HTZ := Lib.hid htz
        have cc1 : ¬ 9223372036854775807 < ta.size + tv.size := by omega
        have cc2 : ¬ 9223372036854775807 < ta.size + tv.size + tz.size := by omega
        have cc3 : ¬ 9223372036854775807 < (ta ++ tv).size + tz.size := by rw [ByteArray.size_append]; omega
        clear hk hta htv htz
        go_upto_region 8 with fail
        obtain ⟨WD, hWD⟩ : ∃ q, q = World.drew w3 := ⟨_, rfl⟩
        have RD : Hid (WD.ownsRow w.heap.size 9 1 u3 ts.length (ts.map Value.string)) := Lib.hid (by rw [hWD]; exact R3.out)
        refine wp_region_held_drew (S := fun w' => SaysB g5 k b w w') (by kernel_rfl) k0.out.drew (fun hHeld => ?_)
        rw [← hWD] at hHeld ⊢
        clear hWD k0 R3 B3 Y3
        refine wpAnyH_take (i := 0) (oi := { dst := some 23, op := Op.move (Operand.tmp 3), type := 23, pos := "text.go:50", after := #[], guard := none }) (v := ?_) rfl (by kernel_rfl) (by kernel_rfl) (by kernel_rfl) (fun _ _ _ h => h) (Or.inl ⟨by rfl, ?_⟩) hHeld ?_
        rotate_left
        · (intro w hSw; go_simp; try with_reducible rfl)
        (try simp only [Act.put, List.setIfInBounds_toArray, List.set_cons_zero, List.set_cons_succ])
        refine wpAnyH_take (i := 1) (oi := { dst := some 24, op := Op.fieldAddr 57 (Operand.tmp 5) 0, type := 0, pos := "text.go:50", after := #[], guard := none }) (v := ?_) rfl (by kernel_rfl) (by kernel_rfl) (by kernel_rfl) (fun _ _ _ h => h) (Or.inl ⟨by rfl, ?_⟩) hHeld ?_
        rotate_left
        · (intro w hSw; go_simp; try with_reducible rfl)
        (try simp only [Act.put, List.setIfInBounds_toArray, List.set_cons_zero, List.set_cons_succ])
        refine wpAnyH_take (i := 2) (oi := { dst := some 25, op := Op.load 3 (Operand.tmp 24), type := 3, pos := "text.go:50", after := #[{ on := 1, ground := Ground.data }], guard := none }) (v := ?_) rfl (by kernel_rfl) (by kernel_rfl) (by kernel_rfl) (fun _ _ _ h => h) (Or.inl ⟨by rfl, ?_⟩) hHeld ?_
        rotate_left
        · (intro w hSw; have p0 := hSw.box.bd.c0; rw [hSw.kind] at p0; go_simp; try with_reducible rfl)
        (try simp only [Act.put, List.setIfInBounds_toArray, List.set_cons_zero, List.set_cons_succ])
        refine wpAnyH_take (i := 3) (oi := { dst := some 26, op := Op.indexAddr 110 (Operand.global 0) (Operand.tmp 25), type := 0, pos := "text.go:50", after := #[{ on := 2, ground := Ground.data }], guard := none }) (v := ?_) rfl (by kernel_rfl) (by kernel_rfl) (by kernel_rfl) (fun _ _ _ h => h) (Or.inl ⟨by rfl, ?_⟩) hHeld ?_
        rotate_left
        · (intro w hSw; go_simp; try with_reducible rfl)
        (try simp only [Act.put, List.setIfInBounds_toArray, List.set_cons_zero, List.set_cons_succ])
        refine wpAnyH_take (i := 4) (oi := { dst := some 27, op := Op.fieldAddr 109 (Operand.tmp 26) 0, type := 0, pos := "text.go:50", after := #[{ on := 3, ground := Ground.data }], guard := none }) (v := ?_) rfl (by kernel_rfl) (by kernel_rfl) (by kernel_rfl) (fun _ _ _ h => h) (Or.inl ⟨by rfl, ?_⟩) hHeld ?_
        rotate_left
        · (intro w hSw; go_simp; try with_reducible rfl)
        (try simp only [Act.put, List.setIfInBounds_toArray, List.set_cons_zero, List.set_cons_succ])
        refine wpAnyH_take (i := 5) (oi := { dst := some 28, op := Op.load 9 (Operand.tmp 27), type := 9, pos := "text.go:50", after := #[{ on := 4, ground := Ground.data }], guard := none }) (v := ?_) rfl (by kernel_rfl) (by kernel_rfl) (by kernel_rfl) (fun _ _ _ h => h) (Or.inl ⟨by rfl, ?_⟩) hHeld ?_
        rotate_left
        · (intro w hSw; have p1 := (hSw.fr.2 k HK8.out).1; rw [← HTA.out] at p1; go_simp; try with_reducible rfl)
        (try simp only [Act.put, List.setIfInBounds_toArray, List.set_cons_zero, List.set_cons_succ])
        refine wpAnyH_take (i := 6) (oi := { dst := some 29, op := Op.move (Operand.tmp 6), type := 9, pos := "text.go:50", after := #[], guard := none }) (v := ?_) rfl (by kernel_rfl) (by kernel_rfl) (by kernel_rfl) (fun _ _ _ h => h) (Or.inl ⟨by rfl, ?_⟩) hHeld ?_
        rotate_left
        · (intro w hSw; go_simp; try with_reducible rfl)
        (try simp only [Act.put, List.setIfInBounds_toArray, List.set_cons_zero, List.set_cons_succ])
        refine wpAnyH_take (i := 7) (oi := { dst := some 30, op := Op.binOp BinOp.add 9 (Operand.tmp 28) (Operand.tmp 29) 9, type := 9, pos := "text.go:50", after := #[{ on := 5, ground := Ground.data }, { on := 6, ground := Ground.data }], guard := none }) (v := ?_) rfl (by kernel_rfl) (by kernel_rfl) (by kernel_rfl) (fun _ _ _ h => h) (Or.inl ⟨by rfl, ?_⟩) hHeld ?_
        rotate_left
        · (intro w hSw; go_simp; try with_reducible rfl)
        (try simp only [Act.put, List.setIfInBounds_toArray, List.set_cons_zero, List.set_cons_succ])
        refine wpAnyH_take (i := 8) (oi := { dst := some 31, op := Op.fieldAddr 57 (Operand.tmp 5) 0, type := 0, pos := "text.go:50", after := #[], guard := none }) (v := ?_) rfl (by kernel_rfl) (by kernel_rfl) (by kernel_rfl) (fun _ _ _ h => h) (Or.inl ⟨by rfl, ?_⟩) hHeld ?_
        rotate_left
        · (intro w hSw; go_simp; try with_reducible rfl)
        (try simp only [Act.put, List.setIfInBounds_toArray, List.set_cons_zero, List.set_cons_succ])
        refine wpAnyH_take (i := 9) (oi := { dst := some 32, op := Op.load 3 (Operand.tmp 31), type := 3, pos := "text.go:50", after := #[{ on := 8, ground := Ground.data }], guard := none }) (v := ?_) rfl (by kernel_rfl) (by kernel_rfl) (by kernel_rfl) (fun _ _ _ h => h) (Or.inl ⟨by rfl, ?_⟩) hHeld ?_
        rotate_left
        · (intro w hSw; have p0 := hSw.box.bd.c0; rw [hSw.kind] at p0; go_simp; try with_reducible rfl)
        (try simp only [Act.put, List.setIfInBounds_toArray, List.set_cons_zero, List.set_cons_succ])
        refine wpAnyH_take (i := 10) (oi := { dst := some 33, op := Op.indexAddr 110 (Operand.global 0) (Operand.tmp 32), type := 0, pos := "text.go:50", after := #[{ on := 9, ground := Ground.data }], guard := none }) (v := ?_) rfl (by kernel_rfl) (by kernel_rfl) (by kernel_rfl) (fun _ _ _ h => h) (Or.inl ⟨by rfl, ?_⟩) hHeld ?_
        rotate_left
        · (intro w hSw; go_simp; try with_reducible rfl)
        (try simp only [Act.put, List.setIfInBounds_toArray, List.set_cons_zero, List.set_cons_succ])
        refine wpAnyH_take (i := 11) (oi := { dst := some 34, op := Op.fieldAddr 109 (Operand.tmp 33) 1, type := 0, pos := "text.go:50", after := #[{ on := 10, ground := Ground.data }], guard := none }) (v := ?_) rfl (by kernel_rfl) (by kernel_rfl) (by kernel_rfl) (fun _ _ _ h => h) (Or.inl ⟨by rfl, ?_⟩) hHeld ?_
        rotate_left
        · (intro w hSw; go_simp; try with_reducible rfl)
        (try simp only [Act.put, List.setIfInBounds_toArray, List.set_cons_zero, List.set_cons_succ])
        refine wpAnyH_take (i := 12) (oi := { dst := some 35, op := Op.load 9 (Operand.tmp 34), type := 9, pos := "text.go:50", after := #[{ on := 11, ground := Ground.data }], guard := none }) (v := ?_) rfl (by kernel_rfl) (by kernel_rfl) (by kernel_rfl) (fun _ _ _ h => h) (Or.inl ⟨by rfl, ?_⟩) hHeld ?_
        rotate_left
        · (intro w hSw; have p1 := (hSw.fr.2 k HK8.out).2; rw [← HTZ.out] at p1; go_simp; try with_reducible rfl)
        (try simp only [Act.put, List.setIfInBounds_toArray, List.set_cons_zero, List.set_cons_succ])
        refine wpAnyH_take (i := 13) (oi := { dst := some 36, op := Op.binOp BinOp.add 9 (Operand.tmp 30) (Operand.tmp 35) 9, type := 9, pos := "text.go:50", after := #[{ on := 7, ground := Ground.data }, { on := 12, ground := Ground.data }], guard := none }) (v := ?_) rfl (by kernel_rfl) (by kernel_rfl) (by kernel_rfl) (fun _ _ _ h => h) (Or.inl ⟨by rfl, ?_⟩) hHeld ?_
        rotate_left
        · (intro w hSw; go_simp; try with_reducible rfl)
        (try simp only [Act.put, List.setIfInBounds_toArray, List.set_cons_zero, List.set_cons_succ])
        refine wpAnyH_ready (rs := [14]) (by kernel_rfl) (by simp) (AllReadyH.cons (o := { dst := some 37, op := Op.buildSlice 23 1 #[(0, Operand.tmp 36)], type := 23, pos := "text.go:50", after := #[{ on := 13, ground := Ground.data }], guard := none }) rfl (fun K hK => ?_) AllReadyH.nil)
        · go_simp
          have KD := hHeld
          refine hK.out _ _ (hHeld.alloc _) (fun hHeld => ?_)
          (try simp only [Act.put, List.setIfInBounds_toArray, List.set_cons_zero, List.set_cons_succ])
          refine wpAnyH_ready (rs := [15]) (by kernel_rfl) (by simp) (AllReadyH.cons (o := { dst := some 38, op := Op.call { callee := Callee.builtin Builtin.append, args := #[Operand.tmp 23, Operand.tmp 37], argTypes := #[23, 23] }, type := 23, pos := "text.go:50", after := #[{ on := 0, ground := Ground.data }, { on := 14, ground := Ground.data }], guard := none }) rfl (fun K hK => ?_) AllReadyH.nil)
          · refine wp_append_str (by rfl) (.tmp 23) (.tmp 37) rfl w.heap.size u3 ts rfl (RD.out.alloc _) WD.heap.size (_) rfl (World.cell?_alloc_new WD _ _ 0) (by have := HTL.out; omega) (by have := KD.low.size; simp; omega) ?_
            intro v9 w9 own9 grow9
            have O9 := Lib.hid own9
            refine hK.out _ _ (hHeld.grown grow9 (fun e => by have := HOB.out g5 e.symm; omega) (fun j e => ⟨w0, (HOB.out j e).2⟩)) (fun hHeld => ?_)
            clear own9 grow9
            (try simp only [Act.put, List.setIfInBounds_toArray, List.set_cons_zero, List.set_cons_succ])
            refine wpAnyH_take (i := 16) (oi := { dst := some 3, op := Op.assign (Operand.tmp 38), type := 23, pos := "text.go:50", after := #[{ on := 15, ground := Ground.data }, { on := 15, ground := Ground.chain }, { on := 0, ground := Ground.phase }, { on := 1, ground := Ground.phase }, { on := 2, ground := Ground.phase }, { on := 3, ground := Ground.phase }, { on := 4, ground := Ground.phase }, { on := 5, ground := Ground.phase }, { on := 6, ground := Ground.phase }, { on := 7, ground := Ground.phase }, { on := 8, ground := Ground.phase }, { on := 9, ground := Ground.phase }, { on := 10, ground := Ground.phase }, { on := 11, ground := Ground.phase }, { on := 12, ground := Ground.phase }, { on := 13, ground := Ground.phase }, { on := 14, ground := Ground.phase }, { on := 15, ground := Ground.phase }], guard := none }) (v := ?_) rfl (by kernel_rfl) (by kernel_rfl) (by kernel_rfl) (fun _ _ _ h => h) (Or.inl ⟨by rfl, ?_⟩) hHeld ?_
            rotate_left
            · (intro w hSw; go_simp; try with_reducible rfl)
            (try simp only [Act.put, List.setIfInBounds_toArray, List.set_cons_zero, List.set_cons_succ])
            refine wpAnyH_done (by kernel_rfl) ?_ _
            have HD := Lib.hid hHeld
            clear hHeld
            go_wp2_with fail
            go_roundw
            case rel => exact ⟨j + 1, jlt, by go_num, by rw [HTS.out, HTX.out]; exact O9.out, Lib.hid HD.out.low⟩
            case measure => simp [Lib.intOf]; omega
      · have j1 : ¬ ((j : Int) < (n : Int)) := by omega
        have HTF : Hid (textsOf (l.take j) = textsOf l) := Lib.hid (by rw [List.take_of_length_le (by have := HN.out; omega)])
        rw [HTF.out] at HR
        obtain ⟨au, cu, rfl⟩ := ownF_form HR.out
        have hlen : (textsOf l).length = n := by unfold textsOf; rw [List.length_map, ← HN.out]
        obtain ⟨g, rfl⟩ : ∃ g, au = some (⟨g, 0, none⟩ : Addr) := by
          rcases HR.out.2 with ⟨_, h1⟩ | ⟨g, cap, _, h1, _⟩
          · have e : ((n : Int) == 0) = false := z0
            rw [beq_eq_false_iff_ne] at e
            omega
          · cases h1; exact ⟨g, rfl⟩
        have hJ : (Lib.join ((textsOf l).map (·.data.toList)) [44]) = rowT l := by
          rw [join_list, rowT_ne HNE.out]
          congr 1
          unfold textsOf
          rw [List.map_map]
          rfl
        have hbound : (rowT l).length ≤ 140737488355328 := by
          rw [rowT_ne HNE.out]
          have := joinL_len 44 44 (l.map Bd.text) (fun x hx => by
            obtain ⟨b, hb, rfl⟩ := List.mem_map.1 hx
            exact btext_len (HROK.out.2 b hb))
          rw [List.length_map, ← HN.out] at this
          omega
        have HJN := Lib.hid (Tryz.strings_Join g 0 cu (textsOf l) ⟨#[44]⟩ wq (fun i y hi => by
          have := HR.out.cells (g := g) rfl i (.string y) (by rw [List.getElem?_map, hi]; rfl)
          rwa [add_to] at this) (HR.out.lt g rfl).2 (by omega) (by
          rcases HR.out.2 with ⟨h1, _⟩ | ⟨g', cap, _, h1, _, _, h2, _⟩
          · cases h1
          · cases h1; exact h2) (by
          have e : (⟨#[44]⟩ : ByteArray).data.toList = [44] := rfl
          rw [e, hJ]
          exact hbound))
        have HJ2 := Lib.hid hJ
        clear hJ hbound hlen HTF
        go_wp2_with fail
        refine HJN.out.mono ?_
        rintro e w4 ⟨rfl, hb⟩
        have B4 := Lib.hid (bch HB.out hb)
        go_wp2_with fail
        go_ret
        refine ⟨?_, B4.out⟩
        have e : Lib.join ((textsOf l).map (·.data.toList)) (⟨#[44]⟩ : ByteArray).data.toList = rowT l := HJ2.out
        rw [e]
        rfl
end Go.Proofs.YtlfehjjnepiljaaGreatDoor

namespace Go.Proofs.YtlfehjjnepiljaaGreatDoor
open Go.RowKit Go.Shelf

theorem rowT_len {l : List Bd} (h : rowOk l = true) : (rowT l).length ≤ 200 := by
  obtain ⟨h4, hb⟩ := row_ok h
  unfold rowT
  split
  · simp
  · have := joinL_len 44 44 (l.map Bd.text) (fun x hx => by
      obtain ⟨b, hm, rfl⟩ := List.mem_map.1 hx
      exact btext_len (hb b hm))
    rw [List.length_map] at this
    omega
theorem joinD_len (m : Nat) : ∀ L : List Str, (∀ x ∈ L, x.length ≤ m) → (joinD L).length ≤ L.length * (m + 2)
  | [], _ => by simp [joinD]
  | [a], h => by have := h a (by simp); simp [joinD]; omega
  | a :: b :: r, h => by
    have h1 := h a (by simp)
    have h2 := joinD_len m (b :: r) (fun x hx => h x (by simp [hx]))
    rw [joinD, List.length_append, List.length_cons, List.length_cons]
    simp only [List.length_cons] at h2 ⊢
    rw [Nat.succ_mul]
    omega
theorem spanT_len {r : List (List Bd)} (h : spanOk r = true) : (spanT r).length ≤ 1000 := by
  obtain ⟨h4, hr⟩ := span_ok h
  unfold spanT
  have := joinD_len 200 (r.map rowT) (fun x hx => by
    obtain ⟨l, hm, rfl⟩ := List.mem_map.1 hx
    exact rowT_len (hr l hm))
  rw [List.length_map] at this
  omega
def rtexts (r : List (List Bd)) : List ByteArray := r.map fun l => ofB (rowT l)
theorem rtexts_snoc {l : List (List Bd)} {k : Nat} {b : List Bd} (h : l[k]? = some b) : rtexts (l.take (k + 1)) = rtexts (l.take k) ++ [ofB (rowT b)] := by
  unfold rtexts
  rw [List.take_add_one, h, List.map_append]
  rfl

set_option maxRecDepth 100000 in
set_option maxHeartbeats 4000000 in
theorem say_span (ls : List (List Bd)) (x : Value) (w : World) (hx : RdR w x ls) (hok : spanOk ls = true) (hF : FrW w) (hT : TabW w) : Calls Tryz.prog 36 #[.agg #[x]] w fun e w' => e = .returned (.string (ofB (spanT ls))) ∧ Below w.heap.size w w' := by
  obtain ⟨a, c, rfl, hlc, hcm, hcell⟩ := hx.open
  have HC := Lib.hid hcell
  have HOK := Lib.hid hok
  have HSP := Lib.hid (span_ok hok)
  have HF := Lib.hid hF
  have HT := Lib.hid hT
  obtain ⟨n, hn⟩ : ∃ n, n = ls.length := ⟨_, rfl⟩
  rw [← hn] at hlc HC ⊢
  have HN := Lib.hid hn
  have hn4 : n ≤ 4 := by rw [hn]; exact (span_ok hok).1.2
  have hn1 : 1 ≤ n := by rw [hn]; exact (span_ok hok).1.1
  unfold maxLen at hcm
  have X : Box (w.alloc (.cells #[.slice a n c] 27)) w.heap.size 27 #[.slice a n c] := box_new
  have c0 : (w.alloc (.cells #[.slice a n c] 27)).cell? ⟨w.heap.size, 0, none⟩ = some (.slice a n c) := X.cell rfl
  have B0 := Lib.hid (below_new w (.cells #[.slice a n c] 27))
  clear hn hcell hx X hok hF hT
  go_enter Tryz.func36, Tryz.ntmps36
  go_wp2_with fail
  go_loopw [3, 5, 9, 10, 11, 12, 13, 14, 15, 16, 17, 18] (fun r _ i _ _ _ _ _ _ _ _ _ W => ∃ k : Nat, k ≤ n ∧ i = .int .i64 k ∧ W.ownsRow w.heap.size 9 1 r (rtexts (ls.take k)).length ((rtexts (ls.take k)).map Value.string) ∧ Hid (Below w.heap.size w W)) (fun _ _ i _ _ _ _ _ _ _ _ _ _ => n - (Lib.intOf i).toNat)
  case atStart => exact ⟨0, Nat.zero_le _, rfl, World.ownsRow_nil _ _ _ _, B0⟩
  case round =>
    clear c0 B0
    obtain ⟨k, hk, rfl, hrow, HB⟩ := hrel
    have HR := Lib.hid hrow
    clear hrow
    obtain ⟨wq, hwq⟩ : ∃ q, q = wr := ⟨_, rfl⟩
    rw [← hwq] at HR HB ⊢
    clear hwq
    by_cases hlt : k < n
    · obtain ⟨l, hl⟩ : ∃ v, ls[k]? = some v := ⟨_, List.getElem?_eq_getElem (by have := HN.out; omega)⟩
      obtain ⟨g, o, rfl, hg, hc⟩ := HC.out (by omega)
      obtain ⟨v, hv, hr⟩ := hc k l hl
      have r0 := (HB.out.cell (p := ⟨g, _, none⟩) hg).trans hv
      have HRB := hr.on HB.out
      obtain ⟨a2, c2, rfl, _⟩ := hr.open
      have k1 : (k : Int) < (n : Int) := by omega
      have k2 : (0 : Int) ≤ (k : Int) := by omega
      have k4 : IntKind.i64.wrap ((k : Int) + 1) = (k : Int) + 1 := IntWalk.i64_in _ (by omega)
      have HTS := Lib.hid (rtexts_snoc hl)
      have HSR := Lib.hid (sayRow_any l _ wq HRB (HSP.out.2 l (List.mem_of_getElem? hl)) (HF.out.below HB.out) (HT.out.below HB.out))
      obtain ⟨ts, hts⟩ : ∃ ts, ts = rtexts (ls.take k) := ⟨_, rfl⟩
      rw [← hts] at HR HTS
      have htl : ts.length ≤ 4 := by rw [hts]; unfold rtexts; simp; omega
      obtain ⟨tx, htx⟩ : ∃ t, t = ofB (rowT l) := ⟨_, rfl⟩
      rw [← htx] at HTS HSR
      obtain ⟨i0, hi, hz0, hz1, hz2⟩ := info_parts info9z
      obtain ⟨au, cu, rfl⟩ := ownF_form HR.out
      have HLOW : Hid (∀ j, (Value.slice au ts.length cu).ownBlock = some j → w.heap.size ≤ j) := Lib.hid (fun j e => (HR.out.lt j e).1)
      clear hl hc hv hr HRB hts htx
      go_wp2_with fail
      refine HSR.out.mono ?_
      rintro e w3 ⟨rfl, hb⟩
      have B3 := Lib.hid (bch HB.out hb)
      have R3 := Lib.hid (owns_below HR.out hb)
      have hsz3 := B3.out.size
      clear HB HR HSR hb r0
      go_wp2_with (at_builtin; refine wpList_append_own _ rfl _ _ 23 rfl w.heap.size 9 i0 (.string ⟨#[]⟩) 1 16 Tryz.underlying23 hi hz0 hz1 hz2 rfl (by decide) _ _ _ rfl (R3.out.alloc _) ⟨w3.heap.size, 0, none⟩ 1 1 [.string tx] rfl rfl (cell_one_new _ _ _) (by simp [Value.oneCell']) (by unfold maxLen; omega) (by omega) (by simp; omega) ?_; intro v' w4 hown' hgrow _; have HO := Lib.hid hown'; have HG := Lib.hid hgrow; clear hown' hgrow)
      go_roundw
      case rel => exact ⟨k + 1, hlt, by go_num, by rw [HTS.out, List.length_append, List.map_append]; exact HO.out, Lib.hid ((B3.out.alloc hsz3 _).grown HG.out (by simp; omega) HLOW.out)⟩
      case measure => simp [Lib.intOf]; omega
    · have k1 : ¬ ((k : Int) < (n : Int)) := by omega
      have HTF : Hid (rtexts (ls.take k) = rtexts ls) := Lib.hid (by rw [List.take_of_length_le (by have := HN.out; omega)])
      rw [HTF.out] at HR
      obtain ⟨au, cu, rfl⟩ := ownF_form HR.out
      have hlen : (rtexts ls).length = n := by unfold rtexts; rw [List.length_map, ← HN.out]
      obtain ⟨g, rfl⟩ : ∃ g, au = some (⟨g, 0, none⟩ : Addr) := by
        rcases HR.out.2 with ⟨_, h1⟩ | ⟨g, cap, _, h1, _⟩
        · omega
        · cases h1; exact ⟨g, rfl⟩
      have hJ : (Lib.join ((rtexts ls).map (·.data.toList)) [124, 124]) = spanT ls := by
        rw [join_listD]
        unfold spanT
        congr 1
        unfold rtexts
        rw [List.map_map]
        rfl
      have hbound := spanT_len HOK.out
      have HJN := Lib.hid (Tryz.strings_Join g 0 cu (rtexts ls) ⟨#[124, 124]⟩ wq (fun i y hi => by
        have := HR.out.cells (g := g) rfl i (.string y) (by rw [List.getElem?_map, hi]; rfl)
        rwa [add_to] at this) (HR.out.lt g rfl).2 (by omega) (by
        rcases HR.out.2 with ⟨h1, _⟩ | ⟨g', cap, _, h1, _, _, h2, _⟩
        · cases h1
        · cases h1; exact h2) (by
        have e : (⟨#[124, 124]⟩ : ByteArray).data.toList = [124, 124] := rfl
        rw [e, hJ]
        omega))
      have HJ2 := Lib.hid hJ
      clear hJ hbound hlen HTF
      go_wp2_with fail
      refine HJN.out.mono ?_
      rintro e w4 ⟨rfl, hb⟩
      have B4 := Lib.hid (bch HB.out hb)
      go_wp2_with fail
      go_ret
      refine ⟨?_, B4.out⟩
      have e : Lib.join ((rtexts ls).map (·.data.toList)) (⟨#[124, 124]⟩ : ByteArray).data.toList = spanT ls := HJ2.out
      rw [e]
      rfl

def textS (ls : List (List Bd)) : ByteArray × Int := if spanOk ls = true then (ofB (spanT ls), 0) else (⟨#[]⟩, 150)
set_option maxRecDepth 100000 in
set_option maxHeartbeats 1000000 in
theorem stext_any (ls : List (List Bd)) (x : Value) (w : World) (hx : RdR w x ls) (hF : FrW w) (hT : TabW w) : Calls Tryz.prog 12 #[.agg #[x]] w fun e w' => e = .returned (.tuple #[.string (textS ls).1, .int .i64 (textS ls).2]) ∧ Below w.heap.size w w' := by
  have X1 : Hid (Box (w.alloc (.cells #[x] 27)) w.heap.size 27 #[x]) := Lib.hid box_new
  have c0 : (w.alloc (.cells #[x] 27)).cell? ⟨w.heap.size, 0, none⟩ = some x := X1.out.cell rfl
  have hB := Lib.hid (below_new w (.cells #[x] 27))
  obtain ⟨o, ho⟩ : ∃ o, o = spanOk ls := ⟨_, rfl⟩
  have HA := Lib.hid (svalids_of ho (hx.on hB.out))
  have HO := Lib.hid ho
  have HX := Lib.hid hx
  have HF := Lib.hid hF
  have HT := Lib.hid hT
  obtain ⟨a, c, rfl, _⟩ := hx.open
  clear ho hx hF hT
  cases o with
  | true =>
    have HE : Hid (textS ls = (ofB (spanT ls), 0)) := Lib.hid (if_pos HO.out.symm)
    rw [HE.out]
    go_enter Tryz.func12, Tryz.ntmps12
    go_wp2_with fail
    refine HA.out.mono ?_
    rintro e w1 ⟨rfl, hb⟩
    have B1 := Lib.hid (bch hB.out hb)
    have c1 : w1.cell? ⟨w.heap.size, 0, none⟩ = some (.slice a ls.length c) := (X1.out.on hb).cell rfl
    have HS := Lib.hid (say_span ls _ w1 (HX.out.on B1.out) HO.out.symm (HF.out.below B1.out) (HT.out.below B1.out))
    clear hb hB c0 X1
    go_wp2_with fail
    refine HS.out.mono ?_
    rintro e w2 ⟨rfl, hb⟩
    have B2 := Lib.hid (bch B1.out hb)
    go_wp2_with fail
    go_ret2
    exact ⟨rfl, B2.out⟩
  | false =>
    have HE : Hid (textS ls = (⟨#[]⟩, 150)) := Lib.hid (if_neg (by rw [← HO.out]; decide))
    rw [HE.out]
    go_enter Tryz.func12, Tryz.ntmps12
    go_wp2_with fail
    refine HA.out.mono ?_
    rintro e w1 ⟨rfl, hb⟩
    have B1 := Lib.hid (bch hB.out hb)
    go_wp2_with fail
    go_ret2
    exact ⟨rfl, B1.out⟩
end Go.Proofs.YtlfehjjnepiljaaGreatDoor
