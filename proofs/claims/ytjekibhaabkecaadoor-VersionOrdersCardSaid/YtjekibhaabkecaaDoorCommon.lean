/- What the last steps of all laws of this seat share: what the rows' list gives (the table of the powers of ten), a world for the witnesses, and how a version that came by value is opened. -/
import Derived.Test.YtjekibhaabkecaaDoorCards
import Derived.Test.YtjekibhaabkecaaDoorTie
import Derived.Test.YtjekibhaabkecaaDoorWakes
import Derived.ProofKit
import Derived.OpenShut
import Derived.ShutString
import Derived.SizedLaws
import Derived.Lib.SmallJoins
import Derived.Lib.LaidTab
import Derived.Deep.DeepHandedRow
import Derived.LaidMore
import Derived.Lib.LaidU8
namespace Go.Proofs.YtjekibhaabkecaaDoor
open Go.ChangeShapes Go.WideShapes Go.ChangeAt Go.RowKit Go.Joins
open Go.ChangeMaps (open_string shut_string)

theorem own0 : ownKnob Tryd.prog.godebug = none := by kernel_rfl
theorem laidOut : laidOutB Tryd.prog = true := by kernel_rfl
theorem cells26 : Tryd.prog.cellsOf 26 = 7 := by kernel_rfl
theorem cells24 : Tryd.prog.cellsOf 24 = 4 := by kernel_rfl
theorem cells3 : Tryd.prog.cellsOf 3 = 1 := by kernel_rfl
theorem cells9 : Tryd.prog.cellsOf 9 = 1 := by kernel_rfl

theorem tabD : (Rows.laid_internal_strconv_uint64pow10 : DataW Unit) = Lib.tabData .u64 Lib.pow10Tab := by kernel_rfl
theorem gTab : Tryd.prog.globalNamed "internal/strconv.uint64pow10" = some 1 := by kernel_rfl
theorem gTabType : (Tryd.prog.globals[1]?).map (·.type) = some 122 := by kernel_rfl
theorem cells122 : Tryd.prog.cellsOf 122 = 20 := by kernel_rfl
theorem cells98 : Tryd.prog.cellsOf 98 = 1 := by kernel_rfl

/-- WHAT THE ROWS' LIST GIVES: the table's cells hold the powers of ten. -/
theorem table {W : World} (h : laidMetH Tryd.prog Rows.versionOneRow.laid W) : TabW W := by
  obtain ⟨ps, ⟨g0, t0, cs0, f0, p0, q0, _, _, _, _, ⟨g1, t1, cs1, f1, p1, q1, _, _, _, _, ⟨g2, t2, cs2, f2, p2, q2, hg2, ht2, hv2, hd2, _, _⟩, _⟩, _⟩, _⟩ := h
  obtain rfl := Option.some.inj (gTab.symm.trans hg2)
  obtain rfl := Option.some.inj (gTabType.symm.trans ht2)
  unfold TabW Lib.TabIs
  rw [tabD] at hd2
  rw [hv2, ← Lib.cells_of_tab Tryd.underlying122 Tryd.underlying98 cells98 cells122 hd2]

theorem reach_size (s : ByteArray) (h : s.data.toList.length ≤ reachBytes) : s.size ≤ 140737488355328 := by
  have h2 := reachBytes_lt
  have e1 : s.data.toList.length = s.size := rfl
  have e3 : (2 : Nat) ^ 47 = 140737488355328 := by decide
  omega

theorem list4 {α : Type} {l : List α} (h : l.length = 4) : ∃ a b c d, l = [a, b, c, d] := by
  match l, h with
  | [a, b, c, d], _ => exact ⟨a, b, c, d, rfl⟩
theorem list7 {α : Type} {l : List α} (h : l.length = 7) : ∃ a b c d e f g, l = [a, b, c, d, e, f, g] := by
  match l, h with
  | [a, b, c, d, e, f, g], _ => exact ⟨a, b, c, d, e, f, g, rfl⟩
/-- Cells that are read as four numbers. -/
theorem ints_of {H : Type} {enc : TypeId × Value → H} {W : World} {base fuel : Nat} {hd : Bool} {cs : List Value} {x : DataW H × List MemPlace} (h : DataW.trod enc Tryd.prog W base (fun _ => true) hd fuel 24 cs = some x) :
    ∃ a b c d : Int, cs = [.int .i64 a, .int .i64 b, .int .i64 c, .int .i64 d] := by
  obtain ⟨xs, m, _, _, hl, hx, hi⟩ := DataW.trod_array Tryd.underlying24 h
  rw [cells24] at hl
  have one : ∀ i, i < 4 → ∃ n : Int, (cs.drop i).take 1 = [.int .i64 n] := fun i h4 => by
    have h1 := hi i h4
    rw [cells3, List.getElem?_eq_getElem (by omega), Nat.mul_one] at h1
    obtain ⟨n, e, _, _⟩ := DataW.trod_int Tryd.underlying3 h1
    exact ⟨n, e⟩
  obtain ⟨a, ha⟩ := one 0 (by omega)
  obtain ⟨b, hb⟩ := one 1 (by omega)
  obtain ⟨c, hc⟩ := one 2 (by omega)
  obtain ⟨d, hd⟩ := one 3 (by omega)
  obtain ⟨q0, q1, q2, q3, rfl⟩ := list4 hl
  simp at ha hb hc hd
  exact ⟨a, b, c, d, by rw [ha, hb, hc, hd]⟩

set_option maxRecDepth 100000 in
/-- Cells that are read as a version are one's. -/
theorem ver_of {H : Type} {enc : TypeId × Value → H} {W : World} {base fuel : Nat} {hd : Bool} {cs : List Value} {x : DataW H × List MemPlace} (h : DataW.trod enc Tryd.prog W base (fun _ => true) hd fuel 26 cs = some x) :
    ∃ v : Ver, cs = v.cells := by
  obtain ⟨y0, y1, y2, y3, n, _, hl, t0, t1, t2, t3⟩ := trod_struct4 Tryd.underlying26 h
  rw [cells26] at hl
  rw [cells24] at t0
  rw [cells3] at t1 t3
  rw [cells9] at t2
  obtain ⟨a, b, c, d, e0⟩ := ints_of t0
  obtain ⟨m, e1, _, _⟩ := DataW.trod_int Tryd.underlying3 t1
  obtain ⟨s, e2, _, _⟩ := DataW.trod_string Tryd.underlying9 t2
  obtain ⟨k, e3, _, _⟩ := DataW.trod_int Tryd.underlying3 t3
  obtain ⟨q0, q1, q2, q3, q4, q5, q6, rfl⟩ := list7 hl
  simp at e0 e1 e2 e3
  obtain ⟨r0, r1, r2, r3⟩ := e0
  exact ⟨⟨a, b, c, d, m, s, k⟩, by rw [r0, r1, r2, r3, e1, e2, e3]; rfl⟩

set_option maxRecDepth 100000 in
theorem okWide_ver {r : Reach} {W : World} {b0 : Nat} {v : Value} (h : Value.okWide Tryd.prog W r b0 26 v) : ∃ cs : Array Value, v = .agg cs := by
  simp only [Value.okWide, Tryd.underlying26] at h
  obtain ⟨cs, h1, _⟩ := h
  exact ⟨cs, h1⟩
theorem arr_of {v : Ver} {cs : Array Value} (h : cs.toList = v.cells) : cs = v.arr := by
  apply Array.ext'
  rw [h]
  rfl

/-- The cells of a plain table's datum. -/
def litV : DataW Unit → Value
  | .lit (.int k z) => .int k z
  | _ => .nilFunc
def rowV : DataW Unit → List Value
  | .agg l => l.map litV
  | d => [litV d]
def tabV : DataW Unit → List Value
  | .agg l => l.flatMap rowV
  | _ => []
/-- A WORLD FOR THE WITNESSES: the settled one, the tables laid into their variables. -/
noncomputable def laidWorld (os : Os) : World :=
  let w0 := World.holding Tryd.prog os ⟨#[], #[], []⟩
  let put (h : Array Obj) (g : Nat) (cs : List Value) : Array Obj := h.modify g fun
    | .cells _ t frozen => .cells cs.toArray t frozen
    | o => o
  { w0 with heap := put (put (put (put (put w0.heap 1 (tabV Rows.laid_internal_strconv_uint64pow10)) 2 (Lib.firstTab.map fun z => Value.int .u8 z)) 3 (tabV Rows.laid_unicode_utf8_acceptRanges)) 4 (tabV Rows.laid_math_bits_deBruijn32tab)) 5 (tabV Rows.laid_math_bits_deBruijn64tab) }
theorem laid_met (os : Os) (args : Array Value) : laidMet Tryd.prog Rows.versionOneRow.laid ((laidWorld os).forCall (fun _ _ => 0) ⟨#[], args, []⟩).memory :=
  laidMet_of_run' 8 (by kernel_rfl) (by kernel_rfl)
noncomputable abbrev zeroArg : Value := .agg #[.int .i64 0, .int .i64 0, .int .i64 0, .int .i64 0, .int .i64 0, .string ByteArray.empty, .int .i64 0]
abbrev zeroDat {H : Type} : DataW H := .agg [.agg [.lit (.int .i64 0), .lit (.int .i64 0), .lit (.int .i64 0), .lit (.int .i64 0)], .lit (.int .i64 0), .lit (.string []), .lit (.int .i64 0)]
end Go.Proofs.YtjekibhaabkecaaDoor
