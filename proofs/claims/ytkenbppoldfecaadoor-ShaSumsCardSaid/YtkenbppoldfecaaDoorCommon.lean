/- What the last steps of all laws of this seat share: what the rows' list gives (the primes), a world for the witnesses, and how a digest that came by value is opened. -/
import Derived.Test.YtkenbppoldfecaaDoorCards
import Derived.Test.YtkenbppoldfecaaDoorTie
import Derived.Test.YtkenbppoldfecaaDoorDigest
import Derived.ProofKit
import Derived.OpenShut
import Derived.ShutString
import Derived.SizedLaws
import Derived.Lib.SmallJoins
import Derived.Lib.LaidTab
import Derived.Deep.DeepHandedRow
import Derived.LaidMore
namespace Go.Proofs.YtkenbppoldfecaaDoor
open Go.ChangeShapes Go.WideShapes Go.ChangeAt Go.RowKit
open Go.ChangeMaps (open_string shut_string)

theorem own0 : ownKnob Tryd.prog.godebug = none := by kernel_rfl
theorem gTab : Tryd.prog.globalNamed "puncheon/sha.primes" = some 0 := by kernel_rfl
theorem gTabType : (Tryd.prog.globals[0]?).map (·.type) = some 70 := by kernel_rfl
theorem cells70 : Tryd.prog.cellsOf 70 = 64 := by kernel_rfl
theorem cells50 : Tryd.prog.cellsOf 50 = 1 := by kernel_rfl
theorem cells27 : Tryd.prog.cellsOf 27 = 32 := by kernel_rfl
theorem cells5 : Tryd.prog.cellsOf 5 = 1 := by kernel_rfl
theorem laidOut : laidOutB Tryd.prog = true := by kernel_rfl

abbrev theList : List (String × DataW Unit) := [("puncheon/sha.primes", Rows.laid_puncheon_sha_primes)]
theorem tabD : (Rows.laid_puncheon_sha_primes : DataW Unit) = Lib.tabData .u64 (primesL.map fun p : Nat => (p : Int)) := by kernel_rfl

/-- WHAT THE ROWS' LIST GIVES: the variable's cells hold the primes. -/
theorem prims {W : World} (h : laidMetH Tryd.prog theList W) : ∃ t fr, Prim t fr W := by
  obtain ⟨ps, ⟨g0, t0, cs0, f0, p0, q0, hg, ht, hv, hd, _, _⟩, _⟩ := h
  obtain rfl := Option.some.inj (gTab.symm.trans hg)
  obtain rfl := Option.some.inj (gTabType.symm.trans ht)
  rw [tabD] at hd
  have hc := Lib.cells_of_tab Tryd.underlying70 Tryd.underlying50 cells50 cells70 hd
  unfold World.var? at hv
  rw [gTab] at hv
  simp only [Option.bind_some] at hv
  split at hv
  · rename_i cs t fr hh
    refine ⟨t, fr, ?_⟩
    unfold Prim
    rw [hh]
    have e : cs = primesA := by
      have := Option.some.inj hv
      rw [this]
      apply Array.ext'
      rw [hc]
      rfl
    rw [e]
  · cases hv

theorem reach_size (s : ByteArray) (h : s.data.toList.length ≤ reachBytes) : s.size ≤ 140737488355328 := by
  have h2 := reachBytes_lt
  have e1 : s.data.toList.length = s.size := rfl
  have e3 : (2 : Nat) ^ 47 = 140737488355328 := by decide
  omega

theorem byte_wf {n : Int} (h : (Lit.int .u8 n).wf = true) : ∃ c : UInt8, n = (c.toNat : Int) := by
  have hb : 0 ≤ n ∧ n < 256 := by
    simp [Lit.wf] at h
    have e1 : IntKind.u8.min = 0 := rfl
    have e2 : IntKind.u8.max = 255 := rfl
    omega
  refine ⟨UInt8.ofNat n.toNat, ?_⟩
  have h2 : (UInt8.ofNat n.toNat).toNat = n.toNat % 256 := UInt8.toNat_ofNat'
  rw [h2]
  omega

/-- Cells that are read as a digest are 32 bytes. -/
theorem digest_of {H : Type} {enc : TypeId × Value → H} {W : World} {base fuel : Nat} {hd : Bool} {cs : List Value} {x : DataW H × List MemPlace} (h : DataW.trod enc Tryd.prog W base (fun _ => true) hd fuel 27 cs = some x) :
    ∃ l : Bytes, cs = bytesV l ∧ l.length = 32 := by
  obtain ⟨xs, m, _, _, hl, hx, hi⟩ := DataW.trod_array Tryd.underlying27 h
  rw [cells27] at hl
  have key : ∀ i : Nat, ∃ c : UInt8, i < 32 → cs[i]? = some (b8 c) := by
    intro i
    by_cases h32 : i < 32
    · have h1 := hi i h32
      rw [cells5, List.getElem?_eq_getElem (by omega)] at h1
      obtain ⟨n, e, _, hw⟩ := DataW.trod_int Tryd.underlying5 h1
      obtain ⟨c, rfl⟩ := byte_wf hw
      refine ⟨c, fun _ => ?_⟩
      have := congrArg (·[0]?) e
      simpa [List.getElem?_take, List.getElem?_drop] using this
    · exact ⟨0, fun h => absurd h h32⟩
  obtain ⟨F, hF⟩ := Classical.axiomOfChoice key
  refine ⟨(List.range 32).map F, ?_, by simp⟩
  apply List.ext_getElem?
  intro i
  by_cases h32 : i < 32
  · rw [hF i h32]
    unfold bytesV
    rw [List.getElem?_map, List.getElem?_map, List.getElem?_range h32]
    rfl
  · rw [List.getElem?_eq_none (by omega), List.getElem?_eq_none (by simp [bytesV]; omega)]

theorem okWide_digest {r : Reach} {W : World} {b0 : Nat} {v : Value} (h : Value.okWide Tryd.prog W r b0 27 v) : ∃ cs : Array Value, v = .agg cs := by
  simp only [Value.okWide, Tryd.underlying27] at h
  obtain ⟨cs, h1, _⟩ := h
  exact ⟨cs, h1⟩

/-- A WORLD FOR THE WITNESSES: the door's own. -/
noncomputable def laidWorld (os : Os) : World := World.doorLaid Tryd.prog 400 os
end Go.Proofs.YtkenbppoldfecaaDoor
