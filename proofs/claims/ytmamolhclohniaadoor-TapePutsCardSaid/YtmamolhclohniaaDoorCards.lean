/-
  DERIVED. GIVEN WITH THE SEED: THE CARDS: each row of YtmamolhclohniaaDoorRows.lean that lists a variable, with what it lists TIED to the program's text (the seventh form; the later family's looks); each row that meets fmt, with fmt's text TOLD by the authors' own Lean function (tested against real Go, not proved from fmt's source: count such statements apart). THE CARD IS WHAT COUNTS. Prove the row's statement (the work); the ties are given (YtmamolhclohniaaDoorTie.lean); close each card by the builder's one call (the guide's Derived/Test/ToyasCard.lean, 'card_holds'). Laid BY PROGRAM, IN A SANDBOX (cutbox-door.mjs). By AI agents, Wed Nov 11 2026. No macro, syntax, notation, axiom, sorry.
-/
import Derived.Test.YtmamolhclohniaaDoorRows
import GoSem.ClaimSeven
namespace Go.Proofs.YtmamolhclohniaaDoor
namespace Rows

/-- THE TIED CARD OF 'puncheonlaw02.TapePuts'. -/
def tapePutsCard : Claim7 := { stood := { row := tapePutsRow, standIns := [], harness := (true, "552b70b5f0009e5d96f01f23f21b470378aee970111b2c0e99b0874f2f014cc7"), looks := false }, kinds := [], alts := [], laidByText := true, laidKinds := [.data, .data, .data], laidTests := true, laidLooks := .later }
def TapePutsCardSaid : Prop := Claim7.holds Tryd.pinned (.plain (OpenSpec.ofChange tapePutsSpec)) tapePutsCard

/-- THE TIED CARD OF 'puncheonlaw02.TapeTakes'. -/
def tapeTakesCard : Claim7 := { stood := { row := tapeTakesRow, standIns := [], harness := (true, "552b70b5f0009e5d96f01f23f21b470378aee970111b2c0e99b0874f2f014cc7"), looks := false }, kinds := [], alts := [], laidByText := true, laidKinds := [.data, .data, .data], laidTests := true, laidLooks := .later }
def TapeTakesCardSaid : Prop := Claim7.holds Tryd.pinned (.plain (OpenSpec.ofChange tapeTakesSpec)) tapeTakesCard

/-- THE TIED CARD OF 'puncheonlaw02.TapeBack'. -/
def tapeBackCard : Claim7 := { stood := { row := tapeBackRow, standIns := [], harness := (true, "552b70b5f0009e5d96f01f23f21b470378aee970111b2c0e99b0874f2f014cc7"), looks := false }, kinds := [], alts := [], laidByText := true, laidKinds := [.data, .data, .data], laidTests := true, laidLooks := .later }
def TapeBackCardSaid : Prop := Claim7.holds Tryd.pinned (.plain (OpenSpec.ofChange tapeBackSpec)) tapeBackCard

/-- THE TIED CARD OF 'puncheonlaw02.TapeFirst'. -/
def tapeFirstCard : Claim7 := { stood := { row := tapeFirstRow, standIns := [], harness := (true, "552b70b5f0009e5d96f01f23f21b470378aee970111b2c0e99b0874f2f014cc7"), looks := false }, kinds := [], alts := [], laidByText := true, laidKinds := [.data, .data, .data], laidTests := true, laidLooks := .later }
def TapeFirstCardSaid : Prop := Claim7.holds Tryd.pinned (.plain (OpenSpec.ofChange tapeFirstSpec)) tapeFirstCard

/-- THE TIED CARD OF 'puncheonlaw02.TapeJoins'. -/
def tapeJoinsCard : Claim7 := { stood := { row := tapeJoinsRow, standIns := [], harness := (true, "552b70b5f0009e5d96f01f23f21b470378aee970111b2c0e99b0874f2f014cc7"), looks := false }, kinds := [], alts := [], laidByText := true, laidKinds := [.data, .data, .data], laidTests := true, laidLooks := .later }
def TapeJoinsCardSaid : Prop := Claim7.holds Tryd.pinned (.plain (OpenSpec.ofChange tapeJoinsSpec)) tapeJoinsCard

/-- THE SECOND FORM's CARD OF 'puncheonlaw02.TapePuts'. -/
def tapePutsUptoCard : Claim7 := { stood := { row := tapePutsUptoRow, standIns := [], harness := (true, "552b70b5f0009e5d96f01f23f21b470378aee970111b2c0e99b0874f2f014cc7"), looks := false }, kinds := [], alts := [], laidByText := true, laidKinds := [.data, .data, .data], laidTests := true, laidLooks := .later }
def TapePutsUptoCardSaid : Prop := Claim7.holds Tryd.pinned (.plain (OpenSpec.upto tapePutsSpec)) tapePutsUptoCard

/-- THE SECOND FORM's CARD OF 'puncheonlaw02.TapeTakes'. -/
def tapeTakesUptoCard : Claim7 := { stood := { row := tapeTakesUptoRow, standIns := [], harness := (true, "552b70b5f0009e5d96f01f23f21b470378aee970111b2c0e99b0874f2f014cc7"), looks := false }, kinds := [], alts := [], laidByText := true, laidKinds := [.data, .data, .data], laidTests := true, laidLooks := .later }
def TapeTakesUptoCardSaid : Prop := Claim7.holds Tryd.pinned (.plain (OpenSpec.upto tapeTakesSpec)) tapeTakesUptoCard

/-- THE SECOND FORM's CARD OF 'puncheonlaw02.TapeBack'. -/
def tapeBackUptoCard : Claim7 := { stood := { row := tapeBackUptoRow, standIns := [], harness := (true, "552b70b5f0009e5d96f01f23f21b470378aee970111b2c0e99b0874f2f014cc7"), looks := false }, kinds := [], alts := [], laidByText := true, laidKinds := [.data, .data, .data], laidTests := true, laidLooks := .later }
def TapeBackUptoCardSaid : Prop := Claim7.holds Tryd.pinned (.plain (OpenSpec.upto tapeBackSpec)) tapeBackUptoCard

/-- THE SECOND FORM's CARD OF 'puncheonlaw02.TapeFirst'. -/
def tapeFirstUptoCard : Claim7 := { stood := { row := tapeFirstUptoRow, standIns := [], harness := (true, "552b70b5f0009e5d96f01f23f21b470378aee970111b2c0e99b0874f2f014cc7"), looks := false }, kinds := [], alts := [], laidByText := true, laidKinds := [.data, .data, .data], laidTests := true, laidLooks := .later }
def TapeFirstUptoCardSaid : Prop := Claim7.holds Tryd.pinned (.plain (OpenSpec.upto tapeFirstSpec)) tapeFirstUptoCard

/-- THE SECOND FORM's CARD OF 'puncheonlaw02.TapeJoins'. -/
def tapeJoinsUptoCard : Claim7 := { stood := { row := tapeJoinsUptoRow, standIns := [], harness := (true, "552b70b5f0009e5d96f01f23f21b470378aee970111b2c0e99b0874f2f014cc7"), looks := false }, kinds := [], alts := [], laidByText := true, laidKinds := [.data, .data, .data], laidTests := true, laidLooks := .later }
def TapeJoinsUptoCardSaid : Prop := Claim7.holds Tryd.pinned (.plain (OpenSpec.upto tapeJoinsSpec)) tapeJoinsUptoCard
end Rows
end Go.Proofs.YtmamolhclohniaaDoor
