/-
  DERIVED. GIVEN WITH THE SEED: THE CARDS: each row of YtophihnjlodmjaaDoorRows.lean that lists a variable, with what it lists TIED to the program's text (the seventh form; the later family's looks); each row that meets fmt, with fmt's text TOLD by the authors' own Lean function (tested against real Go, not proved from fmt's source: count such statements apart). THE CARD IS WHAT COUNTS. Prove the row's statement (the work); the ties are given (YtophihnjlodmjaaDoorTie.lean); close each card by the builder's one call (the guide's Derived/Test/ToyasCard.lean, 'card_holds'). Laid BY PROGRAM, IN A SANDBOX (cutbox-door.mjs). By AI agents, Wed Nov 11 2026. No macro, syntax, notation, axiom, sorry.
-/
import Derived.Test.YtophihnjlodmjaaDoorRows
import GoSem.ClaimSeven
namespace Go.Proofs.YtophihnjlodmjaaDoor
namespace Rows

/-- THE TIED CARD OF 'puncheonlaw14.RelocTells'. -/
def relocTellsCard : Claim7 := { stood := { row := relocTellsRow, standIns := [], harness := (true, "5f6e69485ea1f2c5bdd51c9b3a6834877d8e85b5b9d18e995ba9cb6c720bff32"), looks := false }, kinds := [], alts := [], laidByText := true, laidKinds := [.data, .pinned], laidTests := true, laidLooks := .later }
def RelocTellsCardSaid : Prop := Claim7.holds Tryd.pinned (.plain (OpenSpec.ofChange relocTellsSpec)) relocTellsCard

/-- THE TIED CARD OF 'puncheonlaw14.RelocMoves'. -/
def relocMovesCard : Claim7 := { stood := { row := relocMovesRow, standIns := [], harness := (true, "5f6e69485ea1f2c5bdd51c9b3a6834877d8e85b5b9d18e995ba9cb6c720bff32"), looks := false }, kinds := [], alts := [], laidByText := true, laidKinds := [.data, .pinned], laidTests := true, laidLooks := .later }
def RelocMovesCardSaid : Prop := Claim7.holds Tryd.pinned (.plain (OpenSpec.ofChange relocMovesSpec)) relocMovesCard

/-- THE TIED CARD OF 'puncheonlaw14.RelocLeaves'. -/
def relocLeavesCard : Claim7 := { stood := { row := relocLeavesRow, standIns := [], harness := (true, "5f6e69485ea1f2c5bdd51c9b3a6834877d8e85b5b9d18e995ba9cb6c720bff32"), looks := false }, kinds := [], alts := [], laidByText := true, laidKinds := [.data, .pinned], laidTests := true, laidLooks := .later }
def RelocLeavesCardSaid : Prop := Claim7.holds Tryd.pinned (.plain (OpenSpec.ofChange relocLeavesSpec)) relocLeavesCard

/-- THE TIED CARD OF 'puncheonlaw14.RelocBack'. -/
def relocBackCard : Claim7 := { stood := { row := relocBackRow, standIns := [], harness := (true, "5f6e69485ea1f2c5bdd51c9b3a6834877d8e85b5b9d18e995ba9cb6c720bff32"), looks := false }, kinds := [], alts := [], laidByText := true, laidKinds := [.data, .pinned], laidTests := true, laidLooks := .later }
def RelocBackCardSaid : Prop := Claim7.holds Tryd.pinned (.plain (OpenSpec.ofChange relocBackSpec)) relocBackCard

/-- THE TIED CARD OF 'puncheonlaw14.RelocLong'. -/
def relocLongCard : Claim7 := { stood := { row := relocLongRow, standIns := [], harness := (true, "5f6e69485ea1f2c5bdd51c9b3a6834877d8e85b5b9d18e995ba9cb6c720bff32"), looks := false }, kinds := [], alts := [], laidByText := true, laidKinds := [.data, .pinned], laidTests := true, laidLooks := .later }
def RelocLongCardSaid : Prop := Claim7.holds Tryd.pinned (.plain (OpenSpec.ofChange relocLongSpec)) relocLongCard

/-- THE TIED CARD OF 'puncheonlaw14.RelocKeg'. -/
def relocKegCard : Claim7 := { stood := { row := relocKegRow, standIns := [], harness := (true, "5f6e69485ea1f2c5bdd51c9b3a6834877d8e85b5b9d18e995ba9cb6c720bff32"), looks := false }, kinds := [], alts := [], laidByText := true, laidKinds := [.data, .pinned], laidTests := true, laidLooks := .later }
def RelocKegCardSaid : Prop := Claim7.holds Tryd.pinned (.plain (OpenSpec.ofChange relocKegSpec)) relocKegCard

/-- THE SECOND FORM's CARD OF 'puncheonlaw14.RelocTells'. -/
def relocTellsUptoCard : Claim7 := { stood := { row := relocTellsUptoRow, standIns := [], harness := (true, "5f6e69485ea1f2c5bdd51c9b3a6834877d8e85b5b9d18e995ba9cb6c720bff32"), looks := false }, kinds := [], alts := [], laidByText := true, laidKinds := [.data, .pinned], laidTests := true, laidLooks := .later }
def RelocTellsUptoCardSaid : Prop := Claim7.holds Tryd.pinned (.plain (OpenSpec.upto relocTellsSpec)) relocTellsUptoCard

/-- THE SECOND FORM's CARD OF 'puncheonlaw14.RelocMoves'. -/
def relocMovesUptoCard : Claim7 := { stood := { row := relocMovesUptoRow, standIns := [], harness := (true, "5f6e69485ea1f2c5bdd51c9b3a6834877d8e85b5b9d18e995ba9cb6c720bff32"), looks := false }, kinds := [], alts := [], laidByText := true, laidKinds := [.data, .pinned], laidTests := true, laidLooks := .later }
def RelocMovesUptoCardSaid : Prop := Claim7.holds Tryd.pinned (.plain (OpenSpec.upto relocMovesSpec)) relocMovesUptoCard

/-- THE SECOND FORM's CARD OF 'puncheonlaw14.RelocLeaves'. -/
def relocLeavesUptoCard : Claim7 := { stood := { row := relocLeavesUptoRow, standIns := [], harness := (true, "5f6e69485ea1f2c5bdd51c9b3a6834877d8e85b5b9d18e995ba9cb6c720bff32"), looks := false }, kinds := [], alts := [], laidByText := true, laidKinds := [.data, .pinned], laidTests := true, laidLooks := .later }
def RelocLeavesUptoCardSaid : Prop := Claim7.holds Tryd.pinned (.plain (OpenSpec.upto relocLeavesSpec)) relocLeavesUptoCard

/-- THE SECOND FORM's CARD OF 'puncheonlaw14.RelocBack'. -/
def relocBackUptoCard : Claim7 := { stood := { row := relocBackUptoRow, standIns := [], harness := (true, "5f6e69485ea1f2c5bdd51c9b3a6834877d8e85b5b9d18e995ba9cb6c720bff32"), looks := false }, kinds := [], alts := [], laidByText := true, laidKinds := [.data, .pinned], laidTests := true, laidLooks := .later }
def RelocBackUptoCardSaid : Prop := Claim7.holds Tryd.pinned (.plain (OpenSpec.upto relocBackSpec)) relocBackUptoCard

/-- THE SECOND FORM's CARD OF 'puncheonlaw14.RelocLong'. -/
def relocLongUptoCard : Claim7 := { stood := { row := relocLongUptoRow, standIns := [], harness := (true, "5f6e69485ea1f2c5bdd51c9b3a6834877d8e85b5b9d18e995ba9cb6c720bff32"), looks := false }, kinds := [], alts := [], laidByText := true, laidKinds := [.data, .pinned], laidTests := true, laidLooks := .later }
def RelocLongUptoCardSaid : Prop := Claim7.holds Tryd.pinned (.plain (OpenSpec.upto relocLongSpec)) relocLongUptoCard

/-- THE SECOND FORM's CARD OF 'puncheonlaw14.RelocKeg'. -/
def relocKegUptoCard : Claim7 := { stood := { row := relocKegUptoRow, standIns := [], harness := (true, "5f6e69485ea1f2c5bdd51c9b3a6834877d8e85b5b9d18e995ba9cb6c720bff32"), looks := false }, kinds := [], alts := [], laidByText := true, laidKinds := [.data, .pinned], laidTests := true, laidLooks := .later }
def RelocKegUptoCardSaid : Prop := Claim7.holds Tryd.pinned (.plain (OpenSpec.upto relocKegSpec)) relocKegUptoCard
end Rows
end Go.Proofs.YtophihnjlodmjaaDoor
