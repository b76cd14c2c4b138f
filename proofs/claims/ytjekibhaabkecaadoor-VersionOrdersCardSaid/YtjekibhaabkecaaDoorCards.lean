/-
  DERIVED. GIVEN WITH THE SEED: THE CARDS: each row of YtjekibhaabkecaaDoorRows.lean that lists a variable, with what it lists TIED to the program's text (the seventh form; the later family's looks); each row that meets fmt, with fmt's text TOLD by the authors' own Lean function (tested against real Go, not proved from fmt's source: count such statements apart). THE CARD IS WHAT COUNTS. Prove the row's statement (the work); the ties are given (YtjekibhaabkecaaDoorTie.lean); close each card by the builder's one call (the guide's Derived/Test/ToyasCard.lean, 'card_holds'). Laid BY PROGRAM, IN A SANDBOX (cutbox-door.mjs). By AI agents, Wed Nov 11 2026. No macro, syntax, notation, axiom, sorry.
-/
import Derived.Test.YtjekibhaabkecaaDoorRows
import GoSem.ClaimSeven
namespace Go.Proofs.YtjekibhaabkecaaDoor
namespace Rows

/-- THE TIED CARD OF 'puncheonlaw04.VersionReads'. -/
def versionReadsCard : Claim7 := { stood := { row := versionReadsRow, standIns := [], harness := (true, "20843e8e26a7f570c14291a0f48c7e9693acde33753d573a65311e935a143c82"), looks := false }, kinds := [], alts := [], laidByText := true, laidKinds := [.data, .data, .data, .data, .pinned], laidTests := true, laidLooks := .later }
def VersionReadsCardSaid : Prop := Claim7.holds Tryd.pinned (.plain (OpenSpec.ofChange versionReadsSpec)) versionReadsCard

/-- THE TIED CARD OF 'puncheonlaw04.VersionTells'. -/
def versionTellsCard : Claim7 := { stood := { row := versionTellsRow, standIns := [], harness := (true, "20843e8e26a7f570c14291a0f48c7e9693acde33753d573a65311e935a143c82"), looks := false }, kinds := [], alts := [], laidByText := true, laidKinds := [.data, .data, .data, .data, .pinned], laidTests := true, laidLooks := .later }
def VersionTellsCardSaid : Prop := Claim7.holds Tryd.pinned (.plain (OpenSpec.ofChange versionTellsSpec)) versionTellsCard

/-- THE TIED CARD OF 'puncheonlaw04.VersionOrders'. -/
def versionOrdersCard : Claim7 := { stood := { row := versionOrdersRow, standIns := [], harness := (true, "20843e8e26a7f570c14291a0f48c7e9693acde33753d573a65311e935a143c82"), looks := false }, kinds := [], alts := [], laidByText := true, laidKinds := [.data, .data, .data, .data, .pinned], laidTests := true, laidLooks := .later }
def VersionOrdersCardSaid : Prop := Claim7.holds Tryd.pinned (.plain (OpenSpec.ofChange versionOrdersSpec)) versionOrdersCard

/-- THE TIED CARD OF 'puncheonlaw04.VersionBack'. -/
def versionBackCard : Claim7 := { stood := { row := versionBackRow, standIns := [], harness := (true, "20843e8e26a7f570c14291a0f48c7e9693acde33753d573a65311e935a143c82"), looks := false }, kinds := [], alts := [], laidByText := true, laidKinds := [.data, .data, .data, .data, .pinned], laidTests := true, laidLooks := .later }
def VersionBackCardSaid : Prop := Claim7.holds Tryd.pinned (.plain (OpenSpec.ofChange versionBackSpec)) versionBackCard

/-- THE TIED CARD OF 'puncheonlaw04.VersionOne'. -/
def versionOneCard : Claim7 := { stood := { row := versionOneRow, standIns := [], harness := (true, "20843e8e26a7f570c14291a0f48c7e9693acde33753d573a65311e935a143c82"), looks := false }, kinds := [], alts := [], laidByText := true, laidKinds := [.data, .data, .data, .data, .pinned], laidTests := true, laidLooks := .later }
def VersionOneCardSaid : Prop := Claim7.holds Tryd.pinned (.plain (OpenSpec.ofChange versionOneSpec)) versionOneCard

/-- THE TIED CARD OF 'puncheonlaw04.VersionBehind'. -/
def versionBehindCard : Claim7 := { stood := { row := versionBehindRow, standIns := [], harness := (true, "20843e8e26a7f570c14291a0f48c7e9693acde33753d573a65311e935a143c82"), looks := false }, kinds := [], alts := [], laidByText := true, laidKinds := [.data, .data, .data, .data, .pinned], laidTests := true, laidLooks := .later }
def VersionBehindCardSaid : Prop := Claim7.holds Tryd.pinned (.plain (OpenSpec.ofChange versionBehindSpec)) versionBehindCard

/-- THE SECOND FORM's CARD OF 'puncheonlaw04.VersionReads'. -/
def versionReadsUptoCard : Claim7 := { stood := { row := versionReadsUptoRow, standIns := [], harness := (true, "20843e8e26a7f570c14291a0f48c7e9693acde33753d573a65311e935a143c82"), looks := false }, kinds := [], alts := [], laidByText := true, laidKinds := [.data, .data, .data, .data, .pinned], laidTests := true, laidLooks := .later }
def VersionReadsUptoCardSaid : Prop := Claim7.holds Tryd.pinned (.plain (OpenSpec.upto versionReadsSpec)) versionReadsUptoCard

/-- THE SECOND FORM's CARD OF 'puncheonlaw04.VersionTells'. -/
def versionTellsUptoCard : Claim7 := { stood := { row := versionTellsUptoRow, standIns := [], harness := (true, "20843e8e26a7f570c14291a0f48c7e9693acde33753d573a65311e935a143c82"), looks := false }, kinds := [], alts := [], laidByText := true, laidKinds := [.data, .data, .data, .data, .pinned], laidTests := true, laidLooks := .later }
def VersionTellsUptoCardSaid : Prop := Claim7.holds Tryd.pinned (.plain (OpenSpec.upto versionTellsSpec)) versionTellsUptoCard

/-- THE SECOND FORM's CARD OF 'puncheonlaw04.VersionOrders'. -/
def versionOrdersUptoCard : Claim7 := { stood := { row := versionOrdersUptoRow, standIns := [], harness := (true, "20843e8e26a7f570c14291a0f48c7e9693acde33753d573a65311e935a143c82"), looks := false }, kinds := [], alts := [], laidByText := true, laidKinds := [.data, .data, .data, .data, .pinned], laidTests := true, laidLooks := .later }
def VersionOrdersUptoCardSaid : Prop := Claim7.holds Tryd.pinned (.plain (OpenSpec.upto versionOrdersSpec)) versionOrdersUptoCard

/-- THE SECOND FORM's CARD OF 'puncheonlaw04.VersionBack'. -/
def versionBackUptoCard : Claim7 := { stood := { row := versionBackUptoRow, standIns := [], harness := (true, "20843e8e26a7f570c14291a0f48c7e9693acde33753d573a65311e935a143c82"), looks := false }, kinds := [], alts := [], laidByText := true, laidKinds := [.data, .data, .data, .data, .pinned], laidTests := true, laidLooks := .later }
def VersionBackUptoCardSaid : Prop := Claim7.holds Tryd.pinned (.plain (OpenSpec.upto versionBackSpec)) versionBackUptoCard

/-- THE SECOND FORM's CARD OF 'puncheonlaw04.VersionOne'. -/
def versionOneUptoCard : Claim7 := { stood := { row := versionOneUptoRow, standIns := [], harness := (true, "20843e8e26a7f570c14291a0f48c7e9693acde33753d573a65311e935a143c82"), looks := false }, kinds := [], alts := [], laidByText := true, laidKinds := [.data, .data, .data, .data, .pinned], laidTests := true, laidLooks := .later }
def VersionOneUptoCardSaid : Prop := Claim7.holds Tryd.pinned (.plain (OpenSpec.upto versionOneSpec)) versionOneUptoCard

/-- THE SECOND FORM's CARD OF 'puncheonlaw04.VersionBehind'. -/
def versionBehindUptoCard : Claim7 := { stood := { row := versionBehindUptoRow, standIns := [], harness := (true, "20843e8e26a7f570c14291a0f48c7e9693acde33753d573a65311e935a143c82"), looks := false }, kinds := [], alts := [], laidByText := true, laidKinds := [.data, .data, .data, .data, .pinned], laidTests := true, laidLooks := .later }
def VersionBehindUptoCardSaid : Prop := Claim7.holds Tryd.pinned (.plain (OpenSpec.upto versionBehindSpec)) versionBehindUptoCard
end Rows
end Go.Proofs.YtjekibhaabkecaaDoor
