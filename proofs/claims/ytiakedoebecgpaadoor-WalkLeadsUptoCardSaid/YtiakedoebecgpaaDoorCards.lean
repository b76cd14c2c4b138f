/-
  DERIVED. GIVEN WITH THE SEED: THE CARDS: each row of YtiakedoebecgpaaDoorRows.lean that lists a variable, with what it lists TIED to the program's text (the seventh form; the later family's looks); each row that meets fmt, with fmt's text TOLD by the authors' own Lean function (tested against real Go, not proved from fmt's source: count such statements apart). THE CARD IS WHAT COUNTS. Prove the row's statement (the work); the ties are given (YtiakedoebecgpaaDoorTie.lean); close each card by the builder's one call (the guide's Derived/Test/ToyasCard.lean, 'card_holds'). Laid BY PROGRAM, IN A SANDBOX (cutbox-door.mjs). By AI agents, Wed Nov 11 2026. No macro, syntax, notation, axiom, sorry.
-/
import Derived.Test.YtiakedoebecgpaaDoorRows
import GoSem.ClaimSeven
namespace Go.Proofs.YtiakedoebecgpaaDoor
namespace Rows

/-- THE TIED CARD OF 'puncheonlaw06.TreeApart'. -/
def treeApartCard : Claim7 := { stood := { row := treeApartRow, standIns := [], harness := (true, "11116bffb84e887376a9082b10baa978d85916994e0a19e171db0669d20ea782"), looks := false }, kinds := [], alts := [], laidByText := true, laidKinds := [.data, .data], laidTests := true, laidLooks := .later }
def TreeApartCardSaid : Prop := Claim7.holds Tryd.pinned (.plain (OpenSpec.ofChange treeApartSpec)) treeApartCard

/-- THE TIED CARD OF 'puncheonlaw06.TreeBack'. -/
def treeBackCard : Claim7 := { stood := { row := treeBackRow, standIns := [], harness := (true, "11116bffb84e887376a9082b10baa978d85916994e0a19e171db0669d20ea782"), looks := false }, kinds := [], alts := [], laidByText := true, laidKinds := [.data, .data], laidTests := true, laidLooks := .later }
def TreeBackCardSaid : Prop := Claim7.holds Tryd.pinned (.plain (OpenSpec.ofChange treeBackSpec)) treeBackCard

/-- THE TIED CARD OF 'puncheonlaw06.TreeOnce'. -/
def treeOnceCard : Claim7 := { stood := { row := treeOnceRow, standIns := [], harness := (true, "11116bffb84e887376a9082b10baa978d85916994e0a19e171db0669d20ea782"), looks := false }, kinds := [], alts := [], laidByText := true, laidKinds := [.data, .data], laidTests := true, laidLooks := .later }
def TreeOnceCardSaid : Prop := Claim7.holds Tryd.pinned (.plain (OpenSpec.ofChange treeOnceSpec)) treeOnceCard

/-- THE TIED CARD OF 'puncheonlaw07.WalkLeads'. -/
def walkLeadsCard : Claim7 := { stood := { row := walkLeadsRow, standIns := [], harness := (true, "11116bffb84e887376a9082b10baa978d85916994e0a19e171db0669d20ea782"), looks := false }, kinds := [], alts := [], laidByText := true, laidKinds := [.data, .data, .data, .pinned], laidTests := true, laidLooks := .later }
def WalkLeadsCardSaid : Prop := Claim7.holds Tryd.pinned (.plain (OpenSpec.ofChange walkLeadsSpec)) walkLeadsCard

/-- THE TIED CARD OF 'puncheonlaw07.WalkLooks'. -/
def walkLooksCard : Claim7 := { stood := { row := walkLooksRow, standIns := [], harness := (true, "11116bffb84e887376a9082b10baa978d85916994e0a19e171db0669d20ea782"), looks := false }, kinds := [], alts := [], laidByText := true, laidKinds := [.data, .data, .data, .pinned], laidTests := true, laidLooks := .later }
def WalkLooksCardSaid : Prop := Claim7.holds Tryd.pinned (.plain (OpenSpec.ofChange walkLooksSpec)) walkLooksCard

/-- THE TIED CARD OF 'puncheonlaw07.WalkEnds'. -/
def walkEndsCard : Claim7 := { stood := { row := walkEndsRow, standIns := [], harness := (true, "11116bffb84e887376a9082b10baa978d85916994e0a19e171db0669d20ea782"), looks := false }, kinds := [], alts := [], laidByText := true, laidKinds := [.data, .data, .data, .pinned], laidTests := true, laidLooks := .later }
def WalkEndsCardSaid : Prop := Claim7.holds Tryd.pinned (.plain (OpenSpec.ofChange walkEndsSpec)) walkEndsCard

/-- THE TIED CARD OF 'puncheonlaw07.WalkPlain'. -/
def walkPlainCard : Claim7 := { stood := { row := walkPlainRow, standIns := [], harness := (true, "11116bffb84e887376a9082b10baa978d85916994e0a19e171db0669d20ea782"), looks := false }, kinds := [], alts := [], laidByText := true, laidKinds := [.data, .data, .data, .pinned], laidTests := true, laidLooks := .later }
def WalkPlainCardSaid : Prop := Claim7.holds Tryd.pinned (.plain (OpenSpec.ofChange walkPlainSpec)) walkPlainCard

/-- THE TIED CARD OF 'puncheonlaw07.WalkStacks'. -/
def walkStacksCard : Claim7 := { stood := { row := walkStacksRow, standIns := [], harness := (true, "11116bffb84e887376a9082b10baa978d85916994e0a19e171db0669d20ea782"), looks := false }, kinds := [], alts := [], laidByText := true, laidKinds := [.data, .data, .data, .pinned], laidTests := true, laidLooks := .later }
def WalkStacksCardSaid : Prop := Claim7.holds Tryd.pinned (.plain (OpenSpec.ofChange walkStacksSpec)) walkStacksCard

/-- THE SECOND FORM's CARD OF 'puncheonlaw06.TreeApart'. -/
def treeApartUptoCard : Claim7 := { stood := { row := treeApartUptoRow, standIns := [], harness := (true, "11116bffb84e887376a9082b10baa978d85916994e0a19e171db0669d20ea782"), looks := false }, kinds := [], alts := [], laidByText := true, laidKinds := [.data, .data], laidTests := true, laidLooks := .later }
def TreeApartUptoCardSaid : Prop := Claim7.holds Tryd.pinned (.plain (OpenSpec.upto treeApartSpec)) treeApartUptoCard

/-- THE SECOND FORM's CARD OF 'puncheonlaw06.TreeBack'. -/
def treeBackUptoCard : Claim7 := { stood := { row := treeBackUptoRow, standIns := [], harness := (true, "11116bffb84e887376a9082b10baa978d85916994e0a19e171db0669d20ea782"), looks := false }, kinds := [], alts := [], laidByText := true, laidKinds := [.data, .data], laidTests := true, laidLooks := .later }
def TreeBackUptoCardSaid : Prop := Claim7.holds Tryd.pinned (.plain (OpenSpec.upto treeBackSpec)) treeBackUptoCard

/-- THE SECOND FORM's CARD OF 'puncheonlaw06.TreeOnce'. -/
def treeOnceUptoCard : Claim7 := { stood := { row := treeOnceUptoRow, standIns := [], harness := (true, "11116bffb84e887376a9082b10baa978d85916994e0a19e171db0669d20ea782"), looks := false }, kinds := [], alts := [], laidByText := true, laidKinds := [.data, .data], laidTests := true, laidLooks := .later }
def TreeOnceUptoCardSaid : Prop := Claim7.holds Tryd.pinned (.plain (OpenSpec.upto treeOnceSpec)) treeOnceUptoCard

/-- THE SECOND FORM's CARD OF 'puncheonlaw07.WalkLeads'. -/
def walkLeadsUptoCard : Claim7 := { stood := { row := walkLeadsUptoRow, standIns := [], harness := (true, "11116bffb84e887376a9082b10baa978d85916994e0a19e171db0669d20ea782"), looks := false }, kinds := [], alts := [], laidByText := true, laidKinds := [.data, .data, .data, .pinned], laidTests := true, laidLooks := .later }
def WalkLeadsUptoCardSaid : Prop := Claim7.holds Tryd.pinned (.plain (OpenSpec.upto walkLeadsSpec)) walkLeadsUptoCard

/-- THE SECOND FORM's CARD OF 'puncheonlaw07.WalkLooks'. -/
def walkLooksUptoCard : Claim7 := { stood := { row := walkLooksUptoRow, standIns := [], harness := (true, "11116bffb84e887376a9082b10baa978d85916994e0a19e171db0669d20ea782"), looks := false }, kinds := [], alts := [], laidByText := true, laidKinds := [.data, .data, .data, .pinned], laidTests := true, laidLooks := .later }
def WalkLooksUptoCardSaid : Prop := Claim7.holds Tryd.pinned (.plain (OpenSpec.upto walkLooksSpec)) walkLooksUptoCard

/-- THE SECOND FORM's CARD OF 'puncheonlaw07.WalkEnds'. -/
def walkEndsUptoCard : Claim7 := { stood := { row := walkEndsUptoRow, standIns := [], harness := (true, "11116bffb84e887376a9082b10baa978d85916994e0a19e171db0669d20ea782"), looks := false }, kinds := [], alts := [], laidByText := true, laidKinds := [.data, .data, .data, .pinned], laidTests := true, laidLooks := .later }
def WalkEndsUptoCardSaid : Prop := Claim7.holds Tryd.pinned (.plain (OpenSpec.upto walkEndsSpec)) walkEndsUptoCard

/-- THE SECOND FORM's CARD OF 'puncheonlaw07.WalkPlain'. -/
def walkPlainUptoCard : Claim7 := { stood := { row := walkPlainUptoRow, standIns := [], harness := (true, "11116bffb84e887376a9082b10baa978d85916994e0a19e171db0669d20ea782"), looks := false }, kinds := [], alts := [], laidByText := true, laidKinds := [.data, .data, .data, .pinned], laidTests := true, laidLooks := .later }
def WalkPlainUptoCardSaid : Prop := Claim7.holds Tryd.pinned (.plain (OpenSpec.upto walkPlainSpec)) walkPlainUptoCard

/-- THE SECOND FORM's CARD OF 'puncheonlaw07.WalkStacks'. -/
def walkStacksUptoCard : Claim7 := { stood := { row := walkStacksUptoRow, standIns := [], harness := (true, "11116bffb84e887376a9082b10baa978d85916994e0a19e171db0669d20ea782"), looks := false }, kinds := [], alts := [], laidByText := true, laidKinds := [.data, .data, .data, .pinned], laidTests := true, laidLooks := .later }
def WalkStacksUptoCardSaid : Prop := Claim7.holds Tryd.pinned (.plain (OpenSpec.upto walkStacksSpec)) walkStacksUptoCard
end Rows
end Go.Proofs.YtiakedoebecgpaaDoor
