/-
  DERIVED. GIVEN WITH THE SEED: THE CARDS: each row of YtigopecainocgaaGreatDoorRows.lean that lists a variable, with what it lists TIED to the program's text (the seventh form; the later family's looks); each row that meets fmt, with fmt's text TOLD by the authors' own Lean function (tested against real Go, not proved from fmt's source: count such statements apart). THE CARD IS WHAT COUNTS. Prove the row's statement (the work); the ties are given (YtigopecainocgaaGreatDoorTie.lean); close each card by the builder's one call (the guide's Derived/Test/ToyasCard.lean, 'card_holds'). Laid BY PROGRAM, IN A SANDBOX (cutbox-door.mjs). By AI agents, Wed Nov 11 2026. No macro, syntax, notation, axiom, sorry.
-/
import Derived.Test.YtigopecainocgaaGreatDoorRows
import GoSem.ClaimSeven
namespace Go.Proofs.YtigopecainocgaaGreatDoor
namespace Rows

/-- THE TIED CARD OF 'puncheonlaw08.DiskMay'. -/
def diskMayCard : Claim7 := { stood := { row := diskMayRow, standIns := [], harness := (true, "c312980835cc4cde47dea0639d7f029ccea3d867f202b9967008224ea57a1369"), looks := false }, kinds := [], alts := [], laidByText := true, laidKinds := [.data, .data], laidTests := true, laidLooks := .later }
def DiskMayCardSaid : Prop := Claim7.holds Tryz.pinned (.plain (OpenSpec.ofChange diskMaySpec)) diskMayCard

/-- THE TIED CARD OF 'puncheonlaw08.DiskFalls'. -/
def diskFallsCard : Claim7 := { stood := { row := diskFallsRow, standIns := [], harness := (true, "c312980835cc4cde47dea0639d7f029ccea3d867f202b9967008224ea57a1369"), looks := false }, kinds := [], alts := [], laidByText := true, laidKinds := [.data, .data], laidTests := true, laidLooks := .later }
def DiskFallsCardSaid : Prop := Claim7.holds Tryz.pinned (.plain (OpenSpec.ofChange diskFallsSpec)) diskFallsCard

/-- THE TIED CARD OF 'puncheonlaw08.DiskSafe'. -/
def diskSafeCard : Claim7 := { stood := { row := diskSafeRow, standIns := [], harness := (true, "c312980835cc4cde47dea0639d7f029ccea3d867f202b9967008224ea57a1369"), looks := false }, kinds := [], alts := [], laidByText := true, laidKinds := [.data, .data], laidTests := true, laidLooks := .later }
def DiskSafeCardSaid : Prop := Claim7.holds Tryz.pinned (.plain (OpenSpec.ofChange diskSafeSpec)) diskSafeCard

/-- THE TIED CARD OF 'puncheonlaw08.DiskRooms'. -/
def diskRoomsCard : Claim7 := { stood := { row := diskRoomsRow, standIns := [], harness := (true, "c312980835cc4cde47dea0639d7f029ccea3d867f202b9967008224ea57a1369"), looks := false }, kinds := [], alts := [], laidByText := true, laidKinds := [.data, .data], laidTests := true, laidLooks := .later }
def DiskRoomsCardSaid : Prop := Claim7.holds Tryz.pinned (.plain (OpenSpec.ofChange diskRoomsSpec)) diskRoomsCard

/-- THE SECOND FORM's CARD OF 'puncheonlaw08.DiskMay'. -/
def diskMayUptoCard : Claim7 := { stood := { row := diskMayUptoRow, standIns := [], harness := (true, "c312980835cc4cde47dea0639d7f029ccea3d867f202b9967008224ea57a1369"), looks := false }, kinds := [], alts := [], laidByText := true, laidKinds := [.data, .data], laidTests := true, laidLooks := .later }
def DiskMayUptoCardSaid : Prop := Claim7.holds Tryz.pinned (.plain (OpenSpec.upto diskMaySpec)) diskMayUptoCard

/-- THE SECOND FORM's CARD OF 'puncheonlaw08.DiskFalls'. -/
def diskFallsUptoCard : Claim7 := { stood := { row := diskFallsUptoRow, standIns := [], harness := (true, "c312980835cc4cde47dea0639d7f029ccea3d867f202b9967008224ea57a1369"), looks := false }, kinds := [], alts := [], laidByText := true, laidKinds := [.data, .data], laidTests := true, laidLooks := .later }
def DiskFallsUptoCardSaid : Prop := Claim7.holds Tryz.pinned (.plain (OpenSpec.upto diskFallsSpec)) diskFallsUptoCard

/-- THE SECOND FORM's CARD OF 'puncheonlaw08.DiskSafe'. -/
def diskSafeUptoCard : Claim7 := { stood := { row := diskSafeUptoRow, standIns := [], harness := (true, "c312980835cc4cde47dea0639d7f029ccea3d867f202b9967008224ea57a1369"), looks := false }, kinds := [], alts := [], laidByText := true, laidKinds := [.data, .data], laidTests := true, laidLooks := .later }
def DiskSafeUptoCardSaid : Prop := Claim7.holds Tryz.pinned (.plain (OpenSpec.upto diskSafeSpec)) diskSafeUptoCard

/-- THE SECOND FORM's CARD OF 'puncheonlaw08.DiskRooms'. -/
def diskRoomsUptoCard : Claim7 := { stood := { row := diskRoomsUptoRow, standIns := [], harness := (true, "c312980835cc4cde47dea0639d7f029ccea3d867f202b9967008224ea57a1369"), looks := false }, kinds := [], alts := [], laidByText := true, laidKinds := [.data, .data], laidTests := true, laidLooks := .later }
def DiskRoomsUptoCardSaid : Prop := Claim7.holds Tryz.pinned (.plain (OpenSpec.upto diskRoomsSpec)) diskRoomsUptoCard
end Rows
end Go.Proofs.YtigopecainocgaaGreatDoor
