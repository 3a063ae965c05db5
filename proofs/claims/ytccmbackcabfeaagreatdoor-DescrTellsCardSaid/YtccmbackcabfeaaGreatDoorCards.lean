/-
  DERIVED. GIVEN WITH THE SEED: THE CARDS: each row of YtccmbackcabfeaaGreatDoorRows.lean that lists a variable, with what it lists TIED to the program's text (the seventh form; the later family's looks); each row that meets fmt, with fmt's text TOLD by the authors' own Lean function (tested against real Go, not proved from fmt's source: count such statements apart). THE CARD IS WHAT COUNTS. Prove the row's statement (the work); the ties are given (YtccmbackcabfeaaGreatDoorTie.lean); close each card by the builder's one call (the guide's Derived/Test/ToyasCard.lean, 'card_holds'). Laid BY PROGRAM, IN A SANDBOX (cutbox-door.mjs). By AI agents, Wed Nov 11 2026. No macro, syntax, notation, axiom, sorry.
-/
import Derived.Test.YtccmbackcabfeaaGreatDoorRows
import GoSem.ClaimSeven
namespace Go.Proofs.YtccmbackcabfeaaGreatDoor
namespace Rows

/-- THE TIED CARD OF 'postmarklaw11.EntryTells'. -/
def entryTellsCard : Claim7 := { stood := { row := entryTellsRow, standIns := [], harness := (true, "3af1593d4b6d541a0457ad03700a3e83e34fad448cd4e74816074639433417e7"), looks := false }, kinds := [], alts := [], laidByText := true, laidKinds := [.data, .pinned], laidTests := true, laidLooks := .later }
def EntryTellsCardSaid : Prop := Claim7.holds Tryz.pinned (.plain (OpenSpec.ofChange entryTellsSpec)) entryTellsCard

/-- THE TIED CARD OF 'postmarklaw11.EntryBack'. -/
def entryBackCard : Claim7 := { stood := { row := entryBackRow, standIns := [], harness := (true, "3af1593d4b6d541a0457ad03700a3e83e34fad448cd4e74816074639433417e7"), looks := false }, kinds := [], alts := [], laidByText := true, laidKinds := [.data, .pinned], laidTests := true, laidLooks := .later }
def EntryBackCardSaid : Prop := Claim7.holds Tryz.pinned (.plain (OpenSpec.ofChange entryBackSpec)) entryBackCard

/-- THE TIED CARD OF 'postmarklaw12.DescrTells'. -/
def descrTellsCard : Claim7 := { stood := { row := descrTellsRow, standIns := [], harness := (true, "3af1593d4b6d541a0457ad03700a3e83e34fad448cd4e74816074639433417e7"), looks := false }, kinds := [], alts := [], laidByText := true, laidKinds := [.data, .pinned], laidTests := true, laidLooks := .later }
def DescrTellsCardSaid : Prop := Claim7.holds Tryz.pinned (.plain (OpenSpec.ofChange descrTellsSpec)) descrTellsCard

/-- THE SECOND FORM's CARD OF 'postmarklaw11.EntryTells'. -/
def entryTellsUptoCard : Claim7 := { stood := { row := entryTellsUptoRow, standIns := [], harness := (true, "3af1593d4b6d541a0457ad03700a3e83e34fad448cd4e74816074639433417e7"), looks := false }, kinds := [], alts := [], laidByText := true, laidKinds := [.data, .pinned], laidTests := true, laidLooks := .later }
def EntryTellsUptoCardSaid : Prop := Claim7.holds Tryz.pinned (.plain (OpenSpec.upto entryTellsSpec)) entryTellsUptoCard

/-- THE SECOND FORM's CARD OF 'postmarklaw11.EntryBack'. -/
def entryBackUptoCard : Claim7 := { stood := { row := entryBackUptoRow, standIns := [], harness := (true, "3af1593d4b6d541a0457ad03700a3e83e34fad448cd4e74816074639433417e7"), looks := false }, kinds := [], alts := [], laidByText := true, laidKinds := [.data, .pinned], laidTests := true, laidLooks := .later }
def EntryBackUptoCardSaid : Prop := Claim7.holds Tryz.pinned (.plain (OpenSpec.upto entryBackSpec)) entryBackUptoCard

/-- THE SECOND FORM's CARD OF 'postmarklaw12.DescrTells'. -/
def descrTellsUptoCard : Claim7 := { stood := { row := descrTellsUptoRow, standIns := [], harness := (true, "3af1593d4b6d541a0457ad03700a3e83e34fad448cd4e74816074639433417e7"), looks := false }, kinds := [], alts := [], laidByText := true, laidKinds := [.data, .pinned], laidTests := true, laidLooks := .later }
def DescrTellsUptoCardSaid : Prop := Claim7.holds Tryz.pinned (.plain (OpenSpec.upto descrTellsSpec)) descrTellsUptoCard
end Rows
end Go.Proofs.YtccmbackcabfeaaGreatDoor
