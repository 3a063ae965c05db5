/-
  DERIVED. GIVEN WITH THE SEED: THE CARDS: each row of YtbelpcniogcfoaaDoorRows.lean that lists a variable, with what it lists TIED to the program's text (the seventh form; the later family's looks); each row that meets fmt, with fmt's text TOLD by the authors' own Lean function (tested against real Go, not proved from fmt's source: count such statements apart). THE CARD IS WHAT COUNTS. Prove the row's statement (the work); the ties are given (YtbelpcniogcfoaaDoorTie.lean); close each card by the builder's one call (the guide's Derived/Test/ToyasCard.lean, 'card_holds'). Laid BY PROGRAM, IN A SANDBOX (cutbox-door.mjs). By AI agents, Wed Nov 11 2026. No macro, syntax, notation, axiom, sorry.
-/
import Derived.Test.YtbelpcniogcfoaaDoorRows
import GoSem.ClaimSeven
namespace Go.Proofs.YtbelpcniogcfoaaDoor
namespace Rows

/-- THE TIED CARD OF 'postmarklaw07.UtfTells'. -/
def utfTellsCard : Claim7 := { stood := { row := utfTellsRow, standIns := [], harness := (true, "c8d900e38955551e07dc6285c5be4d0b487bd6d7000a21e1457cd34148a2f139"), looks := false }, kinds := [], alts := [], laidByText := true, laidKinds := [.data, .pinned], laidTests := true, laidLooks := .later }
def UtfTellsCardSaid : Prop := Claim7.holds Tryd.pinned (.plain (OpenSpec.ofChange utfTellsSpec)) utfTellsCard

/-- THE TIED CARD OF 'postmarklaw07.UtfJoins'. -/
def utfJoinsCard : Claim7 := { stood := { row := utfJoinsRow, standIns := [], harness := (true, "c8d900e38955551e07dc6285c5be4d0b487bd6d7000a21e1457cd34148a2f139"), looks := false }, kinds := [], alts := [], laidByText := true, laidKinds := [.data, .pinned], laidTests := true, laidLooks := .later }
def UtfJoinsCardSaid : Prop := Claim7.holds Tryd.pinned (.plain (OpenSpec.ofChange utfJoinsSpec)) utfJoinsCard

/-- THE TIED CARD OF 'postmarklaw08.FieldTells'. -/
def fieldTellsCard : Claim7 := { stood := { row := fieldTellsRow, standIns := [], harness := (true, "c8d900e38955551e07dc6285c5be4d0b487bd6d7000a21e1457cd34148a2f139"), looks := false }, kinds := [], alts := [], laidByText := true, laidKinds := [.data, .pinned], laidTests := true, laidLooks := .later }
def FieldTellsCardSaid : Prop := Claim7.holds Tryd.pinned (.plain (OpenSpec.ofChange fieldTellsSpec)) fieldTellsCard

/-- THE TIED CARD OF 'postmarklaw08.FieldClones'. -/
def fieldClonesCard : Claim7 := { stood := { row := fieldClonesRow, standIns := [], harness := (true, "c8d900e38955551e07dc6285c5be4d0b487bd6d7000a21e1457cd34148a2f139"), looks := false }, kinds := [], alts := [], laidByText := true, laidKinds := [.data, .pinned], laidTests := true, laidLooks := .later }
def FieldClonesCardSaid : Prop := Claim7.holds Tryd.pinned (.plain (OpenSpec.ofChange fieldClonesSpec)) fieldClonesCard

/-- THE TIED CARD OF 'postmarklaw08.FieldRests'. -/
def fieldRestsCard : Claim7 := { stood := { row := fieldRestsRow, standIns := [], harness := (true, "c8d900e38955551e07dc6285c5be4d0b487bd6d7000a21e1457cd34148a2f139"), looks := false }, kinds := [], alts := [], laidByText := true, laidKinds := [.data, .pinned], laidTests := true, laidLooks := .later }
def FieldRestsCardSaid : Prop := Claim7.holds Tryd.pinned (.plain (OpenSpec.ofChange fieldRestsSpec)) fieldRestsCard

/-- THE SECOND FORM's CARD OF 'postmarklaw07.UtfTells'. -/
def utfTellsUptoCard : Claim7 := { stood := { row := utfTellsUptoRow, standIns := [], harness := (true, "c8d900e38955551e07dc6285c5be4d0b487bd6d7000a21e1457cd34148a2f139"), looks := false }, kinds := [], alts := [], laidByText := true, laidKinds := [.data, .pinned], laidTests := true, laidLooks := .later }
def UtfTellsUptoCardSaid : Prop := Claim7.holds Tryd.pinned (.plain (OpenSpec.upto utfTellsSpec)) utfTellsUptoCard

/-- THE SECOND FORM's CARD OF 'postmarklaw07.UtfJoins'. -/
def utfJoinsUptoCard : Claim7 := { stood := { row := utfJoinsUptoRow, standIns := [], harness := (true, "c8d900e38955551e07dc6285c5be4d0b487bd6d7000a21e1457cd34148a2f139"), looks := false }, kinds := [], alts := [], laidByText := true, laidKinds := [.data, .pinned], laidTests := true, laidLooks := .later }
def UtfJoinsUptoCardSaid : Prop := Claim7.holds Tryd.pinned (.plain (OpenSpec.upto utfJoinsSpec)) utfJoinsUptoCard

/-- THE SECOND FORM's CARD OF 'postmarklaw08.FieldTells'. -/
def fieldTellsUptoCard : Claim7 := { stood := { row := fieldTellsUptoRow, standIns := [], harness := (true, "c8d900e38955551e07dc6285c5be4d0b487bd6d7000a21e1457cd34148a2f139"), looks := false }, kinds := [], alts := [], laidByText := true, laidKinds := [.data, .pinned], laidTests := true, laidLooks := .later }
def FieldTellsUptoCardSaid : Prop := Claim7.holds Tryd.pinned (.plain (OpenSpec.upto fieldTellsSpec)) fieldTellsUptoCard

/-- THE SECOND FORM's CARD OF 'postmarklaw08.FieldClones'. -/
def fieldClonesUptoCard : Claim7 := { stood := { row := fieldClonesUptoRow, standIns := [], harness := (true, "c8d900e38955551e07dc6285c5be4d0b487bd6d7000a21e1457cd34148a2f139"), looks := false }, kinds := [], alts := [], laidByText := true, laidKinds := [.data, .pinned], laidTests := true, laidLooks := .later }
def FieldClonesUptoCardSaid : Prop := Claim7.holds Tryd.pinned (.plain (OpenSpec.upto fieldClonesSpec)) fieldClonesUptoCard

/-- THE SECOND FORM's CARD OF 'postmarklaw08.FieldRests'. -/
def fieldRestsUptoCard : Claim7 := { stood := { row := fieldRestsUptoRow, standIns := [], harness := (true, "c8d900e38955551e07dc6285c5be4d0b487bd6d7000a21e1457cd34148a2f139"), looks := false }, kinds := [], alts := [], laidByText := true, laidKinds := [.data, .pinned], laidTests := true, laidLooks := .later }
def FieldRestsUptoCardSaid : Prop := Claim7.holds Tryd.pinned (.plain (OpenSpec.upto fieldRestsSpec)) fieldRestsUptoCard
end Rows
end Go.Proofs.YtbelpcniogcfoaaDoor
