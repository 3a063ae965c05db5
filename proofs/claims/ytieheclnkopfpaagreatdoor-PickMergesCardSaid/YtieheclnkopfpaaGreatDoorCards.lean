/-
  DERIVED. GIVEN WITH THE SEED: THE CARDS: each row of YtieheclnkopfpaaGreatDoorRows.lean that lists a variable, with what it lists TIED to the program's text (the seventh form; the later family's looks); each row that meets fmt, with fmt's text TOLD by the authors' own Lean function (tested against real Go, not proved from fmt's source: count such statements apart). THE CARD IS WHAT COUNTS. Prove the row's statement (the work); the ties are given (YtieheclnkopfpaaGreatDoorTie.lean); close each card by the builder's one call (the guide's Derived/Test/ToyasCard.lean, 'card_holds'). Laid BY PROGRAM, IN A SANDBOX (cutbox-door.mjs). By AI agents, Wed Nov 11 2026. No macro, syntax, notation, axiom, sorry.
-/
import Derived.Test.YtieheclnkopfpaaGreatDoorRows
import GoSem.ClaimSeven
namespace Go.Proofs.YtieheclnkopfpaaGreatDoor
namespace Rows

/-- THE TIED CARD OF 'postmarklaw10.PickParts'. -/
def pickPartsCard : Claim7 := { stood := { row := pickPartsRow, standIns := [], harness := (true, "202bd3da803328652de52c3df2870b7393345a37ad6b2844a311c2782446689f"), looks := false }, kinds := [], alts := [], laidByText := true, laidKinds := [.data, .pinned], laidTests := true, laidLooks := .later }
def PickPartsCardSaid : Prop := Claim7.holds Tryz.pinned (.plain (OpenSpec.ofChange pickPartsSpec)) pickPartsCard

/-- THE TIED CARD OF 'postmarklaw10.PickMerges'. -/
def pickMergesCard : Claim7 := { stood := { row := pickMergesRow, standIns := [], harness := (true, "202bd3da803328652de52c3df2870b7393345a37ad6b2844a311c2782446689f"), looks := false }, kinds := [], alts := [], laidByText := true, laidKinds := [.data, .pinned], laidTests := true, laidLooks := .later }
def PickMergesCardSaid : Prop := Claim7.holds Tryz.pinned (.plain (OpenSpec.ofChange pickMergesSpec)) pickMergesCard

/-- THE TIED CARD OF 'postmarklaw10.PickBack'. -/
def pickBackCard : Claim7 := { stood := { row := pickBackRow, standIns := [], harness := (true, "202bd3da803328652de52c3df2870b7393345a37ad6b2844a311c2782446689f"), looks := false }, kinds := [], alts := [], laidByText := true, laidKinds := [.data, .pinned], laidTests := true, laidLooks := .later }
def PickBackCardSaid : Prop := Claim7.holds Tryz.pinned (.plain (OpenSpec.ofChange pickBackSpec)) pickBackCard

/-- THE SECOND FORM's CARD OF 'postmarklaw10.PickParts'. -/
def pickPartsUptoCard : Claim7 := { stood := { row := pickPartsUptoRow, standIns := [], harness := (true, "202bd3da803328652de52c3df2870b7393345a37ad6b2844a311c2782446689f"), looks := false }, kinds := [], alts := [], laidByText := true, laidKinds := [.data, .pinned], laidTests := true, laidLooks := .later }
def PickPartsUptoCardSaid : Prop := Claim7.holds Tryz.pinned (.plain (OpenSpec.upto pickPartsSpec)) pickPartsUptoCard

/-- THE SECOND FORM's CARD OF 'postmarklaw10.PickMerges'. -/
def pickMergesUptoCard : Claim7 := { stood := { row := pickMergesUptoRow, standIns := [], harness := (true, "202bd3da803328652de52c3df2870b7393345a37ad6b2844a311c2782446689f"), looks := false }, kinds := [], alts := [], laidByText := true, laidKinds := [.data, .pinned], laidTests := true, laidLooks := .later }
def PickMergesUptoCardSaid : Prop := Claim7.holds Tryz.pinned (.plain (OpenSpec.upto pickMergesSpec)) pickMergesUptoCard

/-- THE SECOND FORM's CARD OF 'postmarklaw10.PickBack'. -/
def pickBackUptoCard : Claim7 := { stood := { row := pickBackUptoRow, standIns := [], harness := (true, "202bd3da803328652de52c3df2870b7393345a37ad6b2844a311c2782446689f"), looks := false }, kinds := [], alts := [], laidByText := true, laidKinds := [.data, .pinned], laidTests := true, laidLooks := .later }
def PickBackUptoCardSaid : Prop := Claim7.holds Tryz.pinned (.plain (OpenSpec.upto pickBackSpec)) pickBackUptoCard
end Rows
end Go.Proofs.YtieheclnkopfpaaGreatDoor
