/-
  DERIVED. GIVEN WITH THE SEED: THE CARDS: each row of YtnghhfdbibbpcabDoorRows.lean that lists a variable, with what it lists TIED to the program's text (the seventh form; the later family's looks); each row that meets fmt, with fmt's text TOLD by the authors' own Lean function (tested against real Go, not proved from fmt's source: count such statements apart). THE CARD IS WHAT COUNTS. Prove the row's statement (the work); the ties are given (YtnghhfdbibbpcabDoorTie.lean); close each card by the builder's one call (the guide's Derived/Test/ToyasCard.lean, 'card_holds'). Laid BY PROGRAM, IN A SANDBOX (cutbox-door.mjs). By AI agents, Wed Nov 11 2026. No macro, syntax, notation, axiom, sorry.
-/
import Derived.Test.YtnghhfdbibbpcabDoorRows
import GoSem.ClaimSeven
namespace Go.Proofs.YtnghhfdbibbpcabDoor
namespace Rows

/-- THE TIED CARD OF 'laws.FnSupers'. -/
def fnSupersCard : Claim7 := { stood := { row := fnSupersRow, standIns := [], harness := (true, "cc387e8dd4b3acf3f8e27a2bf64899467ece8f1838bd9f987969631b3dc6035c"), looks := false }, kinds := [], alts := [], laidByText := true, laidKinds := [.data], laidTests := true, laidLooks := .later }
def FnSupersCardSaid : Prop := Claim7.holds Tryd.pinned (.plain (OpenSpec.ofChange fnSupersSpec)) fnSupersCard

/-- THE TIED CARD OF 'laws.FnEpochs'. -/
def fnEpochsCard : Claim7 := { stood := { row := fnEpochsRow, standIns := [], harness := (true, "cc387e8dd4b3acf3f8e27a2bf64899467ece8f1838bd9f987969631b3dc6035c"), looks := false }, kinds := [], alts := [], laidByText := true, laidKinds := [.data], laidTests := true, laidLooks := .later }
def FnEpochsCardSaid : Prop := Claim7.holds Tryd.pinned (.plain (OpenSpec.ofChange fnEpochsSpec)) fnEpochsCard

/-- THE TIED CARD OF 'laws.FnRecords'. -/
def fnRecordsCard : Claim7 := { stood := { row := fnRecordsRow, standIns := [], harness := (true, "cc387e8dd4b3acf3f8e27a2bf64899467ece8f1838bd9f987969631b3dc6035c"), looks := false }, kinds := [], alts := [], laidByText := true, laidKinds := [.data], laidTests := true, laidLooks := .later }
def FnRecordsCardSaid : Prop := Claim7.holds Tryd.pinned (.plain (OpenSpec.ofChange fnRecordsSpec)) fnRecordsCard

/-- THE SECOND FORM's CARD OF 'laws.FnSupers'. -/
def fnSupersUptoCard : Claim7 := { stood := { row := fnSupersUptoRow, standIns := [], harness := (true, "cc387e8dd4b3acf3f8e27a2bf64899467ece8f1838bd9f987969631b3dc6035c"), looks := false }, kinds := [], alts := [], laidByText := true, laidKinds := [.data], laidTests := true, laidLooks := .later }
def FnSupersUptoCardSaid : Prop := Claim7.holds Tryd.pinned (.plain (OpenSpec.upto fnSupersSpec)) fnSupersUptoCard

/-- THE SECOND FORM's CARD OF 'laws.FnEpochs'. -/
def fnEpochsUptoCard : Claim7 := { stood := { row := fnEpochsUptoRow, standIns := [], harness := (true, "cc387e8dd4b3acf3f8e27a2bf64899467ece8f1838bd9f987969631b3dc6035c"), looks := false }, kinds := [], alts := [], laidByText := true, laidKinds := [.data], laidTests := true, laidLooks := .later }
def FnEpochsUptoCardSaid : Prop := Claim7.holds Tryd.pinned (.plain (OpenSpec.upto fnEpochsSpec)) fnEpochsUptoCard

/-- THE SECOND FORM's CARD OF 'laws.FnRecords'. -/
def fnRecordsUptoCard : Claim7 := { stood := { row := fnRecordsUptoRow, standIns := [], harness := (true, "cc387e8dd4b3acf3f8e27a2bf64899467ece8f1838bd9f987969631b3dc6035c"), looks := false }, kinds := [], alts := [], laidByText := true, laidKinds := [.data], laidTests := true, laidLooks := .later }
def FnRecordsUptoCardSaid : Prop := Claim7.holds Tryd.pinned (.plain (OpenSpec.upto fnRecordsSpec)) fnRecordsUptoCard
end Rows
end Go.Proofs.YtnghhfdbibbpcabDoor
