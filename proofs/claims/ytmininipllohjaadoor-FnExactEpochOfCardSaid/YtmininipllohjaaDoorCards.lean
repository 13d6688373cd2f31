/-
  DERIVED. GIVEN WITH THE SEED: THE CARDS: each row of YtmininipllohjaaDoorRows.lean that lists a variable, with what it lists TIED to the program's text (the seventh form; the later family's looks); each row that meets fmt, with fmt's text TOLD by the authors' own Lean function (tested against real Go, not proved from fmt's source: count such statements apart). THE CARD IS WHAT COUNTS. Prove the row's statement (the work); the ties are given (YtmininipllohjaaDoorTie.lean); close each card by the builder's one call (the guide's Derived/Test/ToyasCard.lean, 'card_holds'). Laid BY PROGRAM, IN A SANDBOX (cutbox-door.mjs). By AI agents, Wed Nov 11 2026. No macro, syntax, notation, axiom, sorry.
-/
import Derived.Test.YtmininipllohjaaDoorRows
import GoSem.ClaimSeven
namespace Go.Proofs.YtmininipllohjaaDoor
namespace Rows

/-- THE TIED CARD OF 'laws.FnExactEpochOf'. -/
def fnExactEpochOfCard : Claim7 := { stood := { row := fnExactEpochOfRow, standIns := [], harness := (true, "be7d2d86f577b5a5b0b67f736b8e531e9597fe770878711544b6c2f1d581e7a2"), looks := false }, kinds := [], alts := [], laidByText := true, laidKinds := [.data], laidTests := true, laidLooks := .later }
def FnExactEpochOfCardSaid : Prop := Claim7.holds Tryd.pinned (.plain (OpenSpec.ofChange fnExactEpochOfSpec)) fnExactEpochOfCard

/-- THE SECOND FORM's CARD OF 'laws.FnExactEpochOf'. -/
def fnExactEpochOfUptoCard : Claim7 := { stood := { row := fnExactEpochOfUptoRow, standIns := [], harness := (true, "be7d2d86f577b5a5b0b67f736b8e531e9597fe770878711544b6c2f1d581e7a2"), looks := false }, kinds := [], alts := [], laidByText := true, laidKinds := [.data], laidTests := true, laidLooks := .later }
def FnExactEpochOfUptoCardSaid : Prop := Claim7.holds Tryd.pinned (.plain (OpenSpec.upto fnExactEpochOfSpec)) fnExactEpochOfUptoCard
end Rows
end Go.Proofs.YtmininipllohjaaDoor
