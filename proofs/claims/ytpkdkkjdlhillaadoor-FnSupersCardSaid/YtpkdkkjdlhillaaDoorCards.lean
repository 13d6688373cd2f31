/-
  DERIVED. GIVEN WITH THE SEED: THE CARDS: each row of YtpkdkkjdlhillaaDoorRows.lean that lists a variable, with what it lists TIED to the program's text (the seventh form; the later family's looks); each row that meets fmt, with fmt's text TOLD by the authors' own Lean function (tested against real Go, not proved from fmt's source: count such statements apart). THE CARD IS WHAT COUNTS. Prove the row's statement (the work); the ties are given (YtpkdkkjdlhillaaDoorTie.lean); close each card by the builder's one call (the guide's Derived/Test/ToyasCard.lean, 'card_holds'). Laid BY PROGRAM, IN A SANDBOX (cutbox-door.mjs). By AI agents, Wed Nov 11 2026. No macro, syntax, notation, axiom, sorry.
-/
import Derived.Test.YtpkdkkjdlhillaaDoorRows
import GoSem.ClaimSeven
namespace Go.Proofs.YtpkdkkjdlhillaaDoor
namespace Rows

/-- THE TIED CARD OF 'laws.FnSupers'. -/
def fnSupersCard : Claim7 := { stood := { row := fnSupersRow, standIns := [], harness := (true, "b2b06b05c342d3ddee78f45a75af2793beae5bd8ad94fbaf969a71f82222ca8f"), looks := false }, kinds := [], alts := [], laidByText := true, laidKinds := [.data], laidTests := true, laidLooks := .later }
def FnSupersCardSaid : Prop := Claim7.holds Tryd.pinned (.plain (OpenSpec.ofChange fnSupersSpec)) fnSupersCard

/-- THE TIED CARD OF 'laws.FnFormats'. -/
def fnFormatsCard : Claim7 := { stood := { row := fnFormatsRow, standIns := [], harness := (true, "b2b06b05c342d3ddee78f45a75af2793beae5bd8ad94fbaf969a71f82222ca8f"), looks := false }, kinds := [], alts := [], laidByText := true, laidKinds := [.data], laidTests := true, laidLooks := .later }
def FnFormatsCardSaid : Prop := Claim7.holds Tryd.pinned (.plain (OpenSpec.ofChange fnFormatsSpec)) fnFormatsCard

/-- THE TIED CARD OF 'laws.FnExactConfigOf'. -/
def fnExactConfigOfCard : Claim7 := { stood := { row := fnExactConfigOfRow, standIns := [], harness := (true, "b2b06b05c342d3ddee78f45a75af2793beae5bd8ad94fbaf969a71f82222ca8f"), looks := false }, kinds := [], alts := [], laidByText := true, laidKinds := [.data], laidTests := true, laidLooks := .later }
def FnExactConfigOfCardSaid : Prop := Claim7.holds Tryd.pinned (.plain (OpenSpec.ofChange fnExactConfigOfSpec)) fnExactConfigOfCard

/-- THE SECOND FORM's CARD OF 'laws.FnSupers'. -/
def fnSupersUptoCard : Claim7 := { stood := { row := fnSupersUptoRow, standIns := [], harness := (true, "b2b06b05c342d3ddee78f45a75af2793beae5bd8ad94fbaf969a71f82222ca8f"), looks := false }, kinds := [], alts := [], laidByText := true, laidKinds := [.data], laidTests := true, laidLooks := .later }
def FnSupersUptoCardSaid : Prop := Claim7.holds Tryd.pinned (.plain (OpenSpec.upto fnSupersSpec)) fnSupersUptoCard

/-- THE SECOND FORM's CARD OF 'laws.FnFormats'. -/
def fnFormatsUptoCard : Claim7 := { stood := { row := fnFormatsUptoRow, standIns := [], harness := (true, "b2b06b05c342d3ddee78f45a75af2793beae5bd8ad94fbaf969a71f82222ca8f"), looks := false }, kinds := [], alts := [], laidByText := true, laidKinds := [.data], laidTests := true, laidLooks := .later }
def FnFormatsUptoCardSaid : Prop := Claim7.holds Tryd.pinned (.plain (OpenSpec.upto fnFormatsSpec)) fnFormatsUptoCard

/-- THE SECOND FORM's CARD OF 'laws.FnExactConfigOf'. -/
def fnExactConfigOfUptoCard : Claim7 := { stood := { row := fnExactConfigOfUptoRow, standIns := [], harness := (true, "b2b06b05c342d3ddee78f45a75af2793beae5bd8ad94fbaf969a71f82222ca8f"), looks := false }, kinds := [], alts := [], laidByText := true, laidKinds := [.data], laidTests := true, laidLooks := .later }
def FnExactConfigOfUptoCardSaid : Prop := Claim7.holds Tryd.pinned (.plain (OpenSpec.upto fnExactConfigOfSpec)) fnExactConfigOfUptoCard
end Rows
end Go.Proofs.YtpkdkkjdlhillaaDoor
