/-
  DERIVED. GIVEN WITH THE SEED: THE CARDS: each row of YtnghhfdbibbpcagDoorRows.lean that lists a variable, with what it lists TIED to the program's text (the seventh form; the later family's looks); each row that meets fmt, with fmt's text TOLD by the authors' own Lean function (tested against real Go, not proved from fmt's source: count such statements apart). THE CARD IS WHAT COUNTS. Prove the row's statement (the work); the ties are given (YtnghhfdbibbpcagDoorTie.lean); close each card by the builder's one call (the guide's Derived/Test/ToyasCard.lean, 'card_holds'). Laid BY PROGRAM, IN A SANDBOX (cutbox-door.mjs). By AI agents, Wed Nov 11 2026. No macro, syntax, notation, axiom, sorry.
-/
import Derived.Test.YtnghhfdbibbpcagDoorRows
import GoSem.ClaimSeven
namespace Go.Proofs.YtnghhfdbibbpcagDoor
namespace Rows

/-- THE TIED CARD OF 'laws.FnExactSuperLine'. -/
def fnExactSuperLineCard : Claim7 := { stood := { row := fnExactSuperLineRow, standIns := [], harness := (true, "ba6976a24827ae93667c15f7733644f187693be82b8926e4fa8a3d2930d76212"), looks := false }, kinds := [], alts := [], laidByText := true, laidKinds := [.data], laidTests := true, laidLooks := .later }
def FnExactSuperLineCardSaid : Prop := Claim7.holds Tryd.pinned (.plain (OpenSpec.ofChange fnExactSuperLineSpec)) fnExactSuperLineCard

/-- THE TIED CARD OF 'laws.FnExactReadSuper'. -/
def fnExactReadSuperCard : Claim7 := { stood := { row := fnExactReadSuperRow, standIns := [], harness := (true, "ba6976a24827ae93667c15f7733644f187693be82b8926e4fa8a3d2930d76212"), looks := false }, kinds := [], alts := [], laidByText := true, laidKinds := [.data], laidTests := true, laidLooks := .later }
def FnExactReadSuperCardSaid : Prop := Claim7.holds Tryd.pinned (.plain (OpenSpec.ofChange fnExactReadSuperSpec)) fnExactReadSuperCard

/-- THE TIED CARD OF 'laws.FnExactEpochLine'. -/
def fnExactEpochLineCard : Claim7 := { stood := { row := fnExactEpochLineRow, standIns := [], harness := (true, "ba6976a24827ae93667c15f7733644f187693be82b8926e4fa8a3d2930d76212"), looks := false }, kinds := [], alts := [], laidByText := true, laidKinds := [.data], laidTests := true, laidLooks := .later }
def FnExactEpochLineCardSaid : Prop := Claim7.holds Tryd.pinned (.plain (OpenSpec.ofChange fnExactEpochLineSpec)) fnExactEpochLineCard

/-- THE TIED CARD OF 'laws.FnExactReadEpoch'. -/
def fnExactReadEpochCard : Claim7 := { stood := { row := fnExactReadEpochRow, standIns := [], harness := (true, "ba6976a24827ae93667c15f7733644f187693be82b8926e4fa8a3d2930d76212"), looks := false }, kinds := [], alts := [], laidByText := true, laidKinds := [.data], laidTests := true, laidLooks := .later }
def FnExactReadEpochCardSaid : Prop := Claim7.holds Tryd.pinned (.plain (OpenSpec.ofChange fnExactReadEpochSpec)) fnExactReadEpochCard

/-- THE SECOND FORM's CARD OF 'laws.FnExactSuperLine'. -/
def fnExactSuperLineUptoCard : Claim7 := { stood := { row := fnExactSuperLineUptoRow, standIns := [], harness := (true, "ba6976a24827ae93667c15f7733644f187693be82b8926e4fa8a3d2930d76212"), looks := false }, kinds := [], alts := [], laidByText := true, laidKinds := [.data], laidTests := true, laidLooks := .later }
def FnExactSuperLineUptoCardSaid : Prop := Claim7.holds Tryd.pinned (.plain (OpenSpec.upto fnExactSuperLineSpec)) fnExactSuperLineUptoCard

/-- THE SECOND FORM's CARD OF 'laws.FnExactReadSuper'. -/
def fnExactReadSuperUptoCard : Claim7 := { stood := { row := fnExactReadSuperUptoRow, standIns := [], harness := (true, "ba6976a24827ae93667c15f7733644f187693be82b8926e4fa8a3d2930d76212"), looks := false }, kinds := [], alts := [], laidByText := true, laidKinds := [.data], laidTests := true, laidLooks := .later }
def FnExactReadSuperUptoCardSaid : Prop := Claim7.holds Tryd.pinned (.plain (OpenSpec.upto fnExactReadSuperSpec)) fnExactReadSuperUptoCard

/-- THE SECOND FORM's CARD OF 'laws.FnExactEpochLine'. -/
def fnExactEpochLineUptoCard : Claim7 := { stood := { row := fnExactEpochLineUptoRow, standIns := [], harness := (true, "ba6976a24827ae93667c15f7733644f187693be82b8926e4fa8a3d2930d76212"), looks := false }, kinds := [], alts := [], laidByText := true, laidKinds := [.data], laidTests := true, laidLooks := .later }
def FnExactEpochLineUptoCardSaid : Prop := Claim7.holds Tryd.pinned (.plain (OpenSpec.upto fnExactEpochLineSpec)) fnExactEpochLineUptoCard

/-- THE SECOND FORM's CARD OF 'laws.FnExactReadEpoch'. -/
def fnExactReadEpochUptoCard : Claim7 := { stood := { row := fnExactReadEpochUptoRow, standIns := [], harness := (true, "ba6976a24827ae93667c15f7733644f187693be82b8926e4fa8a3d2930d76212"), looks := false }, kinds := [], alts := [], laidByText := true, laidKinds := [.data], laidTests := true, laidLooks := .later }
def FnExactReadEpochUptoCardSaid : Prop := Claim7.holds Tryd.pinned (.plain (OpenSpec.upto fnExactReadEpochSpec)) fnExactReadEpochUptoCard
end Rows
end Go.Proofs.YtnghhfdbibbpcagDoor
