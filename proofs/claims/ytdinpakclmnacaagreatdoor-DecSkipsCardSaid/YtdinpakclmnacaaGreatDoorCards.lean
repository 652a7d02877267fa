/-
  DERIVED. GIVEN WITH THE SEED: THE CARDS: each row of YtdinpakclmnacaaGreatDoorRows.lean that lists a variable, with what it lists TIED to the program's text (the seventh form; the later family's looks); each row that meets fmt, with fmt's text TOLD by the authors' own Lean function (tested against real Go, not proved from fmt's source: count such statements apart). THE CARD IS WHAT COUNTS. Prove the row's statement (the work); the ties are given (YtdinpakclmnacaaGreatDoorTie.lean); close each card by the builder's one call (the guide's Derived/Test/ToyasCard.lean, 'card_holds'). Laid BY PROGRAM, IN A SANDBOX (cutbox-door.mjs). By AI agents, Wed Nov 11 2026. No macro, syntax, notation, axiom, sorry.
-/
import Derived.Test.YtdinpakclmnacaaGreatDoorRows
import GoSem.ClaimSeven
namespace Go.Proofs.YtdinpakclmnacaaGreatDoor
namespace Rows

/-- THE TIED CARD OF 'tuckmilllaw06.DecReads'. -/
def decReadsCard : Claim7 := { stood := { row := decReadsRow, standIns := [], harness := (true, "31990e109fcede643ca5c7d8eca2a3e4cd611d11f9f9b98eb6fe5e4d2a2c8abc"), looks := false }, kinds := [], alts := [], laidByText := true, laidKinds := [.data, .listed, .data, .pinned], laidTests := true, laidLooks := .later }
def DecReadsCardSaid : Prop := Claim7.holds Tryz.pinned (.plain (OpenSpec.ofChange decReadsSpec)) decReadsCard

/-- THE TIED CARD OF 'tuckmilllaw06.DecInstrs'. -/
def decInstrsCard : Claim7 := { stood := { row := decInstrsRow, standIns := [], harness := (true, "31990e109fcede643ca5c7d8eca2a3e4cd611d11f9f9b98eb6fe5e4d2a2c8abc"), looks := false }, kinds := [], alts := [], laidByText := true, laidKinds := [.data, .listed, .data, .pinned], laidTests := true, laidLooks := .later }
def DecInstrsCardSaid : Prop := Claim7.holds Tryz.pinned (.plain (OpenSpec.ofChange decInstrsSpec)) decInstrsCard

/-- THE TIED CARD OF 'tuckmilllaw06.DecBack'. -/
def decBackCard : Claim7 := { stood := { row := decBackRow, standIns := [], harness := (true, "31990e109fcede643ca5c7d8eca2a3e4cd611d11f9f9b98eb6fe5e4d2a2c8abc"), looks := false }, kinds := [], alts := [], laidByText := true, laidKinds := [.data, .listed, .data, .pinned], laidTests := true, laidLooks := .later }
def DecBackCardSaid : Prop := Claim7.holds Tryz.pinned (.plain (OpenSpec.ofChange decBackSpec)) decBackCard

/-- THE TIED CARD OF 'tuckmilllaw06.DecAgain'. -/
def decAgainCard : Claim7 := { stood := { row := decAgainRow, standIns := [], harness := (true, "31990e109fcede643ca5c7d8eca2a3e4cd611d11f9f9b98eb6fe5e4d2a2c8abc"), looks := false }, kinds := [], alts := [], laidByText := true, laidKinds := [.data, .listed, .data, .pinned], laidTests := true, laidLooks := .later }
def DecAgainCardSaid : Prop := Claim7.holds Tryz.pinned (.plain (OpenSpec.ofChange decAgainSpec)) decAgainCard

/-- THE TIED CARD OF 'tuckmilllaw06.DecSkips'. -/
def decSkipsCard : Claim7 := { stood := { row := decSkipsRow, standIns := [], harness := (true, "31990e109fcede643ca5c7d8eca2a3e4cd611d11f9f9b98eb6fe5e4d2a2c8abc"), looks := false }, kinds := [], alts := [], laidByText := true, laidKinds := [.data, .listed, .data, .pinned], laidTests := true, laidLooks := .later }
def DecSkipsCardSaid : Prop := Claim7.holds Tryz.pinned (.plain (OpenSpec.ofChange decSkipsSpec)) decSkipsCard

/-- THE TIED CARD OF 'tuckmilllaw06.DecInstr'. -/
def decInstrCard : Claim7 := { stood := { row := decInstrRow, standIns := [], harness := (true, "31990e109fcede643ca5c7d8eca2a3e4cd611d11f9f9b98eb6fe5e4d2a2c8abc"), looks := false }, kinds := [], alts := [], laidByText := true, laidKinds := [.data, .listed, .data, .pinned], laidTests := true, laidLooks := .later }
def DecInstrCardSaid : Prop := Claim7.holds Tryz.pinned (.plain (OpenSpec.ofChange decInstrSpec)) decInstrCard

/-- THE SECOND FORM's CARD OF 'tuckmilllaw06.DecReads'. -/
def decReadsUptoCard : Claim7 := { stood := { row := decReadsUptoRow, standIns := [], harness := (true, "31990e109fcede643ca5c7d8eca2a3e4cd611d11f9f9b98eb6fe5e4d2a2c8abc"), looks := false }, kinds := [], alts := [], laidByText := true, laidKinds := [.data, .listed, .data, .pinned], laidTests := true, laidLooks := .later }
def DecReadsUptoCardSaid : Prop := Claim7.holds Tryz.pinned (.plain (OpenSpec.upto decReadsSpec)) decReadsUptoCard

/-- THE SECOND FORM's CARD OF 'tuckmilllaw06.DecInstrs'. -/
def decInstrsUptoCard : Claim7 := { stood := { row := decInstrsUptoRow, standIns := [], harness := (true, "31990e109fcede643ca5c7d8eca2a3e4cd611d11f9f9b98eb6fe5e4d2a2c8abc"), looks := false }, kinds := [], alts := [], laidByText := true, laidKinds := [.data, .listed, .data, .pinned], laidTests := true, laidLooks := .later }
def DecInstrsUptoCardSaid : Prop := Claim7.holds Tryz.pinned (.plain (OpenSpec.upto decInstrsSpec)) decInstrsUptoCard

/-- THE SECOND FORM's CARD OF 'tuckmilllaw06.DecBack'. -/
def decBackUptoCard : Claim7 := { stood := { row := decBackUptoRow, standIns := [], harness := (true, "31990e109fcede643ca5c7d8eca2a3e4cd611d11f9f9b98eb6fe5e4d2a2c8abc"), looks := false }, kinds := [], alts := [], laidByText := true, laidKinds := [.data, .listed, .data, .pinned], laidTests := true, laidLooks := .later }
def DecBackUptoCardSaid : Prop := Claim7.holds Tryz.pinned (.plain (OpenSpec.upto decBackSpec)) decBackUptoCard

/-- THE SECOND FORM's CARD OF 'tuckmilllaw06.DecAgain'. -/
def decAgainUptoCard : Claim7 := { stood := { row := decAgainUptoRow, standIns := [], harness := (true, "31990e109fcede643ca5c7d8eca2a3e4cd611d11f9f9b98eb6fe5e4d2a2c8abc"), looks := false }, kinds := [], alts := [], laidByText := true, laidKinds := [.data, .listed, .data, .pinned], laidTests := true, laidLooks := .later }
def DecAgainUptoCardSaid : Prop := Claim7.holds Tryz.pinned (.plain (OpenSpec.upto decAgainSpec)) decAgainUptoCard

/-- THE SECOND FORM's CARD OF 'tuckmilllaw06.DecSkips'. -/
def decSkipsUptoCard : Claim7 := { stood := { row := decSkipsUptoRow, standIns := [], harness := (true, "31990e109fcede643ca5c7d8eca2a3e4cd611d11f9f9b98eb6fe5e4d2a2c8abc"), looks := false }, kinds := [], alts := [], laidByText := true, laidKinds := [.data, .listed, .data, .pinned], laidTests := true, laidLooks := .later }
def DecSkipsUptoCardSaid : Prop := Claim7.holds Tryz.pinned (.plain (OpenSpec.upto decSkipsSpec)) decSkipsUptoCard

/-- THE SECOND FORM's CARD OF 'tuckmilllaw06.DecInstr'. -/
def decInstrUptoCard : Claim7 := { stood := { row := decInstrUptoRow, standIns := [], harness := (true, "31990e109fcede643ca5c7d8eca2a3e4cd611d11f9f9b98eb6fe5e4d2a2c8abc"), looks := false }, kinds := [], alts := [], laidByText := true, laidKinds := [.data, .listed, .data, .pinned], laidTests := true, laidLooks := .later }
def DecInstrUptoCardSaid : Prop := Claim7.holds Tryz.pinned (.plain (OpenSpec.upto decInstrSpec)) decInstrUptoCard
end Rows
end Go.Proofs.YtdinpakclmnacaaGreatDoor
