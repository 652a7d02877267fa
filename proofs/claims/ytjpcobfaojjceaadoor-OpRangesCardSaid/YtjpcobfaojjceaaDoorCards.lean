/-
  DERIVED. GIVEN WITH THE SEED: THE CARDS: each row of YtjpcobfaojjceaaDoorRows.lean that lists a variable, with what it lists TIED to the program's text (the seventh form; the later family's looks); each row that meets fmt, with fmt's text TOLD by the authors' own Lean function (tested against real Go, not proved from fmt's source: count such statements apart). THE CARD IS WHAT COUNTS. Prove the row's statement (the work); the ties are given (YtjpcobfaojjceaaDoorTie.lean); close each card by the builder's one call (the guide's Derived/Test/ToyasCard.lean, 'card_holds'). Laid BY PROGRAM, IN A SANDBOX (cutbox-door.mjs). By AI agents, Wed Nov 11 2026. No macro, syntax, notation, axiom, sorry.
-/
import Derived.Test.YtjpcobfaojjceaaDoorRows
import GoSem.ClaimSeven
namespace Go.Proofs.YtjpcobfaojjceaaDoor
namespace Rows

/-- THE TIED CARD OF 'tuckmilllaw03.OpInfos'. -/
def opInfosCard : Claim7 := { stood := { row := opInfosRow, standIns := [], harness := (true, "aa1d28fdb5a78e0d2ce240403f0b3095b445ba70e47f85723a8a24073788182f"), looks := false }, kinds := [], alts := [], laidByText := true, laidKinds := [.listed, .data], laidTests := true, laidLooks := .later }
def OpInfosCardSaid : Prop := Claim7.holds Tryd.pinned (.plain (OpenSpec.ofChange opInfosSpec)) opInfosCard

/-- THE TIED CARD OF 'tuckmilllaw03.OpRights'. -/
def opRightsCard : Claim7 := { stood := { row := opRightsRow, standIns := [], harness := (true, "aa1d28fdb5a78e0d2ce240403f0b3095b445ba70e47f85723a8a24073788182f"), looks := false }, kinds := [], alts := [], laidByText := true, laidKinds := [.listed, .data], laidTests := true, laidLooks := .later }
def OpRightsCardSaid : Prop := Claim7.holds Tryd.pinned (.plain (OpenSpec.ofChange opRightsSpec)) opRightsCard

/-- THE TIED CARD OF 'tuckmilllaw03.OpNames'. -/
def opNamesCard : Claim7 := { stood := { row := opNamesRow, standIns := [], harness := (true, "aa1d28fdb5a78e0d2ce240403f0b3095b445ba70e47f85723a8a24073788182f"), looks := false }, kinds := [], alts := [], laidByText := true, laidKinds := [.listed, .data], laidTests := true, laidLooks := .later }
def OpNamesCardSaid : Prop := Claim7.holds Tryd.pinned (.plain (OpenSpec.ofChange opNamesSpec)) opNamesCard

/-- THE TIED CARD OF 'tuckmilllaw03.OpTwins'. -/
def opTwinsCard : Claim7 := { stood := { row := opTwinsRow, standIns := [], harness := (true, "aa1d28fdb5a78e0d2ce240403f0b3095b445ba70e47f85723a8a24073788182f"), looks := false }, kinds := [], alts := [], laidByText := true, laidKinds := [.listed, .data], laidTests := true, laidLooks := .later }
def OpTwinsCardSaid : Prop := Claim7.holds Tryd.pinned (.plain (OpenSpec.ofChange opTwinsSpec)) opTwinsCard

/-- THE TIED CARD OF 'tuckmilllaw03.OpRanges'. -/
def opRangesCard : Claim7 := { stood := { row := opRangesRow, standIns := [], harness := (true, "aa1d28fdb5a78e0d2ce240403f0b3095b445ba70e47f85723a8a24073788182f"), looks := false }, kinds := [], alts := [], laidByText := true, laidKinds := [.listed, .data], laidTests := true, laidLooks := .later }
def OpRangesCardSaid : Prop := Claim7.holds Tryd.pinned (.plain (OpenSpec.ofChange opRangesSpec)) opRangesCard

/-- THE SECOND FORM's CARD OF 'tuckmilllaw03.OpInfos'. -/
def opInfosUptoCard : Claim7 := { stood := { row := opInfosUptoRow, standIns := [], harness := (true, "aa1d28fdb5a78e0d2ce240403f0b3095b445ba70e47f85723a8a24073788182f"), looks := false }, kinds := [], alts := [], laidByText := true, laidKinds := [.listed, .data], laidTests := true, laidLooks := .later }
def OpInfosUptoCardSaid : Prop := Claim7.holds Tryd.pinned (.plain (OpenSpec.upto opInfosSpec)) opInfosUptoCard

/-- THE SECOND FORM's CARD OF 'tuckmilllaw03.OpRights'. -/
def opRightsUptoCard : Claim7 := { stood := { row := opRightsUptoRow, standIns := [], harness := (true, "aa1d28fdb5a78e0d2ce240403f0b3095b445ba70e47f85723a8a24073788182f"), looks := false }, kinds := [], alts := [], laidByText := true, laidKinds := [.listed, .data], laidTests := true, laidLooks := .later }
def OpRightsUptoCardSaid : Prop := Claim7.holds Tryd.pinned (.plain (OpenSpec.upto opRightsSpec)) opRightsUptoCard

/-- THE SECOND FORM's CARD OF 'tuckmilllaw03.OpNames'. -/
def opNamesUptoCard : Claim7 := { stood := { row := opNamesUptoRow, standIns := [], harness := (true, "aa1d28fdb5a78e0d2ce240403f0b3095b445ba70e47f85723a8a24073788182f"), looks := false }, kinds := [], alts := [], laidByText := true, laidKinds := [.listed, .data], laidTests := true, laidLooks := .later }
def OpNamesUptoCardSaid : Prop := Claim7.holds Tryd.pinned (.plain (OpenSpec.upto opNamesSpec)) opNamesUptoCard

/-- THE SECOND FORM's CARD OF 'tuckmilllaw03.OpTwins'. -/
def opTwinsUptoCard : Claim7 := { stood := { row := opTwinsUptoRow, standIns := [], harness := (true, "aa1d28fdb5a78e0d2ce240403f0b3095b445ba70e47f85723a8a24073788182f"), looks := false }, kinds := [], alts := [], laidByText := true, laidKinds := [.listed, .data], laidTests := true, laidLooks := .later }
def OpTwinsUptoCardSaid : Prop := Claim7.holds Tryd.pinned (.plain (OpenSpec.upto opTwinsSpec)) opTwinsUptoCard

/-- THE SECOND FORM's CARD OF 'tuckmilllaw03.OpRanges'. -/
def opRangesUptoCard : Claim7 := { stood := { row := opRangesUptoRow, standIns := [], harness := (true, "aa1d28fdb5a78e0d2ce240403f0b3095b445ba70e47f85723a8a24073788182f"), looks := false }, kinds := [], alts := [], laidByText := true, laidKinds := [.listed, .data], laidTests := true, laidLooks := .later }
def OpRangesUptoCardSaid : Prop := Claim7.holds Tryd.pinned (.plain (OpenSpec.upto opRangesSpec)) opRangesUptoCard
end Rows
end Go.Proofs.YtjpcobfaojjceaaDoor
