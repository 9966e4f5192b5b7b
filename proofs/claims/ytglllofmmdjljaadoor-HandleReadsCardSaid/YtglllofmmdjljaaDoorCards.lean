/-
  DERIVED. GIVEN WITH THE SEED: THE CARDS: each row of YtglllofmmdjljaaDoorRows.lean that lists a variable, with what it lists TIED to the program's text (the seventh form; the later family's looks); each row that meets fmt, with fmt's text TOLD by the authors' own Lean function (tested against real Go, not proved from fmt's source: count such statements apart). THE CARD IS WHAT COUNTS. Prove the row's statement (the work); the ties are given (YtglllofmmdjljaaDoorTie.lean); close each card by the builder's one call (the guide's Derived/Test/ToyasCard.lean, 'card_holds'). Laid BY PROGRAM, IN A SANDBOX (cutbox-door.mjs). By AI agents, Wed Nov 11 2026. No macro, syntax, notation, axiom, sorry.
-/
import Derived.Test.YtglllofmmdjljaaDoorRows
import GoSem.ClaimSeven
namespace Go.Proofs.YtglllofmmdjljaaDoor
namespace Rows

/-- THE TIED CARD OF 'reprievelaw01.HandlePacks'. -/
def handlePacksCard : Claim7 := { stood := { row := handlePacksRow, standIns := [], harness := (true, "a7400d977dcb99a300bc95f585c005a7be126bfeca168d029173df09e53c5c77"), looks := false }, kinds := [], alts := [], laidByText := true, laidKinds := [.data, .data, .data, .data], laidTests := true, laidLooks := .later }
def HandlePacksCardSaid : Prop := Claim7.holds Tryd.pinned (.plain (OpenSpec.ofChange handlePacksSpec)) handlePacksCard

/-- THE TIED CARD OF 'reprievelaw01.HandleParts'. -/
def handlePartsCard : Claim7 := { stood := { row := handlePartsRow, standIns := [], harness := (true, "a7400d977dcb99a300bc95f585c005a7be126bfeca168d029173df09e53c5c77"), looks := false }, kinds := [], alts := [], laidByText := true, laidKinds := [.data, .data, .data, .data], laidTests := true, laidLooks := .later }
def HandlePartsCardSaid : Prop := Claim7.holds Tryd.pinned (.plain (OpenSpec.ofChange handlePartsSpec)) handlePartsCard

/-- THE TIED CARD OF 'reprievelaw01.HandleWith'. -/
def handleWithCard : Claim7 := { stood := { row := handleWithRow, standIns := [], harness := (true, "a7400d977dcb99a300bc95f585c005a7be126bfeca168d029173df09e53c5c77"), looks := false }, kinds := [], alts := [], laidByText := true, laidKinds := [.data, .data, .data, .data], laidTests := true, laidLooks := .later }
def HandleWithCardSaid : Prop := Claim7.holds Tryd.pinned (.plain (OpenSpec.ofChange handleWithSpec)) handleWithCard

/-- THE TIED CARD OF 'reprievelaw01.HandleSame'. -/
def handleSameCard : Claim7 := { stood := { row := handleSameRow, standIns := [], harness := (true, "a7400d977dcb99a300bc95f585c005a7be126bfeca168d029173df09e53c5c77"), looks := false }, kinds := [], alts := [], laidByText := true, laidKinds := [.data, .data, .data, .data], laidTests := true, laidLooks := .later }
def HandleSameCardSaid : Prop := Claim7.holds Tryd.pinned (.plain (OpenSpec.ofChange handleSameSpec)) handleSameCard

/-- THE TIED CARD OF 'reprievelaw01.HandleTexts'. -/
def handleTextsCard : Claim7 := { stood := { row := handleTextsRow, standIns := [], harness := (true, "a7400d977dcb99a300bc95f585c005a7be126bfeca168d029173df09e53c5c77"), looks := false }, kinds := [], alts := [], laidByText := true, laidKinds := [.data, .data, .data, .data], laidTests := true, laidLooks := .later }
def HandleTextsCardSaid : Prop := Claim7.holds Tryd.pinned (.plain (OpenSpec.ofChange handleTextsSpec)) handleTextsCard

/-- THE TIED CARD OF 'reprievelaw01.HandleReads'. -/
def handleReadsCard : Claim7 := { stood := { row := handleReadsRow, standIns := [], harness := (true, "a7400d977dcb99a300bc95f585c005a7be126bfeca168d029173df09e53c5c77"), looks := false }, kinds := [], alts := [], laidByText := true, laidKinds := [.data, .data, .data, .data], laidTests := true, laidLooks := .later }
def HandleReadsCardSaid : Prop := Claim7.holds Tryd.pinned (.plain (OpenSpec.ofChange handleReadsSpec)) handleReadsCard

/-- THE SECOND FORM's CARD OF 'reprievelaw01.HandlePacks'. -/
def handlePacksUptoCard : Claim7 := { stood := { row := handlePacksUptoRow, standIns := [], harness := (true, "a7400d977dcb99a300bc95f585c005a7be126bfeca168d029173df09e53c5c77"), looks := false }, kinds := [], alts := [], laidByText := true, laidKinds := [.data, .data, .data, .data], laidTests := true, laidLooks := .later }
def HandlePacksUptoCardSaid : Prop := Claim7.holds Tryd.pinned (.plain (OpenSpec.upto handlePacksSpec)) handlePacksUptoCard

/-- THE SECOND FORM's CARD OF 'reprievelaw01.HandleParts'. -/
def handlePartsUptoCard : Claim7 := { stood := { row := handlePartsUptoRow, standIns := [], harness := (true, "a7400d977dcb99a300bc95f585c005a7be126bfeca168d029173df09e53c5c77"), looks := false }, kinds := [], alts := [], laidByText := true, laidKinds := [.data, .data, .data, .data], laidTests := true, laidLooks := .later }
def HandlePartsUptoCardSaid : Prop := Claim7.holds Tryd.pinned (.plain (OpenSpec.upto handlePartsSpec)) handlePartsUptoCard

/-- THE SECOND FORM's CARD OF 'reprievelaw01.HandleWith'. -/
def handleWithUptoCard : Claim7 := { stood := { row := handleWithUptoRow, standIns := [], harness := (true, "a7400d977dcb99a300bc95f585c005a7be126bfeca168d029173df09e53c5c77"), looks := false }, kinds := [], alts := [], laidByText := true, laidKinds := [.data, .data, .data, .data], laidTests := true, laidLooks := .later }
def HandleWithUptoCardSaid : Prop := Claim7.holds Tryd.pinned (.plain (OpenSpec.upto handleWithSpec)) handleWithUptoCard

/-- THE SECOND FORM's CARD OF 'reprievelaw01.HandleSame'. -/
def handleSameUptoCard : Claim7 := { stood := { row := handleSameUptoRow, standIns := [], harness := (true, "a7400d977dcb99a300bc95f585c005a7be126bfeca168d029173df09e53c5c77"), looks := false }, kinds := [], alts := [], laidByText := true, laidKinds := [.data, .data, .data, .data], laidTests := true, laidLooks := .later }
def HandleSameUptoCardSaid : Prop := Claim7.holds Tryd.pinned (.plain (OpenSpec.upto handleSameSpec)) handleSameUptoCard

/-- THE SECOND FORM's CARD OF 'reprievelaw01.HandleTexts'. -/
def handleTextsUptoCard : Claim7 := { stood := { row := handleTextsUptoRow, standIns := [], harness := (true, "a7400d977dcb99a300bc95f585c005a7be126bfeca168d029173df09e53c5c77"), looks := false }, kinds := [], alts := [], laidByText := true, laidKinds := [.data, .data, .data, .data], laidTests := true, laidLooks := .later }
def HandleTextsUptoCardSaid : Prop := Claim7.holds Tryd.pinned (.plain (OpenSpec.upto handleTextsSpec)) handleTextsUptoCard

/-- THE SECOND FORM's CARD OF 'reprievelaw01.HandleReads'. -/
def handleReadsUptoCard : Claim7 := { stood := { row := handleReadsUptoRow, standIns := [], harness := (true, "a7400d977dcb99a300bc95f585c005a7be126bfeca168d029173df09e53c5c77"), looks := false }, kinds := [], alts := [], laidByText := true, laidKinds := [.data, .data, .data, .data], laidTests := true, laidLooks := .later }
def HandleReadsUptoCardSaid : Prop := Claim7.holds Tryd.pinned (.plain (OpenSpec.upto handleReadsSpec)) handleReadsUptoCard
end Rows
end Go.Proofs.YtglllofmmdjljaaDoor
