/-
  DERIVED. GIVEN WITH THE SEED: THE CARDS: each row of YtejfcmgnacimgaaDoorRows.lean that lists a variable, with what it lists TIED to the program's text (the seventh form; the later family's looks); each row that meets fmt, with fmt's text TOLD by the authors' own Lean function (tested against real Go, not proved from fmt's source: count such statements apart). THE CARD IS WHAT COUNTS. Prove the row's statement (the work); the ties are given (YtejfcmgnacimgaaDoorTie.lean); close each card by the builder's one call (the guide's Derived/Test/ToyasCard.lean, 'card_holds'). Laid BY PROGRAM, IN A SANDBOX (cutbox-door.mjs). By AI agents, Wed Nov 11 2026. No macro, syntax, notation, axiom, sorry.
-/
import Derived.Test.YtejfcmgnacimgaaDoorRows
import GoSem.ClaimSeven
namespace Go.Proofs.YtejfcmgnacimgaaDoor
namespace Rows

/-- THE TIED CARD OF 'reprievelaw06.AuditPlaces'. -/
def auditPlacesCard : Claim7 := { stood := { row := auditPlacesRow, standIns := [], harness := (true, "f1ace11b8b94ee1146ab628ba09fcae598ac87aa6795ec88bba8fc9672c34a93"), looks := false }, kinds := [], alts := [], laidByText := true, laidKinds := [.data], laidTests := true, laidLooks := .later }
def AuditPlacesCardSaid : Prop := Claim7.holds Tryd.pinned (.plain (OpenSpec.ofChange auditPlacesSpec)) auditPlacesCard

/-- THE TIED CARD OF 'reprievelaw06.AuditFirst'. -/
def auditFirstCard : Claim7 := { stood := { row := auditFirstRow, standIns := [], harness := (true, "f1ace11b8b94ee1146ab628ba09fcae598ac87aa6795ec88bba8fc9672c34a93"), looks := false }, kinds := [], alts := [], laidByText := true, laidKinds := [.data], laidTests := true, laidLooks := .later }
def AuditFirstCardSaid : Prop := Claim7.holds Tryd.pinned (.plain (OpenSpec.ofChange auditFirstSpec)) auditFirstCard

/-- THE TIED CARD OF 'reprievelaw06.AuditTurns'. -/
def auditTurnsCard : Claim7 := { stood := { row := auditTurnsRow, standIns := [], harness := (true, "f1ace11b8b94ee1146ab628ba09fcae598ac87aa6795ec88bba8fc9672c34a93"), looks := false }, kinds := [], alts := [], laidByText := true, laidKinds := [.data], laidTests := true, laidLooks := .later }
def AuditTurnsCardSaid : Prop := Claim7.holds Tryd.pinned (.plain (OpenSpec.ofChange auditTurnsSpec)) auditTurnsCard

/-- THE TIED CARD OF 'reprievelaw06.AuditNone'. -/
def auditNoneCard : Claim7 := { stood := { row := auditNoneRow, standIns := [], harness := (true, "f1ace11b8b94ee1146ab628ba09fcae598ac87aa6795ec88bba8fc9672c34a93"), looks := false }, kinds := [], alts := [], laidByText := true, laidKinds := [.data], laidTests := true, laidLooks := .later }
def AuditNoneCardSaid : Prop := Claim7.holds Tryd.pinned (.plain (OpenSpec.ofChange auditNoneSpec)) auditNoneCard

/-- THE SECOND FORM's CARD OF 'reprievelaw06.AuditPlaces'. -/
def auditPlacesUptoCard : Claim7 := { stood := { row := auditPlacesUptoRow, standIns := [], harness := (true, "f1ace11b8b94ee1146ab628ba09fcae598ac87aa6795ec88bba8fc9672c34a93"), looks := false }, kinds := [], alts := [], laidByText := true, laidKinds := [.data], laidTests := true, laidLooks := .later }
def AuditPlacesUptoCardSaid : Prop := Claim7.holds Tryd.pinned (.plain (OpenSpec.upto auditPlacesSpec)) auditPlacesUptoCard

/-- THE SECOND FORM's CARD OF 'reprievelaw06.AuditFirst'. -/
def auditFirstUptoCard : Claim7 := { stood := { row := auditFirstUptoRow, standIns := [], harness := (true, "f1ace11b8b94ee1146ab628ba09fcae598ac87aa6795ec88bba8fc9672c34a93"), looks := false }, kinds := [], alts := [], laidByText := true, laidKinds := [.data], laidTests := true, laidLooks := .later }
def AuditFirstUptoCardSaid : Prop := Claim7.holds Tryd.pinned (.plain (OpenSpec.upto auditFirstSpec)) auditFirstUptoCard

/-- THE SECOND FORM's CARD OF 'reprievelaw06.AuditTurns'. -/
def auditTurnsUptoCard : Claim7 := { stood := { row := auditTurnsUptoRow, standIns := [], harness := (true, "f1ace11b8b94ee1146ab628ba09fcae598ac87aa6795ec88bba8fc9672c34a93"), looks := false }, kinds := [], alts := [], laidByText := true, laidKinds := [.data], laidTests := true, laidLooks := .later }
def AuditTurnsUptoCardSaid : Prop := Claim7.holds Tryd.pinned (.plain (OpenSpec.upto auditTurnsSpec)) auditTurnsUptoCard

/-- THE SECOND FORM's CARD OF 'reprievelaw06.AuditNone'. -/
def auditNoneUptoCard : Claim7 := { stood := { row := auditNoneUptoRow, standIns := [], harness := (true, "f1ace11b8b94ee1146ab628ba09fcae598ac87aa6795ec88bba8fc9672c34a93"), looks := false }, kinds := [], alts := [], laidByText := true, laidKinds := [.data], laidTests := true, laidLooks := .later }
def AuditNoneUptoCardSaid : Prop := Claim7.holds Tryd.pinned (.plain (OpenSpec.upto auditNoneSpec)) auditNoneUptoCard
end Rows
end Go.Proofs.YtejfcmgnacimgaaDoor
