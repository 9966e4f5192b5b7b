/-
  DERIVED. GIVEN WITH THE SEED: THE CARDS: each row of YtmolccpihmbniaaDoorRows.lean that lists a variable, with what it lists TIED to the program's text (the seventh form; the later family's looks); each row that meets fmt, with fmt's text TOLD by the authors' own Lean function (tested against real Go, not proved from fmt's source: count such statements apart). THE CARD IS WHAT COUNTS. Prove the row's statement (the work); the ties are given (YtmolccpihmbniaaDoorTie.lean); close each card by the builder's one call (the guide's Derived/Test/ToyasCard.lean, 'card_holds'). Laid BY PROGRAM, IN A SANDBOX (cutbox-door.mjs). By AI agents, Wed Nov 11 2026. No macro, syntax, notation, axiom, sorry.
-/
import Derived.Test.YtmolccpihmbniaaDoorRows
import GoSem.ClaimSeven
namespace Go.Proofs.YtmolccpihmbniaaDoor
namespace Rows

/-- THE TIED CARD OF 'reprievelaw03.ArenaPlaces'. -/
def arenaPlacesCard : Claim7 := { stood := { row := arenaPlacesRow, standIns := [], harness := (true, "e4de7eaea8c0999d4d9a51fe56a3dcc139836e09535e4759643c31a9da17fb15"), looks := false }, kinds := [], alts := [], laidByText := true, laidKinds := [.data], laidTests := true, laidLooks := .later }
def ArenaPlacesCardSaid : Prop := Claim7.holds Tryd.pinned (.plain (OpenSpec.ofChange arenaPlacesSpec)) arenaPlacesCard

/-- THE TIED CARD OF 'reprievelaw03.ArenaOf'. -/
def arenaOfCard : Claim7 := { stood := { row := arenaOfRow, standIns := [], harness := (true, "e4de7eaea8c0999d4d9a51fe56a3dcc139836e09535e4759643c31a9da17fb15"), looks := false }, kinds := [], alts := [], laidByText := true, laidKinds := [.data], laidTests := true, laidLooks := .later }
def ArenaOfCardSaid : Prop := Claim7.holds Tryd.pinned (.plain (OpenSpec.ofChange arenaOfSpec)) arenaOfCard

/-- THE TIED CARD OF 'reprievelaw03.ArenaWhole'. -/
def arenaWholeCard : Claim7 := { stood := { row := arenaWholeRow, standIns := [], harness := (true, "e4de7eaea8c0999d4d9a51fe56a3dcc139836e09535e4759643c31a9da17fb15"), looks := false }, kinds := [], alts := [], laidByText := true, laidKinds := [.data], laidTests := true, laidLooks := .later }
def ArenaWholeCardSaid : Prop := Claim7.holds Tryd.pinned (.plain (OpenSpec.ofChange arenaWholeSpec)) arenaWholeCard

/-- THE TIED CARD OF 'reprievelaw03.ArenaLeads'. -/
def arenaLeadsCard : Claim7 := { stood := { row := arenaLeadsRow, standIns := [], harness := (true, "e4de7eaea8c0999d4d9a51fe56a3dcc139836e09535e4759643c31a9da17fb15"), looks := false }, kinds := [], alts := [], laidByText := true, laidKinds := [.data], laidTests := true, laidLooks := .later }
def ArenaLeadsCardSaid : Prop := Claim7.holds Tryd.pinned (.plain (OpenSpec.ofChange arenaLeadsSpec)) arenaLeadsCard

/-- THE TIED CARD OF 'reprievelaw03.ArenaLives'. -/
def arenaLivesCard : Claim7 := { stood := { row := arenaLivesRow, standIns := [], harness := (true, "e4de7eaea8c0999d4d9a51fe56a3dcc139836e09535e4759643c31a9da17fb15"), looks := false }, kinds := [], alts := [], laidByText := true, laidKinds := [.data], laidTests := true, laidLooks := .later }
def ArenaLivesCardSaid : Prop := Claim7.holds Tryd.pinned (.plain (OpenSpec.ofChange arenaLivesSpec)) arenaLivesCard

/-- THE TIED CARD OF 'reprievelaw03.ArenaNil'. -/
def arenaNilCard : Claim7 := { stood := { row := arenaNilRow, standIns := [], harness := (true, "e4de7eaea8c0999d4d9a51fe56a3dcc139836e09535e4759643c31a9da17fb15"), looks := false }, kinds := [], alts := [], laidByText := true, laidKinds := [.data], laidTests := true, laidLooks := .later }
def ArenaNilCardSaid : Prop := Claim7.holds Tryd.pinned (.plain (OpenSpec.ofChange arenaNilSpec)) arenaNilCard

/-- THE SECOND FORM's CARD OF 'reprievelaw03.ArenaPlaces'. -/
def arenaPlacesUptoCard : Claim7 := { stood := { row := arenaPlacesUptoRow, standIns := [], harness := (true, "e4de7eaea8c0999d4d9a51fe56a3dcc139836e09535e4759643c31a9da17fb15"), looks := false }, kinds := [], alts := [], laidByText := true, laidKinds := [.data], laidTests := true, laidLooks := .later }
def ArenaPlacesUptoCardSaid : Prop := Claim7.holds Tryd.pinned (.plain (OpenSpec.upto arenaPlacesSpec)) arenaPlacesUptoCard

/-- THE SECOND FORM's CARD OF 'reprievelaw03.ArenaOf'. -/
def arenaOfUptoCard : Claim7 := { stood := { row := arenaOfUptoRow, standIns := [], harness := (true, "e4de7eaea8c0999d4d9a51fe56a3dcc139836e09535e4759643c31a9da17fb15"), looks := false }, kinds := [], alts := [], laidByText := true, laidKinds := [.data], laidTests := true, laidLooks := .later }
def ArenaOfUptoCardSaid : Prop := Claim7.holds Tryd.pinned (.plain (OpenSpec.upto arenaOfSpec)) arenaOfUptoCard

/-- THE SECOND FORM's CARD OF 'reprievelaw03.ArenaWhole'. -/
def arenaWholeUptoCard : Claim7 := { stood := { row := arenaWholeUptoRow, standIns := [], harness := (true, "e4de7eaea8c0999d4d9a51fe56a3dcc139836e09535e4759643c31a9da17fb15"), looks := false }, kinds := [], alts := [], laidByText := true, laidKinds := [.data], laidTests := true, laidLooks := .later }
def ArenaWholeUptoCardSaid : Prop := Claim7.holds Tryd.pinned (.plain (OpenSpec.upto arenaWholeSpec)) arenaWholeUptoCard

/-- THE SECOND FORM's CARD OF 'reprievelaw03.ArenaLeads'. -/
def arenaLeadsUptoCard : Claim7 := { stood := { row := arenaLeadsUptoRow, standIns := [], harness := (true, "e4de7eaea8c0999d4d9a51fe56a3dcc139836e09535e4759643c31a9da17fb15"), looks := false }, kinds := [], alts := [], laidByText := true, laidKinds := [.data], laidTests := true, laidLooks := .later }
def ArenaLeadsUptoCardSaid : Prop := Claim7.holds Tryd.pinned (.plain (OpenSpec.upto arenaLeadsSpec)) arenaLeadsUptoCard

/-- THE SECOND FORM's CARD OF 'reprievelaw03.ArenaLives'. -/
def arenaLivesUptoCard : Claim7 := { stood := { row := arenaLivesUptoRow, standIns := [], harness := (true, "e4de7eaea8c0999d4d9a51fe56a3dcc139836e09535e4759643c31a9da17fb15"), looks := false }, kinds := [], alts := [], laidByText := true, laidKinds := [.data], laidTests := true, laidLooks := .later }
def ArenaLivesUptoCardSaid : Prop := Claim7.holds Tryd.pinned (.plain (OpenSpec.upto arenaLivesSpec)) arenaLivesUptoCard

/-- THE SECOND FORM's CARD OF 'reprievelaw03.ArenaNil'. -/
def arenaNilUptoCard : Claim7 := { stood := { row := arenaNilUptoRow, standIns := [], harness := (true, "e4de7eaea8c0999d4d9a51fe56a3dcc139836e09535e4759643c31a9da17fb15"), looks := false }, kinds := [], alts := [], laidByText := true, laidKinds := [.data], laidTests := true, laidLooks := .later }
def ArenaNilUptoCardSaid : Prop := Claim7.holds Tryd.pinned (.plain (OpenSpec.upto arenaNilSpec)) arenaNilUptoCard
end Rows
end Go.Proofs.YtmolccpihmbniaaDoor
