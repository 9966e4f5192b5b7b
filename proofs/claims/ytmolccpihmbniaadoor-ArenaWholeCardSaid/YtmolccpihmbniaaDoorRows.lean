/-
  NARROWER THAN 'FOR EVERY INPUT', by the rows' own cells (each row's printed sentence says how): ArenaPlaces: laid · ArenaOf: laid · ArenaWhole: laid · ArenaLeads: laid · ArenaLives: laid · ArenaNil: laid.
  DERIVED. THE GIVEN ROWS OF THIS SEAT. 6 by the template 'for every input the law returns true; each argument reads behind the call as it read before'; 0 by the template 'total and deterministic' (their statements: YtmolccpihmbniaaDoorTotals.lean).
  GIVEN WITH THE SEED: the statements are not yours to turn. If you find one false, say at which input.
  Laid BY PROGRAM, IN A SANDBOX (cutbox-rows.mjs): the forced cells as the released guide's own fill.sh prints them over the translation 739c2da1463833e9… (all of the seat's roots in one cut). By AI agents, Wed Nov 11 2026. No macro, syntax, notation, axiom, sorry.
-/
import Derived.Test.YtmolccpihmbniaaDoorChecked
import GoSem.Claim
import GoSem.ClaimJoined
import GoSem.ClaimMapViews
import Derived.JoinedTies
import Derived.KernelRfl
namespace Go.Proofs.YtmolccpihmbniaaDoor
/- THE CELL 'sum', in the pinned program and in every row, IS THE sha256 OF THE DUMP (.gsa) THAT YtmolccpihmbniaaDoorProg.lean LOADS. Nothing in Lean hashes anything: it is a label: what it is worth is what the hold of that sum in a sandbox is worth. -/
noncomputable def Tryd.pinned : Pinned := { name := "ytmolccpihmbniaadoor", sum := "739c2da1463833e9e386402c833b138aa05d3f865ae24999c946ca750ea03b2b", checked := Tryd.checked }
namespace Rows
def none {H : Type} : Left H := { results := [], args := [] }

/- WHAT THE LISTED PACKAGE-LEVEL VARIABLES READ AS WHEN THE CALL BEGINS. Each datum BY PROGRAM (the guide's laid-datum.mjs) off the statement by which the dump's own 'gosem.cut.vars' lays the variable. In a bare row this is a premise. The card (YtmolccpihmbniaaDoorCards.lean) ties it to the program's text. -/
def laid_reprieve_arena_sizes {H : Type} : DataW H := .agg [.lit (.int .i64 6), .lit (.int .i64 10)]

/-- 'reprievelaw03.ArenaPlaces': WHATEVER THE INPUT: true; the input reads as it did. -/
def arenaPlacesSpec : ChangeSpec := { name := "arenaPlaces", fn := fun _ => fun
  | [d1, d2, d3, d4, d5] => { results := [.lit (.bool true)], args := [d1, d2, d3, d4, d5] }
  | _ => none }
def arenaPlacesRow : OpenClaim := { program := "ytmolccpihmbniaadoor", sum := "739c2da1463833e9e386402c833b138aa05d3f865ae24999c946ca750ea03b2b", func := "reprieve/reprievelaw03.ArenaPlaces", spec := "arenaPlaces", unfollowed := true, recurses := true, named := ["reprieve/arena.sizes"], apart := false, laid := [("reprieve/arena.sizes", laid_reprieve_arena_sizes)] }
def ArenaPlacesSaid : Prop := arenaPlacesRow.holds Tryd.pinned (OpenSpec.ofChange arenaPlacesSpec)

/-- ITS FALSE NEIGHBOUR: 'it returns false'. Refute it at one input. -/
def arenaPlacesWrong : ChangeSpec := { name := "arenaPlaces", fn := fun _ => fun
  | [d1, d2, d3, d4, d5] => { results := [.lit (.bool false)], args := [d1, d2, d3, d4, d5] }
  | _ => none }
def ArenaPlacesWrongFalsely : Prop := arenaPlacesRow.holds Tryd.pinned (OpenSpec.ofChange arenaPlacesWrong)

/-- 'reprievelaw03.ArenaOf': WHATEVER THE INPUT: true; the input reads as it did. -/
def arenaOfSpec : ChangeSpec := { name := "arenaOf", fn := fun _ => fun
  | [d1, d2, d3, d4] => { results := [.lit (.bool true)], args := [d1, d2, d3, d4] }
  | _ => none }
def arenaOfRow : OpenClaim := { program := "ytmolccpihmbniaadoor", sum := "739c2da1463833e9e386402c833b138aa05d3f865ae24999c946ca750ea03b2b", func := "reprieve/reprievelaw03.ArenaOf", spec := "arenaOf", unfollowed := true, recurses := true, named := ["reprieve/arena.sizes"], apart := false, laid := [("reprieve/arena.sizes", laid_reprieve_arena_sizes)] }
def ArenaOfSaid : Prop := arenaOfRow.holds Tryd.pinned (OpenSpec.ofChange arenaOfSpec)

/-- ITS FALSE NEIGHBOUR: 'it returns false'. Refute it at one input. -/
def arenaOfWrong : ChangeSpec := { name := "arenaOf", fn := fun _ => fun
  | [d1, d2, d3, d4] => { results := [.lit (.bool false)], args := [d1, d2, d3, d4] }
  | _ => none }
def ArenaOfWrongFalsely : Prop := arenaOfRow.holds Tryd.pinned (OpenSpec.ofChange arenaOfWrong)

/-- 'reprievelaw03.ArenaWhole': WHATEVER THE INPUT: true; the input reads as it did. -/
def arenaWholeSpec : ChangeSpec := { name := "arenaWhole", fn := fun _ => fun
  | [d1, d2, d3] => { results := [.lit (.bool true)], args := [d1, d2, d3] }
  | _ => none }
def arenaWholeRow : OpenClaim := { program := "ytmolccpihmbniaadoor", sum := "739c2da1463833e9e386402c833b138aa05d3f865ae24999c946ca750ea03b2b", func := "reprieve/reprievelaw03.ArenaWhole", spec := "arenaWhole", unfollowed := true, recurses := true, named := ["reprieve/arena.sizes"], apart := false, laid := [("reprieve/arena.sizes", laid_reprieve_arena_sizes)] }
def ArenaWholeSaid : Prop := arenaWholeRow.holds Tryd.pinned (OpenSpec.ofChange arenaWholeSpec)

/-- ITS FALSE NEIGHBOUR: 'it returns false'. Refute it at one input. -/
def arenaWholeWrong : ChangeSpec := { name := "arenaWhole", fn := fun _ => fun
  | [d1, d2, d3] => { results := [.lit (.bool false)], args := [d1, d2, d3] }
  | _ => none }
def ArenaWholeWrongFalsely : Prop := arenaWholeRow.holds Tryd.pinned (OpenSpec.ofChange arenaWholeWrong)

/-- 'reprievelaw03.ArenaLeads': WHATEVER THE INPUT: true; the input reads as it did. -/
def arenaLeadsSpec : ChangeSpec := { name := "arenaLeads", fn := fun _ => fun
  | [d1, d2, d3] => { results := [.lit (.bool true)], args := [d1, d2, d3] }
  | _ => none }
def arenaLeadsRow : OpenClaim := { program := "ytmolccpihmbniaadoor", sum := "739c2da1463833e9e386402c833b138aa05d3f865ae24999c946ca750ea03b2b", func := "reprieve/reprievelaw03.ArenaLeads", spec := "arenaLeads", unfollowed := true, recurses := true, named := ["reprieve/arena.sizes"], apart := false, laid := [("reprieve/arena.sizes", laid_reprieve_arena_sizes)] }
def ArenaLeadsSaid : Prop := arenaLeadsRow.holds Tryd.pinned (OpenSpec.ofChange arenaLeadsSpec)

/-- ITS FALSE NEIGHBOUR: 'it returns false'. Refute it at one input. -/
def arenaLeadsWrong : ChangeSpec := { name := "arenaLeads", fn := fun _ => fun
  | [d1, d2, d3] => { results := [.lit (.bool false)], args := [d1, d2, d3] }
  | _ => none }
def ArenaLeadsWrongFalsely : Prop := arenaLeadsRow.holds Tryd.pinned (OpenSpec.ofChange arenaLeadsWrong)

/-- 'reprievelaw03.ArenaLives': WHATEVER THE INPUT: true; the input reads as it did. -/
def arenaLivesSpec : ChangeSpec := { name := "arenaLives", fn := fun _ => fun
  | [d1, d2, d3] => { results := [.lit (.bool true)], args := [d1, d2, d3] }
  | _ => none }
def arenaLivesRow : OpenClaim := { program := "ytmolccpihmbniaadoor", sum := "739c2da1463833e9e386402c833b138aa05d3f865ae24999c946ca750ea03b2b", func := "reprieve/reprievelaw03.ArenaLives", spec := "arenaLives", unfollowed := true, recurses := true, named := ["reprieve/arena.sizes"], apart := false, laid := [("reprieve/arena.sizes", laid_reprieve_arena_sizes)] }
def ArenaLivesSaid : Prop := arenaLivesRow.holds Tryd.pinned (OpenSpec.ofChange arenaLivesSpec)

/-- ITS FALSE NEIGHBOUR: 'it returns false'. Refute it at one input. -/
def arenaLivesWrong : ChangeSpec := { name := "arenaLives", fn := fun _ => fun
  | [d1, d2, d3] => { results := [.lit (.bool false)], args := [d1, d2, d3] }
  | _ => none }
def ArenaLivesWrongFalsely : Prop := arenaLivesRow.holds Tryd.pinned (OpenSpec.ofChange arenaLivesWrong)

/-- 'reprievelaw03.ArenaNil': WHATEVER THE INPUT: true; the input reads as it did. -/
def arenaNilSpec : ChangeSpec := { name := "arenaNil", fn := fun _ => fun
  | [] => { results := [.lit (.bool true)], args := [] }
  | _ => none }
def arenaNilRow : OpenClaim := { program := "ytmolccpihmbniaadoor", sum := "739c2da1463833e9e386402c833b138aa05d3f865ae24999c946ca750ea03b2b", func := "reprieve/reprievelaw03.ArenaNil", spec := "arenaNil", unfollowed := true, recurses := true, named := ["reprieve/arena.sizes"], apart := false, laid := [("reprieve/arena.sizes", laid_reprieve_arena_sizes)] }
def ArenaNilSaid : Prop := arenaNilRow.holds Tryd.pinned (OpenSpec.ofChange arenaNilSpec)

/-- ITS FALSE NEIGHBOUR: 'it returns false'. Refute it at one input. -/
def arenaNilWrong : ChangeSpec := { name := "arenaNil", fn := fun _ => fun
  | [] => { results := [.lit (.bool false)], args := [] }
  | _ => none }
def ArenaNilWrongFalsely : Prop := arenaNilRow.holds Tryd.pinned (OpenSpec.ofChange arenaNilWrong)

/- THE SECOND FORM. 'bulk': how many values and letters a reading holds, each counted each time it is reached (what is shared counts as often as it is met; a slice's spare places count too). A statement '..UptoSaid' is the law's where the arguments, and the package variables that the reading takes, are together of bulk at most 1048576: NARROWER than '..Said'. Prove '..Said' where nothing that the law and all that it calls make is longer than what came in: it says more and counts as full. Else prove '..UptoSaid'. A law counts once. -/
mutual
def uptoBulk {H : Type} : DataW H → Nat
  | .lit (.string bytes) => bytes.length + 1
  | .lit _ => 1
  | .nil => 1
  | .ptr d => uptoBulk d + 1
  | .slice elems spare => uptoBulkAll elems + uptoBulkAll spare + 1
  | .agg parts => uptoBulkAll parts + 1
  | .iface _ d => uptoBulk d + 1
  | .map entries => uptoBulkEntries entries + 1
  | .held _ => 1
def uptoBulkAll {H : Type} : List (DataW H) → Nat
  | [] => 0
  | d :: r => uptoBulk d + uptoBulkAll r
def uptoBulkEntries {H : Type} : List (Lit × DataW H) → Nat
  | [] => 0
  | x :: r => uptoBulkEntry x + uptoBulkEntries r
def uptoBulkEntry {H : Type} : Lit × DataW H → Nat
  | (.string bytes, d) => bytes.length + uptoBulk d + 1
  | (_, d) => uptoBulk d + 1
 end
def uptoSmall : (H : Type) → List (DataW H) → Bool := fun _ ds => decide (uptoBulkAll ds ≤ 1048576)
def OpenSpec.upto (s : _root_.Go.ChangeSpec) : _root_.Go.OpenSpec := { _root_.Go.OpenSpec.ofChange s with cond := some uptoSmall }

/-- 'reprievelaw03.ArenaPlaces', WHERE WHAT IT READS IS OF BULK AT MOST 1048576: true; the input reads as it did. -/
def arenaPlacesUptoRow : OpenClaim := { program := "ytmolccpihmbniaadoor", sum := "739c2da1463833e9e386402c833b138aa05d3f865ae24999c946ca750ea03b2b", func := "reprieve/reprievelaw03.ArenaPlaces", spec := "arenaPlaces", unfollowed := true, recurses := true, named := ["reprieve/arena.sizes"], apart := false, laid := [("reprieve/arena.sizes", laid_reprieve_arena_sizes)], narrowed := true }
def ArenaPlacesUptoSaid : Prop := arenaPlacesUptoRow.holds Tryd.pinned (OpenSpec.upto arenaPlacesSpec)

/-- 'reprievelaw03.ArenaOf', WHERE WHAT IT READS IS OF BULK AT MOST 1048576: true; the input reads as it did. -/
def arenaOfUptoRow : OpenClaim := { program := "ytmolccpihmbniaadoor", sum := "739c2da1463833e9e386402c833b138aa05d3f865ae24999c946ca750ea03b2b", func := "reprieve/reprievelaw03.ArenaOf", spec := "arenaOf", unfollowed := true, recurses := true, named := ["reprieve/arena.sizes"], apart := false, laid := [("reprieve/arena.sizes", laid_reprieve_arena_sizes)], narrowed := true }
def ArenaOfUptoSaid : Prop := arenaOfUptoRow.holds Tryd.pinned (OpenSpec.upto arenaOfSpec)

/-- 'reprievelaw03.ArenaWhole', WHERE WHAT IT READS IS OF BULK AT MOST 1048576: true; the input reads as it did. -/
def arenaWholeUptoRow : OpenClaim := { program := "ytmolccpihmbniaadoor", sum := "739c2da1463833e9e386402c833b138aa05d3f865ae24999c946ca750ea03b2b", func := "reprieve/reprievelaw03.ArenaWhole", spec := "arenaWhole", unfollowed := true, recurses := true, named := ["reprieve/arena.sizes"], apart := false, laid := [("reprieve/arena.sizes", laid_reprieve_arena_sizes)], narrowed := true }
def ArenaWholeUptoSaid : Prop := arenaWholeUptoRow.holds Tryd.pinned (OpenSpec.upto arenaWholeSpec)

/-- 'reprievelaw03.ArenaLeads', WHERE WHAT IT READS IS OF BULK AT MOST 1048576: true; the input reads as it did. -/
def arenaLeadsUptoRow : OpenClaim := { program := "ytmolccpihmbniaadoor", sum := "739c2da1463833e9e386402c833b138aa05d3f865ae24999c946ca750ea03b2b", func := "reprieve/reprievelaw03.ArenaLeads", spec := "arenaLeads", unfollowed := true, recurses := true, named := ["reprieve/arena.sizes"], apart := false, laid := [("reprieve/arena.sizes", laid_reprieve_arena_sizes)], narrowed := true }
def ArenaLeadsUptoSaid : Prop := arenaLeadsUptoRow.holds Tryd.pinned (OpenSpec.upto arenaLeadsSpec)

/-- 'reprievelaw03.ArenaLives', WHERE WHAT IT READS IS OF BULK AT MOST 1048576: true; the input reads as it did. -/
def arenaLivesUptoRow : OpenClaim := { program := "ytmolccpihmbniaadoor", sum := "739c2da1463833e9e386402c833b138aa05d3f865ae24999c946ca750ea03b2b", func := "reprieve/reprievelaw03.ArenaLives", spec := "arenaLives", unfollowed := true, recurses := true, named := ["reprieve/arena.sizes"], apart := false, laid := [("reprieve/arena.sizes", laid_reprieve_arena_sizes)], narrowed := true }
def ArenaLivesUptoSaid : Prop := arenaLivesUptoRow.holds Tryd.pinned (OpenSpec.upto arenaLivesSpec)

/-- 'reprievelaw03.ArenaNil', WHERE WHAT IT READS IS OF BULK AT MOST 1048576: true; the input reads as it did. -/
def arenaNilUptoRow : OpenClaim := { program := "ytmolccpihmbniaadoor", sum := "739c2da1463833e9e386402c833b138aa05d3f865ae24999c946ca750ea03b2b", func := "reprieve/reprievelaw03.ArenaNil", spec := "arenaNil", unfollowed := true, recurses := true, named := ["reprieve/arena.sizes"], apart := false, laid := [("reprieve/arena.sizes", laid_reprieve_arena_sizes)], narrowed := true }
def ArenaNilUptoSaid : Prop := arenaNilUptoRow.holds Tryd.pinned (OpenSpec.upto arenaNilSpec)

end Rows
end Go.Proofs.YtmolccpihmbniaaDoor
