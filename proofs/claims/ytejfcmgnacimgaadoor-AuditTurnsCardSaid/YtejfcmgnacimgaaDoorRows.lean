/-
  NARROWER THAN 'FOR EVERY INPUT', by the rows' own cells (each row's printed sentence says how): AuditPlaces: laid · AuditFirst: laid · AuditTurns: laid · AuditNone: laid.
  DERIVED. THE GIVEN ROWS OF THIS SEAT. 4 by the template 'for every input the law returns true; each argument reads behind the call as it read before'; 0 by the template 'total and deterministic' (their statements: YtejfcmgnacimgaaDoorTotals.lean).
  GIVEN WITH THE SEED: the statements are not yours to turn. If you find one false, say at which input.
  Laid BY PROGRAM, IN A SANDBOX (cutbox-rows.mjs): the forced cells as the released guide's own fill.sh prints them over the translation 4e7d770c35c88729… (all of the seat's roots in one cut). By AI agents, Wed Nov 11 2026. No macro, syntax, notation, axiom, sorry.
-/
import Derived.Test.YtejfcmgnacimgaaDoorChecked
import GoSem.Claim
import GoSem.ClaimJoined
import GoSem.ClaimMapViews
import Derived.JoinedTies
import Derived.KernelRfl
namespace Go.Proofs.YtejfcmgnacimgaaDoor
/- THE CELL 'sum', in the pinned program and in every row, IS THE sha256 OF THE DUMP (.gsa) THAT YtejfcmgnacimgaaDoorProg.lean LOADS. Nothing in Lean hashes anything: it is a label: what it is worth is what the hold of that sum in a sandbox is worth. -/
noncomputable def Tryd.pinned : Pinned := { name := "ytejfcmgnacimgaadoor", sum := "4e7d770c35c887290c76aa30b2685195468c46b9954a1d57d36a7c0a8e9b27f3", checked := Tryd.checked }
namespace Rows
def none {H : Type} : Left H := { results := [], args := [] }

/- WHAT THE LISTED PACKAGE-LEVEL VARIABLES READ AS WHEN THE CALL BEGINS. Each datum BY PROGRAM (the guide's laid-datum.mjs) off the statement by which the dump's own 'gosem.cut.vars' lays the variable. In a bare row this is a premise. The card (YtejfcmgnacimgaaDoorCards.lean) ties it to the program's text. -/
def laid_reprieve_audit_sizes {H : Type} : DataW H := .agg [.lit (.int .i64 6), .lit (.int .i64 10)]

/-- 'reprievelaw06.AuditPlaces': WHATEVER THE INPUT: true; the input reads as it did. -/
def auditPlacesSpec : ChangeSpec := { name := "auditPlaces", fn := fun _ => fun
  | [d1, d2, d3] => { results := [.lit (.bool true)], args := [d1, d2, d3] }
  | _ => none }
def auditPlacesRow : OpenClaim := { program := "ytejfcmgnacimgaadoor", sum := "4e7d770c35c887290c76aa30b2685195468c46b9954a1d57d36a7c0a8e9b27f3", func := "reprieve/reprievelaw06.AuditPlaces", spec := "auditPlaces", unfollowed := true, recurses := true, named := ["reprieve/audit.sizes"], apart := false, laid := [("reprieve/audit.sizes", laid_reprieve_audit_sizes)] }
def AuditPlacesSaid : Prop := auditPlacesRow.holds Tryd.pinned (OpenSpec.ofChange auditPlacesSpec)

/-- ITS FALSE NEIGHBOUR: 'it returns false'. Refute it at one input. -/
def auditPlacesWrong : ChangeSpec := { name := "auditPlaces", fn := fun _ => fun
  | [d1, d2, d3] => { results := [.lit (.bool false)], args := [d1, d2, d3] }
  | _ => none }
def AuditPlacesWrongFalsely : Prop := auditPlacesRow.holds Tryd.pinned (OpenSpec.ofChange auditPlacesWrong)

/-- 'reprievelaw06.AuditFirst': WHATEVER THE INPUT: true; the input reads as it did. -/
def auditFirstSpec : ChangeSpec := { name := "auditFirst", fn := fun _ => fun
  | [d1, d2, d3] => { results := [.lit (.bool true)], args := [d1, d2, d3] }
  | _ => none }
def auditFirstRow : OpenClaim := { program := "ytejfcmgnacimgaadoor", sum := "4e7d770c35c887290c76aa30b2685195468c46b9954a1d57d36a7c0a8e9b27f3", func := "reprieve/reprievelaw06.AuditFirst", spec := "auditFirst", unfollowed := true, recurses := true, named := ["reprieve/audit.sizes"], apart := false, laid := [("reprieve/audit.sizes", laid_reprieve_audit_sizes)] }
def AuditFirstSaid : Prop := auditFirstRow.holds Tryd.pinned (OpenSpec.ofChange auditFirstSpec)

/-- ITS FALSE NEIGHBOUR: 'it returns false'. Refute it at one input. -/
def auditFirstWrong : ChangeSpec := { name := "auditFirst", fn := fun _ => fun
  | [d1, d2, d3] => { results := [.lit (.bool false)], args := [d1, d2, d3] }
  | _ => none }
def AuditFirstWrongFalsely : Prop := auditFirstRow.holds Tryd.pinned (OpenSpec.ofChange auditFirstWrong)

/-- 'reprievelaw06.AuditTurns': WHATEVER THE INPUT: true; the input reads as it did. -/
def auditTurnsSpec : ChangeSpec := { name := "auditTurns", fn := fun _ => fun
  | [d1, d2, d3, d4] => { results := [.lit (.bool true)], args := [d1, d2, d3, d4] }
  | _ => none }
def auditTurnsRow : OpenClaim := { program := "ytejfcmgnacimgaadoor", sum := "4e7d770c35c887290c76aa30b2685195468c46b9954a1d57d36a7c0a8e9b27f3", func := "reprieve/reprievelaw06.AuditTurns", spec := "auditTurns", unfollowed := true, recurses := true, named := ["reprieve/audit.sizes"], apart := false, laid := [("reprieve/audit.sizes", laid_reprieve_audit_sizes)] }
def AuditTurnsSaid : Prop := auditTurnsRow.holds Tryd.pinned (OpenSpec.ofChange auditTurnsSpec)

/-- ITS FALSE NEIGHBOUR: 'it returns false'. Refute it at one input. -/
def auditTurnsWrong : ChangeSpec := { name := "auditTurns", fn := fun _ => fun
  | [d1, d2, d3, d4] => { results := [.lit (.bool false)], args := [d1, d2, d3, d4] }
  | _ => none }
def AuditTurnsWrongFalsely : Prop := auditTurnsRow.holds Tryd.pinned (OpenSpec.ofChange auditTurnsWrong)

/-- 'reprievelaw06.AuditNone': WHATEVER THE INPUT: true; the input reads as it did. -/
def auditNoneSpec : ChangeSpec := { name := "auditNone", fn := fun _ => fun
  | [d] => { results := [.lit (.bool true)], args := [d] }
  | _ => none }
def auditNoneRow : OpenClaim := { program := "ytejfcmgnacimgaadoor", sum := "4e7d770c35c887290c76aa30b2685195468c46b9954a1d57d36a7c0a8e9b27f3", func := "reprieve/reprievelaw06.AuditNone", spec := "auditNone", unfollowed := true, recurses := true, named := ["reprieve/audit.sizes"], apart := false, laid := [("reprieve/audit.sizes", laid_reprieve_audit_sizes)] }
def AuditNoneSaid : Prop := auditNoneRow.holds Tryd.pinned (OpenSpec.ofChange auditNoneSpec)

/-- ITS FALSE NEIGHBOUR: 'it returns false'. Refute it at one input. -/
def auditNoneWrong : ChangeSpec := { name := "auditNone", fn := fun _ => fun
  | [d] => { results := [.lit (.bool false)], args := [d] }
  | _ => none }
def AuditNoneWrongFalsely : Prop := auditNoneRow.holds Tryd.pinned (OpenSpec.ofChange auditNoneWrong)

/- THE SECOND FORM. 'bulk': how many values and letters a reading holds, each counted each time it is reached (what is shared counts as often as it is met; a slice's spare places count too). A statement '..UptoSaid' is the law's where the arguments, and the package variables that the reading takes, are together of bulk at most 1048576: NARROWER than '..Said'. Prove '..Said' where nothing that the law and all that it calls make is longer than what came in: it says more and counts as full. Else prove '..UptoSaid'. A law counts once. -/
mutual
def uptoBulk {H : Type} : DataW H → Nat
  | .lit (.string bytes) => bytes.length + 1
  | .lit _ => 1
  | .nil => 1
  | .ptr d => uptoBulk d + 1
  | .slice elems spare => uptoBulkAll elems + uptoBulkAll spare + 1
  | .agg parts => uptoBulkAll parts + 1
  | .iface _ d => uptoBulk d + 1
  | .map entries => uptoBulkEntries entries + 1
  | .held _ => 1
def uptoBulkAll {H : Type} : List (DataW H) → Nat
  | [] => 0
  | d :: r => uptoBulk d + uptoBulkAll r
def uptoBulkEntries {H : Type} : List (Lit × DataW H) → Nat
  | [] => 0
  | x :: r => uptoBulkEntry x + uptoBulkEntries r
def uptoBulkEntry {H : Type} : Lit × DataW H → Nat
  | (.string bytes, d) => bytes.length + uptoBulk d + 1
  | (_, d) => uptoBulk d + 1
 end
def uptoSmall : (H : Type) → List (DataW H) → Bool := fun _ ds => decide (uptoBulkAll ds ≤ 1048576)
def OpenSpec.upto (s : _root_.Go.ChangeSpec) : _root_.Go.OpenSpec := { _root_.Go.OpenSpec.ofChange s with cond := some uptoSmall }

/-- 'reprievelaw06.AuditPlaces', WHERE WHAT IT READS IS OF BULK AT MOST 1048576: true; the input reads as it did. -/
def auditPlacesUptoRow : OpenClaim := { program := "ytejfcmgnacimgaadoor", sum := "4e7d770c35c887290c76aa30b2685195468c46b9954a1d57d36a7c0a8e9b27f3", func := "reprieve/reprievelaw06.AuditPlaces", spec := "auditPlaces", unfollowed := true, recurses := true, named := ["reprieve/audit.sizes"], apart := false, laid := [("reprieve/audit.sizes", laid_reprieve_audit_sizes)], narrowed := true }
def AuditPlacesUptoSaid : Prop := auditPlacesUptoRow.holds Tryd.pinned (OpenSpec.upto auditPlacesSpec)

/-- 'reprievelaw06.AuditFirst', WHERE WHAT IT READS IS OF BULK AT MOST 1048576: true; the input reads as it did. -/
def auditFirstUptoRow : OpenClaim := { program := "ytejfcmgnacimgaadoor", sum := "4e7d770c35c887290c76aa30b2685195468c46b9954a1d57d36a7c0a8e9b27f3", func := "reprieve/reprievelaw06.AuditFirst", spec := "auditFirst", unfollowed := true, recurses := true, named := ["reprieve/audit.sizes"], apart := false, laid := [("reprieve/audit.sizes", laid_reprieve_audit_sizes)], narrowed := true }
def AuditFirstUptoSaid : Prop := auditFirstUptoRow.holds Tryd.pinned (OpenSpec.upto auditFirstSpec)

/-- 'reprievelaw06.AuditTurns', WHERE WHAT IT READS IS OF BULK AT MOST 1048576: true; the input reads as it did. -/
def auditTurnsUptoRow : OpenClaim := { program := "ytejfcmgnacimgaadoor", sum := "4e7d770c35c887290c76aa30b2685195468c46b9954a1d57d36a7c0a8e9b27f3", func := "reprieve/reprievelaw06.AuditTurns", spec := "auditTurns", unfollowed := true, recurses := true, named := ["reprieve/audit.sizes"], apart := false, laid := [("reprieve/audit.sizes", laid_reprieve_audit_sizes)], narrowed := true }
def AuditTurnsUptoSaid : Prop := auditTurnsUptoRow.holds Tryd.pinned (OpenSpec.upto auditTurnsSpec)

/-- 'reprievelaw06.AuditNone', WHERE WHAT IT READS IS OF BULK AT MOST 1048576: true; the input reads as it did. -/
def auditNoneUptoRow : OpenClaim := { program := "ytejfcmgnacimgaadoor", sum := "4e7d770c35c887290c76aa30b2685195468c46b9954a1d57d36a7c0a8e9b27f3", func := "reprieve/reprievelaw06.AuditNone", spec := "auditNone", unfollowed := true, recurses := true, named := ["reprieve/audit.sizes"], apart := false, laid := [("reprieve/audit.sizes", laid_reprieve_audit_sizes)], narrowed := true }
def AuditNoneUptoSaid : Prop := auditNoneUptoRow.holds Tryd.pinned (OpenSpec.upto auditNoneSpec)

end Rows
end Go.Proofs.YtejfcmgnacimgaaDoor
