/-
  No cell of these rows narrows 'for every input' (looked for: loops, veiled, ifaces, maps, wideKeys, modest, calm, conditions, laid).
  DERIVED. THE GIVEN ROWS OF THIS SEAT. 6 by the template 'for every input the law returns true; each argument reads behind the call as it read before'; 0 by the template 'total and deterministic' (their statements: YtebnjfpffdlbbaaTotals.lean).
  GIVEN WITH THE SEED: the statements are not yours to turn. If you find one false, say at which input.
  Laid BY PROGRAM, IN A SANDBOX (cutbox-rows.mjs): the forced cells as the released guide's own fill.sh prints them over the translation 0496aa6ad11aefd1… (all of the seat's roots in one cut). By AI agents, Wed Nov 11 2026. No macro, syntax, notation, axiom, sorry.
-/
import Derived.Test.YtebnjfpffdlbbaaChecked
import GoSem.Claim
import GoSem.ClaimJoined
import GoSem.ClaimMapViews
import Derived.JoinedTies
import Derived.KernelRfl
namespace Go.Proofs.Ytebnjfpffdlbbaa
/- THE CELL 'sum', in the pinned program and in every row, IS THE sha256 OF THE DUMP (.gsa) THAT YtebnjfpffdlbbaaProg.lean LOADS. Nothing in Lean hashes anything: it is a label: what it is worth is what the hold of that sum in a sandbox is worth. -/
noncomputable def Try.pinned : Pinned := { name := "ytebnjfpffdlbbaa", sum := "0496aa6ad11aefd152312b7929e362203aaa1cc4e14b80687f4327cadb029bae", checked := Try.checked }
namespace Rows
def none {H : Type} : Left H := { results := [], args := [] }

/-- 'reprievelaw08.SmrClamps': WHATEVER THE INPUT: true; the input reads as it did. -/
def smrClampsSpec : ChangeSpec := { name := "smrClamps", fn := fun _ => fun
  | [d] => { results := [.lit (.bool true)], args := [d] }
  | _ => none }
def smrClampsRow : OpenClaim := { program := "ytebnjfpffdlbbaa", sum := "0496aa6ad11aefd152312b7929e362203aaa1cc4e14b80687f4327cadb029bae", func := "reprieve/reprievelaw08.SmrClamps", spec := "smrClamps", apart := false }
def SmrClampsSaid : Prop := smrClampsRow.holds Try.pinned (OpenSpec.ofChange smrClampsSpec)

/-- ITS FALSE NEIGHBOUR: 'it returns false'. Refute it at one input. -/
def smrClampsWrong : ChangeSpec := { name := "smrClamps", fn := fun _ => fun
  | [d] => { results := [.lit (.bool false)], args := [d] }
  | _ => none }
def SmrClampsWrongFalsely : Prop := smrClampsRow.holds Try.pinned (OpenSpec.ofChange smrClampsWrong)

/-- 'reprievelaw08.SmrRules': WHATEVER THE INPUT: true; the input reads as it did. -/
def smrRulesSpec : ChangeSpec := { name := "smrRules", fn := fun _ => fun
  | [d1, d2, d3, d4, d5] => { results := [.lit (.bool true)], args := [d1, d2, d3, d4, d5] }
  | _ => none }
def smrRulesRow : OpenClaim := { program := "ytebnjfpffdlbbaa", sum := "0496aa6ad11aefd152312b7929e362203aaa1cc4e14b80687f4327cadb029bae", func := "reprieve/reprievelaw08.SmrRules", spec := "smrRules", unfollowed := true, recurses := true, apart := false }
def SmrRulesSaid : Prop := smrRulesRow.holds Try.pinned (OpenSpec.ofChange smrRulesSpec)

/-- ITS FALSE NEIGHBOUR: 'it returns false'. Refute it at one input. -/
def smrRulesWrong : ChangeSpec := { name := "smrRules", fn := fun _ => fun
  | [d1, d2, d3, d4, d5] => { results := [.lit (.bool false)], args := [d1, d2, d3, d4, d5] }
  | _ => none }
def SmrRulesWrongFalsely : Prop := smrRulesRow.holds Try.pinned (OpenSpec.ofChange smrRulesWrong)

/-- 'reprievelaw08.SmrWords': WHATEVER THE INPUT: true; the input reads as it did. -/
def smrWordsSpec : ChangeSpec := { name := "smrWords", fn := fun _ => fun
  | [d1, d2, d3, d4] => { results := [.lit (.bool true)], args := [d1, d2, d3, d4] }
  | _ => none }
def smrWordsRow : OpenClaim := { program := "ytebnjfpffdlbbaa", sum := "0496aa6ad11aefd152312b7929e362203aaa1cc4e14b80687f4327cadb029bae", func := "reprieve/reprievelaw08.SmrWords", spec := "smrWords", apart := false }
def SmrWordsSaid : Prop := smrWordsRow.holds Try.pinned (OpenSpec.ofChange smrWordsSpec)

/-- ITS FALSE NEIGHBOUR: 'it returns false'. Refute it at one input. -/
def smrWordsWrong : ChangeSpec := { name := "smrWords", fn := fun _ => fun
  | [d1, d2, d3, d4] => { results := [.lit (.bool false)], args := [d1, d2, d3, d4] }
  | _ => none }
def SmrWordsWrongFalsely : Prop := smrWordsRow.holds Try.pinned (OpenSpec.ofChange smrWordsWrong)

/-- 'reprievelaw08.SmrLists': WHATEVER THE INPUT: true; the input reads as it did. -/
def smrListsSpec : ChangeSpec := { name := "smrLists", fn := fun _ => fun
  | [d1, d2] => { results := [.lit (.bool true)], args := [d1, d2] }
  | _ => none }
def smrListsRow : OpenClaim := { program := "ytebnjfpffdlbbaa", sum := "0496aa6ad11aefd152312b7929e362203aaa1cc4e14b80687f4327cadb029bae", func := "reprieve/reprievelaw08.SmrLists", spec := "smrLists", unfollowed := true, recurses := true, apart := false }
def SmrListsSaid : Prop := smrListsRow.holds Try.pinned (OpenSpec.ofChange smrListsSpec)

/-- ITS FALSE NEIGHBOUR: 'it returns false'. Refute it at one input. -/
def smrListsWrong : ChangeSpec := { name := "smrLists", fn := fun _ => fun
  | [d1, d2] => { results := [.lit (.bool false)], args := [d1, d2] }
  | _ => none }
def SmrListsWrongFalsely : Prop := smrListsRow.holds Try.pinned (OpenSpec.ofChange smrListsWrong)

/-- 'reprievelaw08.SmrWider': WHATEVER THE INPUT: true; the input reads as it did. -/
def smrWiderSpec : ChangeSpec := { name := "smrWider", fn := fun _ => fun
  | [d1, d2, d3, d4, d5] => { results := [.lit (.bool true)], args := [d1, d2, d3, d4, d5] }
  | _ => none }
def smrWiderRow : OpenClaim := { program := "ytebnjfpffdlbbaa", sum := "0496aa6ad11aefd152312b7929e362203aaa1cc4e14b80687f4327cadb029bae", func := "reprieve/reprievelaw08.SmrWider", spec := "smrWider", unfollowed := true, recurses := true, apart := false }
def SmrWiderSaid : Prop := smrWiderRow.holds Try.pinned (OpenSpec.ofChange smrWiderSpec)

/-- ITS FALSE NEIGHBOUR: 'it returns false'. Refute it at one input. -/
def smrWiderWrong : ChangeSpec := { name := "smrWider", fn := fun _ => fun
  | [d1, d2, d3, d4, d5] => { results := [.lit (.bool false)], args := [d1, d2, d3, d4, d5] }
  | _ => none }
def SmrWiderWrongFalsely : Prop := smrWiderRow.holds Try.pinned (OpenSpec.ofChange smrWiderWrong)

/-- 'reprievelaw08.SmrNil': WHATEVER THE INPUT: true; the input reads as it did. -/
def smrNilSpec : ChangeSpec := { name := "smrNil", fn := fun _ => fun
  | [] => { results := [.lit (.bool true)], args := [] }
  | _ => none }
def smrNilRow : OpenClaim := { program := "ytebnjfpffdlbbaa", sum := "0496aa6ad11aefd152312b7929e362203aaa1cc4e14b80687f4327cadb029bae", func := "reprieve/reprievelaw08.SmrNil", spec := "smrNil", apart := false }
def SmrNilSaid : Prop := smrNilRow.holds Try.pinned (OpenSpec.ofChange smrNilSpec)

/-- ITS FALSE NEIGHBOUR: 'it returns false'. Refute it at one input. -/
def smrNilWrong : ChangeSpec := { name := "smrNil", fn := fun _ => fun
  | [] => { results := [.lit (.bool false)], args := [] }
  | _ => none }
def SmrNilWrongFalsely : Prop := smrNilRow.holds Try.pinned (OpenSpec.ofChange smrNilWrong)

/- THE SECOND FORM. 'bulk': how many values and letters a reading holds, each counted each time it is reached (what is shared counts as often as it is met; a slice's spare places count too). A statement '..UptoSaid' is the law's where the arguments, and the package variables that the reading takes, are together of bulk at most 1048576: NARROWER than '..Said'. Prove '..Said' where nothing that the law and all that it calls make is longer than what came in: it says more and counts as full. Else prove '..UptoSaid'. A law counts once. -/
mutual
def uptoBulk {H : Type} : DataW H → Nat
  | .lit (.string bytes) => bytes.length + 1
  | .lit _ => 1
  | .nil => 1
  | .ptr d => uptoBulk d + 1
  | .slice elems spare => uptoBulkAll elems + uptoBulkAll spare + 1
  | .agg parts => uptoBulkAll parts + 1
  | .iface _ d => uptoBulk d + 1
  | .map entries => uptoBulkEntries entries + 1
  | .held _ => 1
def uptoBulkAll {H : Type} : List (DataW H) → Nat
  | [] => 0
  | d :: r => uptoBulk d + uptoBulkAll r
def uptoBulkEntries {H : Type} : List (Lit × DataW H) → Nat
  | [] => 0
  | x :: r => uptoBulkEntry x + uptoBulkEntries r
def uptoBulkEntry {H : Type} : Lit × DataW H → Nat
  | (.string bytes, d) => bytes.length + uptoBulk d + 1
  | (_, d) => uptoBulk d + 1
 end
def uptoSmall : (H : Type) → List (DataW H) → Bool := fun _ ds => decide (uptoBulkAll ds ≤ 1048576)
def OpenSpec.upto (s : _root_.Go.ChangeSpec) : _root_.Go.OpenSpec := { _root_.Go.OpenSpec.ofChange s with cond := some uptoSmall }

/-- 'reprievelaw08.SmrClamps', WHERE WHAT IT READS IS OF BULK AT MOST 1048576: true; the input reads as it did. -/
def smrClampsUptoRow : OpenClaim := { program := "ytebnjfpffdlbbaa", sum := "0496aa6ad11aefd152312b7929e362203aaa1cc4e14b80687f4327cadb029bae", func := "reprieve/reprievelaw08.SmrClamps", spec := "smrClamps", apart := false, narrowed := true }
def SmrClampsUptoSaid : Prop := smrClampsUptoRow.holds Try.pinned (OpenSpec.upto smrClampsSpec)

/-- 'reprievelaw08.SmrRules', WHERE WHAT IT READS IS OF BULK AT MOST 1048576: true; the input reads as it did. -/
def smrRulesUptoRow : OpenClaim := { program := "ytebnjfpffdlbbaa", sum := "0496aa6ad11aefd152312b7929e362203aaa1cc4e14b80687f4327cadb029bae", func := "reprieve/reprievelaw08.SmrRules", spec := "smrRules", unfollowed := true, recurses := true, apart := false, narrowed := true }
def SmrRulesUptoSaid : Prop := smrRulesUptoRow.holds Try.pinned (OpenSpec.upto smrRulesSpec)

/-- 'reprievelaw08.SmrWords', WHERE WHAT IT READS IS OF BULK AT MOST 1048576: true; the input reads as it did. -/
def smrWordsUptoRow : OpenClaim := { program := "ytebnjfpffdlbbaa", sum := "0496aa6ad11aefd152312b7929e362203aaa1cc4e14b80687f4327cadb029bae", func := "reprieve/reprievelaw08.SmrWords", spec := "smrWords", apart := false, narrowed := true }
def SmrWordsUptoSaid : Prop := smrWordsUptoRow.holds Try.pinned (OpenSpec.upto smrWordsSpec)

/-- 'reprievelaw08.SmrLists', WHERE WHAT IT READS IS OF BULK AT MOST 1048576: true; the input reads as it did. -/
def smrListsUptoRow : OpenClaim := { program := "ytebnjfpffdlbbaa", sum := "0496aa6ad11aefd152312b7929e362203aaa1cc4e14b80687f4327cadb029bae", func := "reprieve/reprievelaw08.SmrLists", spec := "smrLists", unfollowed := true, recurses := true, apart := false, narrowed := true }
def SmrListsUptoSaid : Prop := smrListsUptoRow.holds Try.pinned (OpenSpec.upto smrListsSpec)

/-- 'reprievelaw08.SmrWider', WHERE WHAT IT READS IS OF BULK AT MOST 1048576: true; the input reads as it did. -/
def smrWiderUptoRow : OpenClaim := { program := "ytebnjfpffdlbbaa", sum := "0496aa6ad11aefd152312b7929e362203aaa1cc4e14b80687f4327cadb029bae", func := "reprieve/reprievelaw08.SmrWider", spec := "smrWider", unfollowed := true, recurses := true, apart := false, narrowed := true }
def SmrWiderUptoSaid : Prop := smrWiderUptoRow.holds Try.pinned (OpenSpec.upto smrWiderSpec)

/-- 'reprievelaw08.SmrNil', WHERE WHAT IT READS IS OF BULK AT MOST 1048576: true; the input reads as it did. -/
def smrNilUptoRow : OpenClaim := { program := "ytebnjfpffdlbbaa", sum := "0496aa6ad11aefd152312b7929e362203aaa1cc4e14b80687f4327cadb029bae", func := "reprieve/reprievelaw08.SmrNil", spec := "smrNil", apart := false, narrowed := true }
def SmrNilUptoSaid : Prop := smrNilUptoRow.holds Try.pinned (OpenSpec.upto smrNilSpec)

end Rows
end Go.Proofs.Ytebnjfpffdlbbaa
