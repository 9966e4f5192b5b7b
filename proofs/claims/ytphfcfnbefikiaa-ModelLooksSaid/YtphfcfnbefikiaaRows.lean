/-
  No cell of these rows narrows 'for every input' (looked for: loops, veiled, ifaces, maps, wideKeys, modest, calm, conditions, laid).
  DERIVED. THE GIVEN ROWS OF THIS SEAT. 6 by the template 'for every input the law returns true; each argument reads behind the call as it read before'; 0 by the template 'total and deterministic' (their statements: YtphfcfnbefikiaaTotals.lean).
  GIVEN WITH THE SEED: the statements are not yours to turn. If you find one false, say at which input.
  Laid BY PROGRAM, IN A SANDBOX (cutbox-rows.mjs): the forced cells as the released guide's own fill.sh prints them over the translation 237a4c86eb2d2581… (all of the seat's roots in one cut). By AI agents, Wed Nov 11 2026. No macro, syntax, notation, axiom, sorry.
-/
import Derived.Test.YtphfcfnbefikiaaChecked
import GoSem.Claim
import GoSem.ClaimJoined
import GoSem.ClaimMapViews
import Derived.JoinedTies
import Derived.KernelRfl
namespace Go.Proofs.Ytphfcfnbefikiaa
/- THE CELL 'sum', in the pinned program and in every row, IS THE sha256 OF THE DUMP (.gsa) THAT YtphfcfnbefikiaaProg.lean LOADS. Nothing in Lean hashes anything: it is a label: what it is worth is what the hold of that sum in a sandbox is worth. -/
noncomputable def Try.pinned : Pinned := { name := "ytphfcfnbefikiaa", sum := "237a4c86eb2d2581b8d140d7ad3136a267b49fd6d0d69dd4a649ec1f7117d1a7", checked := Try.checked }
namespace Rows
def none {H : Type} : Left H := { results := [], args := [] }

/-- 'reprievelaw18.ModelPlays': WHATEVER THE INPUT: true; the input reads as it did. -/
def modelPlaysSpec : ChangeSpec := { name := "modelPlays", fn := fun _ => fun
  | [d1, d2, d3] => { results := [.lit (.bool true)], args := [d1, d2, d3] }
  | _ => none }
def modelPlaysRow : OpenClaim := { program := "ytphfcfnbefikiaa", sum := "237a4c86eb2d2581b8d140d7ad3136a267b49fd6d0d69dd4a649ec1f7117d1a7", func := "reprieve/reprievelaw18.ModelPlays", spec := "modelPlays", inPlace := ["slices.overlaps[reprieve/api.Thing]"], unfollowed := true, recurses := true, apart := false }
def ModelPlaysSaid : Prop := modelPlaysRow.holds Try.pinned (OpenSpec.ofChange modelPlaysSpec)

/-- ITS FALSE NEIGHBOUR: 'it returns false'. Refute it at one input. -/
def modelPlaysWrong : ChangeSpec := { name := "modelPlays", fn := fun _ => fun
  | [d1, d2, d3] => { results := [.lit (.bool false)], args := [d1, d2, d3] }
  | _ => none }
def ModelPlaysWrongFalsely : Prop := modelPlaysRow.holds Try.pinned (OpenSpec.ofChange modelPlaysWrong)

/-- 'reprievelaw18.ModelMay': WHATEVER THE INPUT: true; the input reads as it did. -/
def modelMaySpec : ChangeSpec := { name := "modelMay", fn := fun _ => fun
  | [d1, d2] => { results := [.lit (.bool true)], args := [d1, d2] }
  | _ => none }
def modelMayRow : OpenClaim := { program := "ytphfcfnbefikiaa", sum := "237a4c86eb2d2581b8d140d7ad3136a267b49fd6d0d69dd4a649ec1f7117d1a7", func := "reprieve/reprievelaw18.ModelMay", spec := "modelMay", inPlace := ["slices.overlaps[reprieve/api.Thing]"], unfollowed := true, recurses := true, apart := false }
def ModelMaySaid : Prop := modelMayRow.holds Try.pinned (OpenSpec.ofChange modelMaySpec)

/-- ITS FALSE NEIGHBOUR: 'it returns false'. Refute it at one input. -/
def modelMayWrong : ChangeSpec := { name := "modelMay", fn := fun _ => fun
  | [d1, d2] => { results := [.lit (.bool false)], args := [d1, d2] }
  | _ => none }
def ModelMayWrongFalsely : Prop := modelMayRow.holds Try.pinned (OpenSpec.ofChange modelMayWrong)

/-- 'reprievelaw18.ModelOrder': WHATEVER THE INPUT: true; the input reads as it did. -/
def modelOrderSpec : ChangeSpec := { name := "modelOrder", fn := fun _ => fun
  | [d] => { results := [.lit (.bool true)], args := [d] }
  | _ => none }
def modelOrderRow : OpenClaim := { program := "ytphfcfnbefikiaa", sum := "237a4c86eb2d2581b8d140d7ad3136a267b49fd6d0d69dd4a649ec1f7117d1a7", func := "reprieve/reprievelaw18.ModelOrder", spec := "modelOrder", inPlace := ["slices.overlaps[reprieve/api.Thing]"], unfollowed := true, recurses := true, apart := false }
def ModelOrderSaid : Prop := modelOrderRow.holds Try.pinned (OpenSpec.ofChange modelOrderSpec)

/-- ITS FALSE NEIGHBOUR: 'it returns false'. Refute it at one input. -/
def modelOrderWrong : ChangeSpec := { name := "modelOrder", fn := fun _ => fun
  | [d] => { results := [.lit (.bool false)], args := [d] }
  | _ => none }
def ModelOrderWrongFalsely : Prop := modelOrderRow.holds Try.pinned (OpenSpec.ofChange modelOrderWrong)

/-- 'reprievelaw18.ModelKeys': WHATEVER THE INPUT: true; the input reads as it did. -/
def modelKeysSpec : ChangeSpec := { name := "modelKeys", fn := fun _ => fun
  | [d1, d2, d3, d4] => { results := [.lit (.bool true)], args := [d1, d2, d3, d4] }
  | _ => none }
def modelKeysRow : OpenClaim := { program := "ytphfcfnbefikiaa", sum := "237a4c86eb2d2581b8d140d7ad3136a267b49fd6d0d69dd4a649ec1f7117d1a7", func := "reprieve/reprievelaw18.ModelKeys", spec := "modelKeys", inPlace := ["slices.overlaps[reprieve/api.Thing]"], unfollowed := true, recurses := true, apart := false }
def ModelKeysSaid : Prop := modelKeysRow.holds Try.pinned (OpenSpec.ofChange modelKeysSpec)

/-- ITS FALSE NEIGHBOUR: 'it returns false'. Refute it at one input. -/
def modelKeysWrong : ChangeSpec := { name := "modelKeys", fn := fun _ => fun
  | [d1, d2, d3, d4] => { results := [.lit (.bool false)], args := [d1, d2, d3, d4] }
  | _ => none }
def ModelKeysWrongFalsely : Prop := modelKeysRow.holds Try.pinned (OpenSpec.ofChange modelKeysWrong)

/-- 'reprievelaw18.ModelLooks': WHATEVER THE INPUT: true; the input reads as it did. -/
def modelLooksSpec : ChangeSpec := { name := "modelLooks", fn := fun _ => fun
  | [d1, d2, d3, d4] => { results := [.lit (.bool true)], args := [d1, d2, d3, d4] }
  | _ => none }
def modelLooksRow : OpenClaim := { program := "ytphfcfnbefikiaa", sum := "237a4c86eb2d2581b8d140d7ad3136a267b49fd6d0d69dd4a649ec1f7117d1a7", func := "reprieve/reprievelaw18.ModelLooks", spec := "modelLooks", inPlace := ["slices.overlaps[reprieve/api.Thing]"], unfollowed := true, recurses := true, apart := false }
def ModelLooksSaid : Prop := modelLooksRow.holds Try.pinned (OpenSpec.ofChange modelLooksSpec)

/-- ITS FALSE NEIGHBOUR: 'it returns false'. Refute it at one input. -/
def modelLooksWrong : ChangeSpec := { name := "modelLooks", fn := fun _ => fun
  | [d1, d2, d3, d4] => { results := [.lit (.bool false)], args := [d1, d2, d3, d4] }
  | _ => none }
def ModelLooksWrongFalsely : Prop := modelLooksRow.holds Try.pinned (OpenSpec.ofChange modelLooksWrong)

/-- 'reprievelaw18.ModelNil': WHATEVER THE INPUT: true; the input reads as it did. -/
def modelNilSpec : ChangeSpec := { name := "modelNil", fn := fun _ => fun
  | [] => { results := [.lit (.bool true)], args := [] }
  | _ => none }
def modelNilRow : OpenClaim := { program := "ytphfcfnbefikiaa", sum := "237a4c86eb2d2581b8d140d7ad3136a267b49fd6d0d69dd4a649ec1f7117d1a7", func := "reprieve/reprievelaw18.ModelNil", spec := "modelNil", inPlace := ["slices.overlaps[reprieve/api.Thing]"], unfollowed := true, recurses := true, apart := false }
def ModelNilSaid : Prop := modelNilRow.holds Try.pinned (OpenSpec.ofChange modelNilSpec)

/-- ITS FALSE NEIGHBOUR: 'it returns false'. Refute it at one input. -/
def modelNilWrong : ChangeSpec := { name := "modelNil", fn := fun _ => fun
  | [] => { results := [.lit (.bool false)], args := [] }
  | _ => none }
def ModelNilWrongFalsely : Prop := modelNilRow.holds Try.pinned (OpenSpec.ofChange modelNilWrong)

/- THE SECOND FORM. 'bulk': how many values and letters a reading holds, each counted each time it is reached (what is shared counts as often as it is met; a slice's spare places count too). A statement '..UptoSaid' is the law's where the arguments, and the package variables that the reading takes, are together of bulk at most 1048576: NARROWER than '..Said'. Prove '..Said' where nothing that the law and all that it calls make is longer than what came in: it says more and counts as full. Else prove '..UptoSaid'. A law counts once. -/
mutual
def uptoBulk {H : Type} : DataW H → Nat
  | .lit (.string bytes) => bytes.length + 1
  | .lit _ => 1
  | .nil => 1
  | .ptr d => uptoBulk d + 1
  | .slice elems spare => uptoBulkAll elems + uptoBulkAll spare + 1
  | .agg parts => uptoBulkAll parts + 1
  | .iface _ d => uptoBulk d + 1
  | .map entries => uptoBulkEntries entries + 1
  | .held _ => 1
def uptoBulkAll {H : Type} : List (DataW H) → Nat
  | [] => 0
  | d :: r => uptoBulk d + uptoBulkAll r
def uptoBulkEntries {H : Type} : List (Lit × DataW H) → Nat
  | [] => 0
  | x :: r => uptoBulkEntry x + uptoBulkEntries r
def uptoBulkEntry {H : Type} : Lit × DataW H → Nat
  | (.string bytes, d) => bytes.length + uptoBulk d + 1
  | (_, d) => uptoBulk d + 1
 end
def uptoSmall : (H : Type) → List (DataW H) → Bool := fun _ ds => decide (uptoBulkAll ds ≤ 1048576)
def OpenSpec.upto (s : _root_.Go.ChangeSpec) : _root_.Go.OpenSpec := { _root_.Go.OpenSpec.ofChange s with cond := some uptoSmall }

/-- 'reprievelaw18.ModelPlays', WHERE WHAT IT READS IS OF BULK AT MOST 1048576: true; the input reads as it did. -/
def modelPlaysUptoRow : OpenClaim := { program := "ytphfcfnbefikiaa", sum := "237a4c86eb2d2581b8d140d7ad3136a267b49fd6d0d69dd4a649ec1f7117d1a7", func := "reprieve/reprievelaw18.ModelPlays", spec := "modelPlays", inPlace := ["slices.overlaps[reprieve/api.Thing]"], unfollowed := true, recurses := true, apart := false, narrowed := true }
def ModelPlaysUptoSaid : Prop := modelPlaysUptoRow.holds Try.pinned (OpenSpec.upto modelPlaysSpec)

/-- 'reprievelaw18.ModelMay', WHERE WHAT IT READS IS OF BULK AT MOST 1048576: true; the input reads as it did. -/
def modelMayUptoRow : OpenClaim := { program := "ytphfcfnbefikiaa", sum := "237a4c86eb2d2581b8d140d7ad3136a267b49fd6d0d69dd4a649ec1f7117d1a7", func := "reprieve/reprievelaw18.ModelMay", spec := "modelMay", inPlace := ["slices.overlaps[reprieve/api.Thing]"], unfollowed := true, recurses := true, apart := false, narrowed := true }
def ModelMayUptoSaid : Prop := modelMayUptoRow.holds Try.pinned (OpenSpec.upto modelMaySpec)

/-- 'reprievelaw18.ModelOrder', WHERE WHAT IT READS IS OF BULK AT MOST 1048576: true; the input reads as it did. -/
def modelOrderUptoRow : OpenClaim := { program := "ytphfcfnbefikiaa", sum := "237a4c86eb2d2581b8d140d7ad3136a267b49fd6d0d69dd4a649ec1f7117d1a7", func := "reprieve/reprievelaw18.ModelOrder", spec := "modelOrder", inPlace := ["slices.overlaps[reprieve/api.Thing]"], unfollowed := true, recurses := true, apart := false, narrowed := true }
def ModelOrderUptoSaid : Prop := modelOrderUptoRow.holds Try.pinned (OpenSpec.upto modelOrderSpec)

/-- 'reprievelaw18.ModelKeys', WHERE WHAT IT READS IS OF BULK AT MOST 1048576: true; the input reads as it did. -/
def modelKeysUptoRow : OpenClaim := { program := "ytphfcfnbefikiaa", sum := "237a4c86eb2d2581b8d140d7ad3136a267b49fd6d0d69dd4a649ec1f7117d1a7", func := "reprieve/reprievelaw18.ModelKeys", spec := "modelKeys", inPlace := ["slices.overlaps[reprieve/api.Thing]"], unfollowed := true, recurses := true, apart := false, narrowed := true }
def ModelKeysUptoSaid : Prop := modelKeysUptoRow.holds Try.pinned (OpenSpec.upto modelKeysSpec)

/-- 'reprievelaw18.ModelLooks', WHERE WHAT IT READS IS OF BULK AT MOST 1048576: true; the input reads as it did. -/
def modelLooksUptoRow : OpenClaim := { program := "ytphfcfnbefikiaa", sum := "237a4c86eb2d2581b8d140d7ad3136a267b49fd6d0d69dd4a649ec1f7117d1a7", func := "reprieve/reprievelaw18.ModelLooks", spec := "modelLooks", inPlace := ["slices.overlaps[reprieve/api.Thing]"], unfollowed := true, recurses := true, apart := false, narrowed := true }
def ModelLooksUptoSaid : Prop := modelLooksUptoRow.holds Try.pinned (OpenSpec.upto modelLooksSpec)

/-- 'reprievelaw18.ModelNil', WHERE WHAT IT READS IS OF BULK AT MOST 1048576: true; the input reads as it did. -/
def modelNilUptoRow : OpenClaim := { program := "ytphfcfnbefikiaa", sum := "237a4c86eb2d2581b8d140d7ad3136a267b49fd6d0d69dd4a649ec1f7117d1a7", func := "reprieve/reprievelaw18.ModelNil", spec := "modelNil", inPlace := ["slices.overlaps[reprieve/api.Thing]"], unfollowed := true, recurses := true, apart := false, narrowed := true }
def ModelNilUptoSaid : Prop := modelNilUptoRow.holds Try.pinned (OpenSpec.upto modelNilSpec)

end Rows
end Go.Proofs.Ytphfcfnbefikiaa
