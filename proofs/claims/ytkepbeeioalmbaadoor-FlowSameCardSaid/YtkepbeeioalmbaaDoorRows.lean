/-
  NARROWER THAN 'FOR EVERY INPUT', by the rows' own cells (each row's printed sentence says how): OpTells: laid · OpChecks: laid · OpTrue: laid · FlowHeights: laid · FlowTrue: laid · FlowSame: laid.
  DERIVED. THE GIVEN ROWS OF THIS SEAT. 6 by the template 'for every input the law returns true; each argument reads behind the call as it read before'; 0 by the template 'total and deterministic' (their statements: YtkepbeeioalmbaaDoorTotals.lean).
  GIVEN WITH THE SEED: the statements are not yours to turn. If you find one false, say at which input.
  Laid BY PROGRAM, IN A SANDBOX (cutbox-rows.mjs): the forced cells as the released guide's own fill.sh prints them over the translation b44ca6c91bf9ce55… (all of the seat's roots in one cut). By AI agents, Wed Nov 11 2026. No macro, syntax, notation, axiom, sorry.
-/
import Derived.Test.YtkepbeeioalmbaaDoorChecked
import GoSem.Claim
import GoSem.ClaimJoined
import GoSem.ClaimMapViews
import Derived.JoinedTies
import Derived.KernelRfl
namespace Go.Proofs.YtkepbeeioalmbaaDoor
/- THE CELL 'sum', in the pinned program and in every row, IS THE sha256 OF THE DUMP (.gsa) THAT YtkepbeeioalmbaaDoorProg.lean LOADS. Nothing in Lean hashes anything: it is a label: what it is worth is what the hold of that sum in a sandbox is worth. -/
noncomputable def Tryd.pinned : Pinned := { name := "ytkepbeeioalmbaadoor", sum := "b44ca6c91bf9ce55694fffc30c5d94d3ae2b9078db69886c8c4d952682221b6f", checked := Tryd.checked }
namespace Rows
def none {H : Type} : Left H := { results := [], args := [] }

/- WHAT THE LISTED PACKAGE-LEVEL VARIABLES READ AS WHEN THE CALL BEGINS. Each datum BY PROGRAM (the guide's laid-datum.mjs) off the statement by which the dump's own 'gosem.cut.vars' lays the variable. In a bare row this is a premise. The card (YtkepbeeioalmbaaDoorCards.lean) ties it to the program's text. -/
def laid_glebe_op_kinds {H : Type} : DataW H := .agg [.agg [.lit (.int .i64 0), .lit (.int .i64 1), .lit (.int .i64 1)], .agg [.lit (.int .i64 1), .lit (.int .i64 0), .lit (.int .i64 0)], .agg [.lit (.int .i64 0), .lit (.int .i64 1), .lit (.int .i64 2)], .agg [.lit (.int .i64 1), .lit (.int .i64 0), .lit (.int .i64 2)], .agg [.lit (.int .i64 2), .lit (.int .i64 1), .lit (.int .i64 0)], .agg [.lit (.int .i64 2), .lit (.int .i64 1), .lit (.int .i64 0)], .agg [.lit (.int .i64 2), .lit (.int .i64 1), .lit (.int .i64 0)], .agg [.lit (.int .i64 2), .lit (.int .i64 1), .lit (.int .i64 0)], .agg [.lit (.int .i64 2), .lit (.int .i64 1), .lit (.int .i64 0)], .agg [.lit (.int .i64 0), .lit (.int .i64 0), .lit (.int .i64 3)], .agg [.lit (.int .i64 1), .lit (.int .i64 0), .lit (.int .i64 3)], .agg [.lit (.int .i64 0), .lit (.int .i64 1), .lit (.int .i64 4)], .agg [.lit (.int .i64 1), .lit (.int .i64 0), .lit (.int .i64 0)], .agg [.lit (.int .i64 0), .lit (.int .i64 1), .lit (.int .i64 4)], .agg [.lit (.int .i64 2), .lit (.int .i64 1), .lit (.int .i64 0)], .agg [.lit (.int .i64 1), .lit (.int .i64 1), .lit (.int .i64 0)], .agg [.lit (.int .i64 1), .lit (.int .i64 0), .lit (.int .i64 0)]]

/-- 'glebelaw.OpTells': WHATEVER THE INPUT: true; the input reads as it did. -/
def opTellsSpec : ChangeSpec := { name := "opTells", fn := fun _ => fun
  | [d1, d2] => { results := [.lit (.bool true)], args := [d1, d2] }
  | _ => none }
def opTellsRow : OpenClaim := { program := "ytkepbeeioalmbaadoor", sum := "b44ca6c91bf9ce55694fffc30c5d94d3ae2b9078db69886c8c4d952682221b6f", func := "glebe/glebelaw.OpTells", spec := "opTells", unfollowed := true, recurses := true, named := ["glebe/op.kinds"], apart := false, laid := [("glebe/op.kinds", laid_glebe_op_kinds)] }
def OpTellsSaid : Prop := opTellsRow.holds Tryd.pinned (OpenSpec.ofChange opTellsSpec)

/-- ITS FALSE NEIGHBOUR: 'it returns false'. Refute it at one input. -/
def opTellsWrong : ChangeSpec := { name := "opTells", fn := fun _ => fun
  | [d1, d2] => { results := [.lit (.bool false)], args := [d1, d2] }
  | _ => none }
def OpTellsWrongFalsely : Prop := opTellsRow.holds Tryd.pinned (OpenSpec.ofChange opTellsWrong)

/-- 'glebelaw.OpChecks': WHATEVER THE INPUT: true; the input reads as it did. -/
def opChecksSpec : ChangeSpec := { name := "opChecks", fn := fun _ => fun
  | [d1, d2] => { results := [.lit (.bool true)], args := [d1, d2] }
  | _ => none }
def opChecksRow : OpenClaim := { program := "ytkepbeeioalmbaadoor", sum := "b44ca6c91bf9ce55694fffc30c5d94d3ae2b9078db69886c8c4d952682221b6f", func := "glebe/glebelaw.OpChecks", spec := "opChecks", unfollowed := true, recurses := true, named := ["glebe/op.kinds"], apart := false, laid := [("glebe/op.kinds", laid_glebe_op_kinds)] }
def OpChecksSaid : Prop := opChecksRow.holds Tryd.pinned (OpenSpec.ofChange opChecksSpec)

/-- ITS FALSE NEIGHBOUR: 'it returns false'. Refute it at one input. -/
def opChecksWrong : ChangeSpec := { name := "opChecks", fn := fun _ => fun
  | [d1, d2] => { results := [.lit (.bool false)], args := [d1, d2] }
  | _ => none }
def OpChecksWrongFalsely : Prop := opChecksRow.holds Tryd.pinned (OpenSpec.ofChange opChecksWrong)

/-- 'glebelaw.OpTrue': WHATEVER THE INPUT: true; the input reads as it did. -/
def opTrueSpec : ChangeSpec := { name := "opTrue", fn := fun _ => fun
  | [d1, d2, d3] => { results := [.lit (.bool true)], args := [d1, d2, d3] }
  | _ => none }
def opTrueRow : OpenClaim := { program := "ytkepbeeioalmbaadoor", sum := "b44ca6c91bf9ce55694fffc30c5d94d3ae2b9078db69886c8c4d952682221b6f", func := "glebe/glebelaw.OpTrue", spec := "opTrue", unfollowed := true, recurses := true, named := ["glebe/op.kinds"], apart := false, laid := [("glebe/op.kinds", laid_glebe_op_kinds)] }
def OpTrueSaid : Prop := opTrueRow.holds Tryd.pinned (OpenSpec.ofChange opTrueSpec)

/-- ITS FALSE NEIGHBOUR: 'it returns false'. Refute it at one input. -/
def opTrueWrong : ChangeSpec := { name := "opTrue", fn := fun _ => fun
  | [d1, d2, d3] => { results := [.lit (.bool false)], args := [d1, d2, d3] }
  | _ => none }
def OpTrueWrongFalsely : Prop := opTrueRow.holds Tryd.pinned (OpenSpec.ofChange opTrueWrong)

/-- 'glebelaw.FlowHeights': WHATEVER THE INPUT: true; the input reads as it did. -/
def flowHeightsSpec : ChangeSpec := { name := "flowHeights", fn := fun _ => fun
  | [d1, d2] => { results := [.lit (.bool true)], args := [d1, d2] }
  | _ => none }
def flowHeightsRow : OpenClaim := { program := "ytkepbeeioalmbaadoor", sum := "b44ca6c91bf9ce55694fffc30c5d94d3ae2b9078db69886c8c4d952682221b6f", func := "glebe/glebelaw.FlowHeights", spec := "flowHeights", unfollowed := true, recurses := true, named := ["glebe/op.kinds"], apart := false, laid := [("glebe/op.kinds", laid_glebe_op_kinds)] }
def FlowHeightsSaid : Prop := flowHeightsRow.holds Tryd.pinned (OpenSpec.ofChange flowHeightsSpec)

/-- ITS FALSE NEIGHBOUR: 'it returns false'. Refute it at one input. -/
def flowHeightsWrong : ChangeSpec := { name := "flowHeights", fn := fun _ => fun
  | [d1, d2] => { results := [.lit (.bool false)], args := [d1, d2] }
  | _ => none }
def FlowHeightsWrongFalsely : Prop := flowHeightsRow.holds Tryd.pinned (OpenSpec.ofChange flowHeightsWrong)

/-- 'glebelaw.FlowTrue': WHATEVER THE INPUT: true; the input reads as it did. -/
def flowTrueSpec : ChangeSpec := { name := "flowTrue", fn := fun _ => fun
  | [d1, d2, d3] => { results := [.lit (.bool true)], args := [d1, d2, d3] }
  | _ => none }
def flowTrueRow : OpenClaim := { program := "ytkepbeeioalmbaadoor", sum := "b44ca6c91bf9ce55694fffc30c5d94d3ae2b9078db69886c8c4d952682221b6f", func := "glebe/glebelaw.FlowTrue", spec := "flowTrue", unfollowed := true, recurses := true, named := ["glebe/op.kinds"], apart := false, laid := [("glebe/op.kinds", laid_glebe_op_kinds)] }
def FlowTrueSaid : Prop := flowTrueRow.holds Tryd.pinned (OpenSpec.ofChange flowTrueSpec)

/-- ITS FALSE NEIGHBOUR: 'it returns false'. Refute it at one input. -/
def flowTrueWrong : ChangeSpec := { name := "flowTrue", fn := fun _ => fun
  | [d1, d2, d3] => { results := [.lit (.bool false)], args := [d1, d2, d3] }
  | _ => none }
def FlowTrueWrongFalsely : Prop := flowTrueRow.holds Tryd.pinned (OpenSpec.ofChange flowTrueWrong)

/-- 'glebelaw.FlowSame': WHATEVER THE INPUT: true; the input reads as it did. -/
def flowSameSpec : ChangeSpec := { name := "flowSame", fn := fun _ => fun
  | [d1, d2] => { results := [.lit (.bool true)], args := [d1, d2] }
  | _ => none }
def flowSameRow : OpenClaim := { program := "ytkepbeeioalmbaadoor", sum := "b44ca6c91bf9ce55694fffc30c5d94d3ae2b9078db69886c8c4d952682221b6f", func := "glebe/glebelaw.FlowSame", spec := "flowSame", unfollowed := true, recurses := true, named := ["glebe/op.kinds"], apart := false, laid := [("glebe/op.kinds", laid_glebe_op_kinds)] }
def FlowSameSaid : Prop := flowSameRow.holds Tryd.pinned (OpenSpec.ofChange flowSameSpec)

/-- ITS FALSE NEIGHBOUR: 'it returns false'. Refute it at one input. -/
def flowSameWrong : ChangeSpec := { name := "flowSame", fn := fun _ => fun
  | [d1, d2] => { results := [.lit (.bool false)], args := [d1, d2] }
  | _ => none }
def FlowSameWrongFalsely : Prop := flowSameRow.holds Tryd.pinned (OpenSpec.ofChange flowSameWrong)

/- THE SECOND FORM. 'bulk': how many values and letters a reading holds, each counted each time it is reached (what is shared counts as often as it is met; a slice's spare places count too). A statement '..UptoSaid' is the law's where the arguments, and the package variables that the reading takes, are together of bulk at most 1048576: NARROWER than '..Said'. Prove '..Said' where nothing that the law and all that it calls make is longer than what came in: it says more and counts as full. Else prove '..UptoSaid'. A law counts once. -/
mutual
def uptoBulk {H : Type} : DataW H → Nat
  | .lit (.string bytes) => bytes.length + 1
  | .lit _ => 1
  | .nil => 1
  | .ptr d => uptoBulk d + 1
  | .slice elems spare => uptoBulkAll elems + uptoBulkAll spare + 1
  | .agg parts => uptoBulkAll parts + 1
  | .iface _ d => uptoBulk d + 1
  | .map entries => uptoBulkEntries entries + 1
  | .held _ => 1
def uptoBulkAll {H : Type} : List (DataW H) → Nat
  | [] => 0
  | d :: r => uptoBulk d + uptoBulkAll r
def uptoBulkEntries {H : Type} : List (Lit × DataW H) → Nat
  | [] => 0
  | x :: r => uptoBulkEntry x + uptoBulkEntries r
def uptoBulkEntry {H : Type} : Lit × DataW H → Nat
  | (.string bytes, d) => bytes.length + uptoBulk d + 1
  | (_, d) => uptoBulk d + 1
 end
def uptoSmall : (H : Type) → List (DataW H) → Bool := fun _ ds => decide (uptoBulkAll ds ≤ 1048576)
def OpenSpec.upto (s : _root_.Go.ChangeSpec) : _root_.Go.OpenSpec := { _root_.Go.OpenSpec.ofChange s with cond := some uptoSmall }

/-- 'glebelaw.OpTells', WHERE WHAT IT READS IS OF BULK AT MOST 1048576: true; the input reads as it did. -/
def opTellsUptoRow : OpenClaim := { program := "ytkepbeeioalmbaadoor", sum := "b44ca6c91bf9ce55694fffc30c5d94d3ae2b9078db69886c8c4d952682221b6f", func := "glebe/glebelaw.OpTells", spec := "opTells", unfollowed := true, recurses := true, named := ["glebe/op.kinds"], apart := false, laid := [("glebe/op.kinds", laid_glebe_op_kinds)], narrowed := true }
def OpTellsUptoSaid : Prop := opTellsUptoRow.holds Tryd.pinned (OpenSpec.upto opTellsSpec)

/-- 'glebelaw.OpChecks', WHERE WHAT IT READS IS OF BULK AT MOST 1048576: true; the input reads as it did. -/
def opChecksUptoRow : OpenClaim := { program := "ytkepbeeioalmbaadoor", sum := "b44ca6c91bf9ce55694fffc30c5d94d3ae2b9078db69886c8c4d952682221b6f", func := "glebe/glebelaw.OpChecks", spec := "opChecks", unfollowed := true, recurses := true, named := ["glebe/op.kinds"], apart := false, laid := [("glebe/op.kinds", laid_glebe_op_kinds)], narrowed := true }
def OpChecksUptoSaid : Prop := opChecksUptoRow.holds Tryd.pinned (OpenSpec.upto opChecksSpec)

/-- 'glebelaw.OpTrue', WHERE WHAT IT READS IS OF BULK AT MOST 1048576: true; the input reads as it did. -/
def opTrueUptoRow : OpenClaim := { program := "ytkepbeeioalmbaadoor", sum := "b44ca6c91bf9ce55694fffc30c5d94d3ae2b9078db69886c8c4d952682221b6f", func := "glebe/glebelaw.OpTrue", spec := "opTrue", unfollowed := true, recurses := true, named := ["glebe/op.kinds"], apart := false, laid := [("glebe/op.kinds", laid_glebe_op_kinds)], narrowed := true }
def OpTrueUptoSaid : Prop := opTrueUptoRow.holds Tryd.pinned (OpenSpec.upto opTrueSpec)

/-- 'glebelaw.FlowHeights', WHERE WHAT IT READS IS OF BULK AT MOST 1048576: true; the input reads as it did. -/
def flowHeightsUptoRow : OpenClaim := { program := "ytkepbeeioalmbaadoor", sum := "b44ca6c91bf9ce55694fffc30c5d94d3ae2b9078db69886c8c4d952682221b6f", func := "glebe/glebelaw.FlowHeights", spec := "flowHeights", unfollowed := true, recurses := true, named := ["glebe/op.kinds"], apart := false, laid := [("glebe/op.kinds", laid_glebe_op_kinds)], narrowed := true }
def FlowHeightsUptoSaid : Prop := flowHeightsUptoRow.holds Tryd.pinned (OpenSpec.upto flowHeightsSpec)

/-- 'glebelaw.FlowTrue', WHERE WHAT IT READS IS OF BULK AT MOST 1048576: true; the input reads as it did. -/
def flowTrueUptoRow : OpenClaim := { program := "ytkepbeeioalmbaadoor", sum := "b44ca6c91bf9ce55694fffc30c5d94d3ae2b9078db69886c8c4d952682221b6f", func := "glebe/glebelaw.FlowTrue", spec := "flowTrue", unfollowed := true, recurses := true, named := ["glebe/op.kinds"], apart := false, laid := [("glebe/op.kinds", laid_glebe_op_kinds)], narrowed := true }
def FlowTrueUptoSaid : Prop := flowTrueUptoRow.holds Tryd.pinned (OpenSpec.upto flowTrueSpec)

/-- 'glebelaw.FlowSame', WHERE WHAT IT READS IS OF BULK AT MOST 1048576: true; the input reads as it did. -/
def flowSameUptoRow : OpenClaim := { program := "ytkepbeeioalmbaadoor", sum := "b44ca6c91bf9ce55694fffc30c5d94d3ae2b9078db69886c8c4d952682221b6f", func := "glebe/glebelaw.FlowSame", spec := "flowSame", unfollowed := true, recurses := true, named := ["glebe/op.kinds"], apart := false, laid := [("glebe/op.kinds", laid_glebe_op_kinds)], narrowed := true }
def FlowSameUptoSaid : Prop := flowSameUptoRow.holds Tryd.pinned (OpenSpec.upto flowSameSpec)

end Rows
end Go.Proofs.YtkepbeeioalmbaaDoor
