/-
  NARROWER THAN 'FOR EVERY INPUT', by the rows' own cells (each row's printed sentence says how): StepDoes: laid · StepRight: laid · StepOne: laid · StepSure: laid · StepBack: laid · RunRuns: laid.
  DERIVED. THE GIVEN ROWS OF THIS SEAT. 6 by the template 'for every input the law returns true; each argument reads behind the call as it read before'; 0 by the template 'total and deterministic' (their statements: YtadckjclgakcaaaGreatDoorTotals.lean).
  GIVEN WITH THE SEED: the statements are not yours to turn. If you find one false, say at which input.
  Laid BY PROGRAM, IN A SANDBOX (cutbox-rows.mjs): the forced cells as the released guide's own fill.sh prints them over the translation 22b97d67910d5b2d… (all of the seat's roots in one cut). By AI agents, Wed Nov 11 2026. No macro, syntax, notation, axiom, sorry.
-/
import Derived.Test.YtadckjclgakcaaaGreatDoorChecked
import GoSem.Claim
import GoSem.ClaimJoined
import GoSem.ClaimMapViews
import Derived.JoinedTies
import Derived.KernelRfl
namespace Go.Proofs.YtadckjclgakcaaaGreatDoor
/- THE CELL 'sum', in the pinned program and in every row, IS THE sha256 OF THE DUMP (.gsa) THAT YtadckjclgakcaaaGreatDoorProg.lean LOADS. Nothing in Lean hashes anything: it is a label: what it is worth is what the hold of that sum in a sandbox is worth. -/
noncomputable def Tryz.pinned : Pinned := { name := "ytadckjclgakcaaagreatdoor", sum := "22b97d67910d5b2d85853ba889bace334ae9ddae6ad74365af35002a5ec1a43d", checked := Tryz.checked }
namespace Rows
def none {H : Type} : Left H := { results := [], args := [] }

/- WHAT THE LISTED PACKAGE-LEVEL VARIABLES READ AS WHEN THE CALL BEGINS. Each datum BY PROGRAM (the guide's laid-datum.mjs) off the statement by which the dump's own 'gosem.cut.vars' lays the variable. In a bare row this is a premise. The card (YtadckjclgakcaaaGreatDoorCards.lean) ties it to the program's text. -/
def laid_glebe_op_kinds {H : Type} : DataW H := .agg [.agg [.lit (.int .i64 0), .lit (.int .i64 1), .lit (.int .i64 1)], .agg [.lit (.int .i64 1), .lit (.int .i64 0), .lit (.int .i64 0)], .agg [.lit (.int .i64 0), .lit (.int .i64 1), .lit (.int .i64 2)], .agg [.lit (.int .i64 1), .lit (.int .i64 0), .lit (.int .i64 2)], .agg [.lit (.int .i64 2), .lit (.int .i64 1), .lit (.int .i64 0)], .agg [.lit (.int .i64 2), .lit (.int .i64 1), .lit (.int .i64 0)], .agg [.lit (.int .i64 2), .lit (.int .i64 1), .lit (.int .i64 0)], .agg [.lit (.int .i64 2), .lit (.int .i64 1), .lit (.int .i64 0)], .agg [.lit (.int .i64 2), .lit (.int .i64 1), .lit (.int .i64 0)], .agg [.lit (.int .i64 0), .lit (.int .i64 0), .lit (.int .i64 3)], .agg [.lit (.int .i64 1), .lit (.int .i64 0), .lit (.int .i64 3)], .agg [.lit (.int .i64 0), .lit (.int .i64 1), .lit (.int .i64 4)], .agg [.lit (.int .i64 1), .lit (.int .i64 0), .lit (.int .i64 0)], .agg [.lit (.int .i64 0), .lit (.int .i64 1), .lit (.int .i64 4)], .agg [.lit (.int .i64 2), .lit (.int .i64 1), .lit (.int .i64 0)], .agg [.lit (.int .i64 1), .lit (.int .i64 1), .lit (.int .i64 0)], .agg [.lit (.int .i64 1), .lit (.int .i64 0), .lit (.int .i64 0)]]

/-- 'glebelaw.StepDoes': WHATEVER THE INPUT: true; the input reads as it did. -/
def stepDoesSpec : ChangeSpec := { name := "stepDoes", fn := fun _ => fun
  | [d1, d2] => { results := [.lit (.bool true)], args := [d1, d2] }
  | _ => none }
def stepDoesRow : OpenClaim := { program := "ytadckjclgakcaaagreatdoor", sum := "22b97d67910d5b2d85853ba889bace334ae9ddae6ad74365af35002a5ec1a43d", func := "glebe/glebelaw.StepDoes", spec := "stepDoes", unfollowed := true, recurses := true, named := ["glebe/op.kinds"], apart := false, laid := [("glebe/op.kinds", laid_glebe_op_kinds)] }
def StepDoesSaid : Prop := stepDoesRow.holds Tryz.pinned (OpenSpec.ofChange stepDoesSpec)

/-- ITS FALSE NEIGHBOUR: 'it returns false'. Refute it at one input. -/
def stepDoesWrong : ChangeSpec := { name := "stepDoes", fn := fun _ => fun
  | [d1, d2] => { results := [.lit (.bool false)], args := [d1, d2] }
  | _ => none }
def StepDoesWrongFalsely : Prop := stepDoesRow.holds Tryz.pinned (OpenSpec.ofChange stepDoesWrong)

/-- 'glebelaw.StepRight': WHATEVER THE INPUT: true; the input reads as it did. -/
def stepRightSpec : ChangeSpec := { name := "stepRight", fn := fun _ => fun
  | [d1, d2] => { results := [.lit (.bool true)], args := [d1, d2] }
  | _ => none }
def stepRightRow : OpenClaim := { program := "ytadckjclgakcaaagreatdoor", sum := "22b97d67910d5b2d85853ba889bace334ae9ddae6ad74365af35002a5ec1a43d", func := "glebe/glebelaw.StepRight", spec := "stepRight", unfollowed := true, recurses := true, named := ["glebe/op.kinds"], apart := false, laid := [("glebe/op.kinds", laid_glebe_op_kinds)] }
def StepRightSaid : Prop := stepRightRow.holds Tryz.pinned (OpenSpec.ofChange stepRightSpec)

/-- ITS FALSE NEIGHBOUR: 'it returns false'. Refute it at one input. -/
def stepRightWrong : ChangeSpec := { name := "stepRight", fn := fun _ => fun
  | [d1, d2] => { results := [.lit (.bool false)], args := [d1, d2] }
  | _ => none }
def StepRightWrongFalsely : Prop := stepRightRow.holds Tryz.pinned (OpenSpec.ofChange stepRightWrong)

/-- 'glebelaw.StepOne': WHATEVER THE INPUT: true; the input reads as it did. -/
def stepOneSpec : ChangeSpec := { name := "stepOne", fn := fun _ => fun
  | [d1, d2] => { results := [.lit (.bool true)], args := [d1, d2] }
  | _ => none }
def stepOneRow : OpenClaim := { program := "ytadckjclgakcaaagreatdoor", sum := "22b97d67910d5b2d85853ba889bace334ae9ddae6ad74365af35002a5ec1a43d", func := "glebe/glebelaw.StepOne", spec := "stepOne", unfollowed := true, recurses := true, named := ["glebe/op.kinds"], apart := false, laid := [("glebe/op.kinds", laid_glebe_op_kinds)] }
def StepOneSaid : Prop := stepOneRow.holds Tryz.pinned (OpenSpec.ofChange stepOneSpec)

/-- ITS FALSE NEIGHBOUR: 'it returns false'. Refute it at one input. -/
def stepOneWrong : ChangeSpec := { name := "stepOne", fn := fun _ => fun
  | [d1, d2] => { results := [.lit (.bool false)], args := [d1, d2] }
  | _ => none }
def StepOneWrongFalsely : Prop := stepOneRow.holds Tryz.pinned (OpenSpec.ofChange stepOneWrong)

/-- 'glebelaw.StepSure': WHATEVER THE INPUT: true; the input reads as it did. -/
def stepSureSpec : ChangeSpec := { name := "stepSure", fn := fun _ => fun
  | [d1, d2] => { results := [.lit (.bool true)], args := [d1, d2] }
  | _ => none }
def stepSureRow : OpenClaim := { program := "ytadckjclgakcaaagreatdoor", sum := "22b97d67910d5b2d85853ba889bace334ae9ddae6ad74365af35002a5ec1a43d", func := "glebe/glebelaw.StepSure", spec := "stepSure", unfollowed := true, recurses := true, named := ["glebe/op.kinds"], apart := false, laid := [("glebe/op.kinds", laid_glebe_op_kinds)] }
def StepSureSaid : Prop := stepSureRow.holds Tryz.pinned (OpenSpec.ofChange stepSureSpec)

/-- ITS FALSE NEIGHBOUR: 'it returns false'. Refute it at one input. -/
def stepSureWrong : ChangeSpec := { name := "stepSure", fn := fun _ => fun
  | [d1, d2] => { results := [.lit (.bool false)], args := [d1, d2] }
  | _ => none }
def StepSureWrongFalsely : Prop := stepSureRow.holds Tryz.pinned (OpenSpec.ofChange stepSureWrong)

/-- 'glebelaw.StepBack': WHATEVER THE INPUT: true; the input reads as it did. -/
def stepBackSpec : ChangeSpec := { name := "stepBack", fn := fun _ => fun
  | [d1, d2] => { results := [.lit (.bool true)], args := [d1, d2] }
  | _ => none }
def stepBackRow : OpenClaim := { program := "ytadckjclgakcaaagreatdoor", sum := "22b97d67910d5b2d85853ba889bace334ae9ddae6ad74365af35002a5ec1a43d", func := "glebe/glebelaw.StepBack", spec := "stepBack", unfollowed := true, recurses := true, named := ["glebe/op.kinds"], apart := false, laid := [("glebe/op.kinds", laid_glebe_op_kinds)] }
def StepBackSaid : Prop := stepBackRow.holds Tryz.pinned (OpenSpec.ofChange stepBackSpec)

/-- ITS FALSE NEIGHBOUR: 'it returns false'. Refute it at one input. -/
def stepBackWrong : ChangeSpec := { name := "stepBack", fn := fun _ => fun
  | [d1, d2] => { results := [.lit (.bool false)], args := [d1, d2] }
  | _ => none }
def StepBackWrongFalsely : Prop := stepBackRow.holds Tryz.pinned (OpenSpec.ofChange stepBackWrong)

/-- 'glebelaw.RunRuns': WHATEVER THE INPUT: true; the input reads as it did. -/
def runRunsSpec : ChangeSpec := { name := "runRuns", fn := fun _ => fun
  | [d1, d2, d3] => { results := [.lit (.bool true)], args := [d1, d2, d3] }
  | _ => none }
def runRunsRow : OpenClaim := { program := "ytadckjclgakcaaagreatdoor", sum := "22b97d67910d5b2d85853ba889bace334ae9ddae6ad74365af35002a5ec1a43d", func := "glebe/glebelaw.RunRuns", spec := "runRuns", unfollowed := true, recurses := true, named := ["glebe/op.kinds"], apart := false, laid := [("glebe/op.kinds", laid_glebe_op_kinds)] }
def RunRunsSaid : Prop := runRunsRow.holds Tryz.pinned (OpenSpec.ofChange runRunsSpec)

/-- ITS FALSE NEIGHBOUR: 'it returns false'. Refute it at one input. -/
def runRunsWrong : ChangeSpec := { name := "runRuns", fn := fun _ => fun
  | [d1, d2, d3] => { results := [.lit (.bool false)], args := [d1, d2, d3] }
  | _ => none }
def RunRunsWrongFalsely : Prop := runRunsRow.holds Tryz.pinned (OpenSpec.ofChange runRunsWrong)

/- THE SECOND FORM. 'bulk': how many values and letters a reading holds, each counted each time it is reached (what is shared counts as often as it is met; a slice's spare places count too). A statement '..UptoSaid' is the law's where the arguments, and the package variables that the reading takes, are together of bulk at most 1048576: NARROWER than '..Said'. Prove '..Said' where nothing that the law and all that it calls make is longer than what came in: it says more and counts as full. Else prove '..UptoSaid'. A law counts once. -/
mutual
def uptoBulk {H : Type} : DataW H → Nat
  | .lit (.string bytes) => bytes.length + 1
  | .lit _ => 1
  | .nil => 1
  | .ptr d => uptoBulk d + 1
  | .slice elems spare => uptoBulkAll elems + uptoBulkAll spare + 1
  | .agg parts => uptoBulkAll parts + 1
  | .iface _ d => uptoBulk d + 1
  | .map entries => uptoBulkEntries entries + 1
  | .held _ => 1
def uptoBulkAll {H : Type} : List (DataW H) → Nat
  | [] => 0
  | d :: r => uptoBulk d + uptoBulkAll r
def uptoBulkEntries {H : Type} : List (Lit × DataW H) → Nat
  | [] => 0
  | x :: r => uptoBulkEntry x + uptoBulkEntries r
def uptoBulkEntry {H : Type} : Lit × DataW H → Nat
  | (.string bytes, d) => bytes.length + uptoBulk d + 1
  | (_, d) => uptoBulk d + 1
 end
def uptoSmall : (H : Type) → List (DataW H) → Bool := fun _ ds => decide (uptoBulkAll ds ≤ 1048576)
def OpenSpec.upto (s : _root_.Go.ChangeSpec) : _root_.Go.OpenSpec := { _root_.Go.OpenSpec.ofChange s with cond := some uptoSmall }

/-- 'glebelaw.StepDoes', WHERE WHAT IT READS IS OF BULK AT MOST 1048576: true; the input reads as it did. -/
def stepDoesUptoRow : OpenClaim := { program := "ytadckjclgakcaaagreatdoor", sum := "22b97d67910d5b2d85853ba889bace334ae9ddae6ad74365af35002a5ec1a43d", func := "glebe/glebelaw.StepDoes", spec := "stepDoes", unfollowed := true, recurses := true, named := ["glebe/op.kinds"], apart := false, laid := [("glebe/op.kinds", laid_glebe_op_kinds)], narrowed := true }
def StepDoesUptoSaid : Prop := stepDoesUptoRow.holds Tryz.pinned (OpenSpec.upto stepDoesSpec)

/-- 'glebelaw.StepRight', WHERE WHAT IT READS IS OF BULK AT MOST 1048576: true; the input reads as it did. -/
def stepRightUptoRow : OpenClaim := { program := "ytadckjclgakcaaagreatdoor", sum := "22b97d67910d5b2d85853ba889bace334ae9ddae6ad74365af35002a5ec1a43d", func := "glebe/glebelaw.StepRight", spec := "stepRight", unfollowed := true, recurses := true, named := ["glebe/op.kinds"], apart := false, laid := [("glebe/op.kinds", laid_glebe_op_kinds)], narrowed := true }
def StepRightUptoSaid : Prop := stepRightUptoRow.holds Tryz.pinned (OpenSpec.upto stepRightSpec)

/-- 'glebelaw.StepOne', WHERE WHAT IT READS IS OF BULK AT MOST 1048576: true; the input reads as it did. -/
def stepOneUptoRow : OpenClaim := { program := "ytadckjclgakcaaagreatdoor", sum := "22b97d67910d5b2d85853ba889bace334ae9ddae6ad74365af35002a5ec1a43d", func := "glebe/glebelaw.StepOne", spec := "stepOne", unfollowed := true, recurses := true, named := ["glebe/op.kinds"], apart := false, laid := [("glebe/op.kinds", laid_glebe_op_kinds)], narrowed := true }
def StepOneUptoSaid : Prop := stepOneUptoRow.holds Tryz.pinned (OpenSpec.upto stepOneSpec)

/-- 'glebelaw.StepSure', WHERE WHAT IT READS IS OF BULK AT MOST 1048576: true; the input reads as it did. -/
def stepSureUptoRow : OpenClaim := { program := "ytadckjclgakcaaagreatdoor", sum := "22b97d67910d5b2d85853ba889bace334ae9ddae6ad74365af35002a5ec1a43d", func := "glebe/glebelaw.StepSure", spec := "stepSure", unfollowed := true, recurses := true, named := ["glebe/op.kinds"], apart := false, laid := [("glebe/op.kinds", laid_glebe_op_kinds)], narrowed := true }
def StepSureUptoSaid : Prop := stepSureUptoRow.holds Tryz.pinned (OpenSpec.upto stepSureSpec)

/-- 'glebelaw.StepBack', WHERE WHAT IT READS IS OF BULK AT MOST 1048576: true; the input reads as it did. -/
def stepBackUptoRow : OpenClaim := { program := "ytadckjclgakcaaagreatdoor", sum := "22b97d67910d5b2d85853ba889bace334ae9ddae6ad74365af35002a5ec1a43d", func := "glebe/glebelaw.StepBack", spec := "stepBack", unfollowed := true, recurses := true, named := ["glebe/op.kinds"], apart := false, laid := [("glebe/op.kinds", laid_glebe_op_kinds)], narrowed := true }
def StepBackUptoSaid : Prop := stepBackUptoRow.holds Tryz.pinned (OpenSpec.upto stepBackSpec)

/-- 'glebelaw.RunRuns', WHERE WHAT IT READS IS OF BULK AT MOST 1048576: true; the input reads as it did. -/
def runRunsUptoRow : OpenClaim := { program := "ytadckjclgakcaaagreatdoor", sum := "22b97d67910d5b2d85853ba889bace334ae9ddae6ad74365af35002a5ec1a43d", func := "glebe/glebelaw.RunRuns", spec := "runRuns", unfollowed := true, recurses := true, named := ["glebe/op.kinds"], apart := false, laid := [("glebe/op.kinds", laid_glebe_op_kinds)], narrowed := true }
def RunRunsUptoSaid : Prop := runRunsUptoRow.holds Tryz.pinned (OpenSpec.upto runRunsSpec)

end Rows
end Go.Proofs.YtadckjclgakcaaaGreatDoor
