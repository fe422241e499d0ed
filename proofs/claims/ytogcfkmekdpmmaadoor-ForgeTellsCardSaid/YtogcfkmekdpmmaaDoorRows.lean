/-
  NARROWER THAN 'FOR EVERY INPUT', by the rows' own cells (each row's printed sentence says how): RunAll: laid · ForgeTells: laid · ForgeRight: laid · ForgeSafe: laid · ForgeFit: laid.
  DERIVED. THE GIVEN ROWS OF THIS SEAT. 5 by the template 'for every input the law returns true; each argument reads behind the call as it read before'; 0 by the template 'total and deterministic' (their statements: YtogcfkmekdpmmaaDoorTotals.lean).
  GIVEN WITH THE SEED: the statements are not yours to turn. If you find one false, say at which input.
  Laid BY PROGRAM, IN A SANDBOX (cutbox-rows.mjs): the forced cells as the released guide's own fill.sh prints them over the translation 866475965023612e… (all of the seat's roots in one cut). By AI agents, Wed Nov 11 2026. No macro, syntax, notation, axiom, sorry.
-/
import Derived.Test.YtogcfkmekdpmmaaDoorChecked
import GoSem.Claim
import GoSem.ClaimJoined
import GoSem.ClaimMapViews
import Derived.JoinedTies
import Derived.KernelRfl
namespace Go.Proofs.YtogcfkmekdpmmaaDoor
/- THE CELL 'sum', in the pinned program and in every row, IS THE sha256 OF THE DUMP (.gsa) THAT YtogcfkmekdpmmaaDoorProg.lean LOADS. Nothing in Lean hashes anything: it is a label: what it is worth is what the hold of that sum in a sandbox is worth. -/
noncomputable def Tryd.pinned : Pinned := { name := "ytogcfkmekdpmmaadoor", sum := "866475965023612e92ca5fc08476e6134fa72b90a7dd28e4aa21c84324304320", checked := Tryd.checked }
namespace Rows
def none {H : Type} : Left H := { results := [], args := [] }

/- WHAT THE LISTED PACKAGE-LEVEL VARIABLES READ AS WHEN THE CALL BEGINS. Each datum BY PROGRAM (the guide's laid-datum.mjs) off the statement by which the dump's own 'gosem.cut.vars' lays the variable. In a bare row this is a premise. The card (YtogcfkmekdpmmaaDoorCards.lean) ties it to the program's text. -/
def laid_glebe_op_kinds {H : Type} : DataW H := .agg [.agg [.lit (.int .i64 0), .lit (.int .i64 1), .lit (.int .i64 1)], .agg [.lit (.int .i64 1), .lit (.int .i64 0), .lit (.int .i64 0)], .agg [.lit (.int .i64 0), .lit (.int .i64 1), .lit (.int .i64 2)], .agg [.lit (.int .i64 1), .lit (.int .i64 0), .lit (.int .i64 2)], .agg [.lit (.int .i64 2), .lit (.int .i64 1), .lit (.int .i64 0)], .agg [.lit (.int .i64 2), .lit (.int .i64 1), .lit (.int .i64 0)], .agg [.lit (.int .i64 2), .lit (.int .i64 1), .lit (.int .i64 0)], .agg [.lit (.int .i64 2), .lit (.int .i64 1), .lit (.int .i64 0)], .agg [.lit (.int .i64 2), .lit (.int .i64 1), .lit (.int .i64 0)], .agg [.lit (.int .i64 0), .lit (.int .i64 0), .lit (.int .i64 3)], .agg [.lit (.int .i64 1), .lit (.int .i64 0), .lit (.int .i64 3)], .agg [.lit (.int .i64 0), .lit (.int .i64 1), .lit (.int .i64 4)], .agg [.lit (.int .i64 1), .lit (.int .i64 0), .lit (.int .i64 0)], .agg [.lit (.int .i64 0), .lit (.int .i64 1), .lit (.int .i64 4)], .agg [.lit (.int .i64 2), .lit (.int .i64 1), .lit (.int .i64 0)], .agg [.lit (.int .i64 1), .lit (.int .i64 1), .lit (.int .i64 0)], .agg [.lit (.int .i64 1), .lit (.int .i64 0), .lit (.int .i64 0)]]
def laid_glebe_forge_kinds {H : Type} : DataW H := .agg [.lit (.int .i64 0), .lit (.int .i64 2), .lit (.int .i64 4), .lit (.int .i64 5), .lit (.int .i64 6), .lit (.int .i64 7), .lit (.int .i64 8)]

/-- 'glebelaw.RunAll': WHATEVER THE INPUT: true; the input reads as it did. -/
def runAllSpec : ChangeSpec := { name := "runAll", fn := fun _ => fun
  | [d1, d2] => { results := [.lit (.bool true)], args := [d1, d2] }
  | _ => none }
def runAllRow : OpenClaim := { program := "ytogcfkmekdpmmaadoor", sum := "866475965023612e92ca5fc08476e6134fa72b90a7dd28e4aa21c84324304320", func := "glebe/glebelaw.RunAll", spec := "runAll", unfollowed := true, recurses := true, named := ["glebe/op.kinds"], apart := false, laid := [("glebe/op.kinds", laid_glebe_op_kinds)] }
def RunAllSaid : Prop := runAllRow.holds Tryd.pinned (OpenSpec.ofChange runAllSpec)

/-- ITS FALSE NEIGHBOUR: 'it returns false'. Refute it at one input. -/
def runAllWrong : ChangeSpec := { name := "runAll", fn := fun _ => fun
  | [d1, d2] => { results := [.lit (.bool false)], args := [d1, d2] }
  | _ => none }
def RunAllWrongFalsely : Prop := runAllRow.holds Tryd.pinned (OpenSpec.ofChange runAllWrong)

/-- 'glebelaw.ForgeTells': WHATEVER THE INPUT: true; the input reads as it did. -/
def forgeTellsSpec : ChangeSpec := { name := "forgeTells", fn := fun _ => fun
  | [d1, d2, d3] => { results := [.lit (.bool true)], args := [d1, d2, d3] }
  | _ => none }
def forgeTellsRow : OpenClaim := { program := "ytogcfkmekdpmmaadoor", sum := "866475965023612e92ca5fc08476e6134fa72b90a7dd28e4aa21c84324304320", func := "glebe/glebelaw.ForgeTells", spec := "forgeTells", unfollowed := true, recurses := true, named := ["glebe/forge.kinds", "glebe/op.kinds"], apart := false, laid := [("glebe/forge.kinds", laid_glebe_forge_kinds), ("glebe/op.kinds", laid_glebe_op_kinds)] }
def ForgeTellsSaid : Prop := forgeTellsRow.holds Tryd.pinned (OpenSpec.ofChange forgeTellsSpec)

/-- ITS FALSE NEIGHBOUR: 'it returns false'. Refute it at one input. -/
def forgeTellsWrong : ChangeSpec := { name := "forgeTells", fn := fun _ => fun
  | [d1, d2, d3] => { results := [.lit (.bool false)], args := [d1, d2, d3] }
  | _ => none }
def ForgeTellsWrongFalsely : Prop := forgeTellsRow.holds Tryd.pinned (OpenSpec.ofChange forgeTellsWrong)

/-- 'glebelaw.ForgeRight': WHATEVER THE INPUT: true; the input reads as it did. -/
def forgeRightSpec : ChangeSpec := { name := "forgeRight", fn := fun _ => fun
  | [d1, d2] => { results := [.lit (.bool true)], args := [d1, d2] }
  | _ => none }
def forgeRightRow : OpenClaim := { program := "ytogcfkmekdpmmaadoor", sum := "866475965023612e92ca5fc08476e6134fa72b90a7dd28e4aa21c84324304320", func := "glebe/glebelaw.ForgeRight", spec := "forgeRight", unfollowed := true, recurses := true, named := ["glebe/forge.kinds", "glebe/op.kinds"], apart := false, laid := [("glebe/forge.kinds", laid_glebe_forge_kinds), ("glebe/op.kinds", laid_glebe_op_kinds)] }
def ForgeRightSaid : Prop := forgeRightRow.holds Tryd.pinned (OpenSpec.ofChange forgeRightSpec)

/-- ITS FALSE NEIGHBOUR: 'it returns false'. Refute it at one input. -/
def forgeRightWrong : ChangeSpec := { name := "forgeRight", fn := fun _ => fun
  | [d1, d2] => { results := [.lit (.bool false)], args := [d1, d2] }
  | _ => none }
def ForgeRightWrongFalsely : Prop := forgeRightRow.holds Tryd.pinned (OpenSpec.ofChange forgeRightWrong)

/-- 'glebelaw.ForgeSafe': WHATEVER THE INPUT: true; the input reads as it did. -/
def forgeSafeSpec : ChangeSpec := { name := "forgeSafe", fn := fun _ => fun
  | [d1, d2] => { results := [.lit (.bool true)], args := [d1, d2] }
  | _ => none }
def forgeSafeRow : OpenClaim := { program := "ytogcfkmekdpmmaadoor", sum := "866475965023612e92ca5fc08476e6134fa72b90a7dd28e4aa21c84324304320", func := "glebe/glebelaw.ForgeSafe", spec := "forgeSafe", unfollowed := true, recurses := true, named := ["glebe/forge.kinds", "glebe/op.kinds"], apart := false, laid := [("glebe/forge.kinds", laid_glebe_forge_kinds), ("glebe/op.kinds", laid_glebe_op_kinds)] }
def ForgeSafeSaid : Prop := forgeSafeRow.holds Tryd.pinned (OpenSpec.ofChange forgeSafeSpec)

/-- ITS FALSE NEIGHBOUR: 'it returns false'. Refute it at one input. -/
def forgeSafeWrong : ChangeSpec := { name := "forgeSafe", fn := fun _ => fun
  | [d1, d2] => { results := [.lit (.bool false)], args := [d1, d2] }
  | _ => none }
def ForgeSafeWrongFalsely : Prop := forgeSafeRow.holds Tryd.pinned (OpenSpec.ofChange forgeSafeWrong)

/-- 'glebelaw.ForgeFit': WHATEVER THE INPUT: true; the input reads as it did. -/
def forgeFitSpec : ChangeSpec := { name := "forgeFit", fn := fun _ => fun
  | [d1, d2, d3, d4] => { results := [.lit (.bool true)], args := [d1, d2, d3, d4] }
  | _ => none }
def forgeFitRow : OpenClaim := { program := "ytogcfkmekdpmmaadoor", sum := "866475965023612e92ca5fc08476e6134fa72b90a7dd28e4aa21c84324304320", func := "glebe/glebelaw.ForgeFit", spec := "forgeFit", unfollowed := true, recurses := true, named := ["glebe/forge.kinds", "glebe/op.kinds"], apart := false, laid := [("glebe/forge.kinds", laid_glebe_forge_kinds), ("glebe/op.kinds", laid_glebe_op_kinds)] }
def ForgeFitSaid : Prop := forgeFitRow.holds Tryd.pinned (OpenSpec.ofChange forgeFitSpec)

/-- ITS FALSE NEIGHBOUR: 'it returns false'. Refute it at one input. -/
def forgeFitWrong : ChangeSpec := { name := "forgeFit", fn := fun _ => fun
  | [d1, d2, d3, d4] => { results := [.lit (.bool false)], args := [d1, d2, d3, d4] }
  | _ => none }
def ForgeFitWrongFalsely : Prop := forgeFitRow.holds Tryd.pinned (OpenSpec.ofChange forgeFitWrong)

/- THE SECOND FORM. 'bulk': how many values and letters a reading holds, each counted each time it is reached (what is shared counts as often as it is met; a slice's spare places count too). A statement '..UptoSaid' is the law's where the arguments, and the package variables that the reading takes, are together of bulk at most 1048576: NARROWER than '..Said'. Prove '..Said' where nothing that the law and all that it calls make is longer than what came in: it says more and counts as full. Else prove '..UptoSaid'. A law counts once. -/
mutual
def uptoBulk {H : Type} : DataW H → Nat
  | .lit (.string bytes) => bytes.length + 1
  | .lit _ => 1
  | .nil => 1
  | .ptr d => uptoBulk d + 1
  | .slice elems spare => uptoBulkAll elems + uptoBulkAll spare + 1
  | .agg parts => uptoBulkAll parts + 1
  | .iface _ d => uptoBulk d + 1
  | .map entries => uptoBulkEntries entries + 1
  | .held _ => 1
def uptoBulkAll {H : Type} : List (DataW H) → Nat
  | [] => 0
  | d :: r => uptoBulk d + uptoBulkAll r
def uptoBulkEntries {H : Type} : List (Lit × DataW H) → Nat
  | [] => 0
  | x :: r => uptoBulkEntry x + uptoBulkEntries r
def uptoBulkEntry {H : Type} : Lit × DataW H → Nat
  | (.string bytes, d) => bytes.length + uptoBulk d + 1
  | (_, d) => uptoBulk d + 1
 end
def uptoSmall : (H : Type) → List (DataW H) → Bool := fun _ ds => decide (uptoBulkAll ds ≤ 1048576)
def OpenSpec.upto (s : _root_.Go.ChangeSpec) : _root_.Go.OpenSpec := { _root_.Go.OpenSpec.ofChange s with cond := some uptoSmall }

/-- 'glebelaw.RunAll', WHERE WHAT IT READS IS OF BULK AT MOST 1048576: true; the input reads as it did. -/
def runAllUptoRow : OpenClaim := { program := "ytogcfkmekdpmmaadoor", sum := "866475965023612e92ca5fc08476e6134fa72b90a7dd28e4aa21c84324304320", func := "glebe/glebelaw.RunAll", spec := "runAll", unfollowed := true, recurses := true, named := ["glebe/op.kinds"], apart := false, laid := [("glebe/op.kinds", laid_glebe_op_kinds)], narrowed := true }
def RunAllUptoSaid : Prop := runAllUptoRow.holds Tryd.pinned (OpenSpec.upto runAllSpec)

/-- 'glebelaw.ForgeTells', WHERE WHAT IT READS IS OF BULK AT MOST 1048576: true; the input reads as it did. -/
def forgeTellsUptoRow : OpenClaim := { program := "ytogcfkmekdpmmaadoor", sum := "866475965023612e92ca5fc08476e6134fa72b90a7dd28e4aa21c84324304320", func := "glebe/glebelaw.ForgeTells", spec := "forgeTells", unfollowed := true, recurses := true, named := ["glebe/forge.kinds", "glebe/op.kinds"], apart := false, laid := [("glebe/forge.kinds", laid_glebe_forge_kinds), ("glebe/op.kinds", laid_glebe_op_kinds)], narrowed := true }
def ForgeTellsUptoSaid : Prop := forgeTellsUptoRow.holds Tryd.pinned (OpenSpec.upto forgeTellsSpec)

/-- 'glebelaw.ForgeRight', WHERE WHAT IT READS IS OF BULK AT MOST 1048576: true; the input reads as it did. -/
def forgeRightUptoRow : OpenClaim := { program := "ytogcfkmekdpmmaadoor", sum := "866475965023612e92ca5fc08476e6134fa72b90a7dd28e4aa21c84324304320", func := "glebe/glebelaw.ForgeRight", spec := "forgeRight", unfollowed := true, recurses := true, named := ["glebe/forge.kinds", "glebe/op.kinds"], apart := false, laid := [("glebe/forge.kinds", laid_glebe_forge_kinds), ("glebe/op.kinds", laid_glebe_op_kinds)], narrowed := true }
def ForgeRightUptoSaid : Prop := forgeRightUptoRow.holds Tryd.pinned (OpenSpec.upto forgeRightSpec)

/-- 'glebelaw.ForgeSafe', WHERE WHAT IT READS IS OF BULK AT MOST 1048576: true; the input reads as it did. -/
def forgeSafeUptoRow : OpenClaim := { program := "ytogcfkmekdpmmaadoor", sum := "866475965023612e92ca5fc08476e6134fa72b90a7dd28e4aa21c84324304320", func := "glebe/glebelaw.ForgeSafe", spec := "forgeSafe", unfollowed := true, recurses := true, named := ["glebe/forge.kinds", "glebe/op.kinds"], apart := false, laid := [("glebe/forge.kinds", laid_glebe_forge_kinds), ("glebe/op.kinds", laid_glebe_op_kinds)], narrowed := true }
def ForgeSafeUptoSaid : Prop := forgeSafeUptoRow.holds Tryd.pinned (OpenSpec.upto forgeSafeSpec)

/-- 'glebelaw.ForgeFit', WHERE WHAT IT READS IS OF BULK AT MOST 1048576: true; the input reads as it did. -/
def forgeFitUptoRow : OpenClaim := { program := "ytogcfkmekdpmmaadoor", sum := "866475965023612e92ca5fc08476e6134fa72b90a7dd28e4aa21c84324304320", func := "glebe/glebelaw.ForgeFit", spec := "forgeFit", unfollowed := true, recurses := true, named := ["glebe/forge.kinds", "glebe/op.kinds"], apart := false, laid := [("glebe/forge.kinds", laid_glebe_forge_kinds), ("glebe/op.kinds", laid_glebe_op_kinds)], narrowed := true }
def ForgeFitUptoSaid : Prop := forgeFitUptoRow.holds Tryd.pinned (OpenSpec.upto forgeFitSpec)

end Rows
end Go.Proofs.YtogcfkmekdpmmaaDoor
