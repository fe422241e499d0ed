/-
  NARROWER THAN 'FOR EVERY INPUT', by the rows' own cells (each row's printed sentence says how): TrimSame: laid · RunSplit: laid · RunFar: laid · RunEnds: laid · RunBegin: laid.
  DERIVED. THE GIVEN ROWS OF THIS SEAT. 5 by the template 'for every input the law returns true; each argument reads behind the call as it read before'; 0 by the template 'total and deterministic' (their statements: YtlapliclhfpgkaaDoorTotals.lean).
  GIVEN WITH THE SEED: the statements are not yours to turn. If you find one false, say at which input.
  Laid BY PROGRAM, IN A SANDBOX (cutbox-rows.mjs): the forced cells as the released guide's own fill.sh prints them over the translation d1cfa087e2f9e1a0… (all of the seat's roots in one cut). By AI agents, Wed Nov 11 2026. No macro, syntax, notation, axiom, sorry.
-/
import Derived.Test.YtlapliclhfpgkaaDoorChecked
import GoSem.Claim
import GoSem.ClaimJoined
import GoSem.ClaimMapViews
import Derived.JoinedTies
import Derived.KernelRfl
namespace Go.Proofs.YtlapliclhfpgkaaDoor
/- THE CELL 'sum', in the pinned program and in every row, IS THE sha256 OF THE DUMP (.gsa) THAT YtlapliclhfpgkaaDoorProg.lean LOADS. Nothing in Lean hashes anything: it is a label: what it is worth is what the hold of that sum in a sandbox is worth. -/
noncomputable def Tryd.pinned : Pinned := { name := "ytlapliclhfpgkaadoor", sum := "d1cfa087e2f9e1a098583ee2ac26ea09d0a823d8e16588c0486bf6eb74c22f80", checked := Tryd.checked }
namespace Rows
def none {H : Type} : Left H := { results := [], args := [] }

/- WHAT THE LISTED PACKAGE-LEVEL VARIABLES READ AS WHEN THE CALL BEGINS. Each datum BY PROGRAM (the guide's laid-datum.mjs) off the statement by which the dump's own 'gosem.cut.vars' lays the variable. In a bare row this is a premise. The card (YtlapliclhfpgkaaDoorCards.lean) ties it to the program's text. -/
def laid_glebe_op_kinds {H : Type} : DataW H := .agg [.agg [.lit (.int .i64 0), .lit (.int .i64 1), .lit (.int .i64 1)], .agg [.lit (.int .i64 1), .lit (.int .i64 0), .lit (.int .i64 0)], .agg [.lit (.int .i64 0), .lit (.int .i64 1), .lit (.int .i64 2)], .agg [.lit (.int .i64 1), .lit (.int .i64 0), .lit (.int .i64 2)], .agg [.lit (.int .i64 2), .lit (.int .i64 1), .lit (.int .i64 0)], .agg [.lit (.int .i64 2), .lit (.int .i64 1), .lit (.int .i64 0)], .agg [.lit (.int .i64 2), .lit (.int .i64 1), .lit (.int .i64 0)], .agg [.lit (.int .i64 2), .lit (.int .i64 1), .lit (.int .i64 0)], .agg [.lit (.int .i64 2), .lit (.int .i64 1), .lit (.int .i64 0)], .agg [.lit (.int .i64 0), .lit (.int .i64 0), .lit (.int .i64 3)], .agg [.lit (.int .i64 1), .lit (.int .i64 0), .lit (.int .i64 3)], .agg [.lit (.int .i64 0), .lit (.int .i64 1), .lit (.int .i64 4)], .agg [.lit (.int .i64 1), .lit (.int .i64 0), .lit (.int .i64 0)], .agg [.lit (.int .i64 0), .lit (.int .i64 1), .lit (.int .i64 4)], .agg [.lit (.int .i64 2), .lit (.int .i64 1), .lit (.int .i64 0)], .agg [.lit (.int .i64 1), .lit (.int .i64 1), .lit (.int .i64 0)], .agg [.lit (.int .i64 1), .lit (.int .i64 0), .lit (.int .i64 0)]]

/-- 'glebelaw.TrimSame': WHATEVER THE INPUT: true; the input reads as it did. -/
def trimSameSpec : ChangeSpec := { name := "trimSame", fn := fun _ => fun
  | [d1, d2] => { results := [.lit (.bool true)], args := [d1, d2] }
  | _ => none }
def trimSameRow : OpenClaim := { program := "ytlapliclhfpgkaadoor", sum := "d1cfa087e2f9e1a098583ee2ac26ea09d0a823d8e16588c0486bf6eb74c22f80", func := "glebe/glebelaw.TrimSame", spec := "trimSame", unfollowed := true, recurses := true, named := ["glebe/op.kinds"], apart := false, laid := [("glebe/op.kinds", laid_glebe_op_kinds)] }
def TrimSameSaid : Prop := trimSameRow.holds Tryd.pinned (OpenSpec.ofChange trimSameSpec)

/-- ITS FALSE NEIGHBOUR: 'it returns false'. Refute it at one input. -/
def trimSameWrong : ChangeSpec := { name := "trimSame", fn := fun _ => fun
  | [d1, d2] => { results := [.lit (.bool false)], args := [d1, d2] }
  | _ => none }
def TrimSameWrongFalsely : Prop := trimSameRow.holds Tryd.pinned (OpenSpec.ofChange trimSameWrong)

/-- 'glebelaw.RunSplit': WHATEVER THE INPUT: true; the input reads as it did. -/
def runSplitSpec : ChangeSpec := { name := "runSplit", fn := fun _ => fun
  | [d1, d2, d3, d4] => { results := [.lit (.bool true)], args := [d1, d2, d3, d4] }
  | _ => none }
def runSplitRow : OpenClaim := { program := "ytlapliclhfpgkaadoor", sum := "d1cfa087e2f9e1a098583ee2ac26ea09d0a823d8e16588c0486bf6eb74c22f80", func := "glebe/glebelaw.RunSplit", spec := "runSplit", unfollowed := true, recurses := true, named := ["glebe/op.kinds"], apart := false, laid := [("glebe/op.kinds", laid_glebe_op_kinds)] }
def RunSplitSaid : Prop := runSplitRow.holds Tryd.pinned (OpenSpec.ofChange runSplitSpec)

/-- ITS FALSE NEIGHBOUR: 'it returns false'. Refute it at one input. -/
def runSplitWrong : ChangeSpec := { name := "runSplit", fn := fun _ => fun
  | [d1, d2, d3, d4] => { results := [.lit (.bool false)], args := [d1, d2, d3, d4] }
  | _ => none }
def RunSplitWrongFalsely : Prop := runSplitRow.holds Tryd.pinned (OpenSpec.ofChange runSplitWrong)

/-- 'glebelaw.RunFar': WHATEVER THE INPUT: true; the input reads as it did. -/
def runFarSpec : ChangeSpec := { name := "runFar", fn := fun _ => fun
  | [d1, d2, d3] => { results := [.lit (.bool true)], args := [d1, d2, d3] }
  | _ => none }
def runFarRow : OpenClaim := { program := "ytlapliclhfpgkaadoor", sum := "d1cfa087e2f9e1a098583ee2ac26ea09d0a823d8e16588c0486bf6eb74c22f80", func := "glebe/glebelaw.RunFar", spec := "runFar", unfollowed := true, recurses := true, named := ["glebe/op.kinds"], apart := false, laid := [("glebe/op.kinds", laid_glebe_op_kinds)] }
def RunFarSaid : Prop := runFarRow.holds Tryd.pinned (OpenSpec.ofChange runFarSpec)

/-- ITS FALSE NEIGHBOUR: 'it returns false'. Refute it at one input. -/
def runFarWrong : ChangeSpec := { name := "runFar", fn := fun _ => fun
  | [d1, d2, d3] => { results := [.lit (.bool false)], args := [d1, d2, d3] }
  | _ => none }
def RunFarWrongFalsely : Prop := runFarRow.holds Tryd.pinned (OpenSpec.ofChange runFarWrong)

/-- 'glebelaw.RunEnds': WHATEVER THE INPUT: true; the input reads as it did. -/
def runEndsSpec : ChangeSpec := { name := "runEnds", fn := fun _ => fun
  | [d1, d2, d3] => { results := [.lit (.bool true)], args := [d1, d2, d3] }
  | _ => none }
def runEndsRow : OpenClaim := { program := "ytlapliclhfpgkaadoor", sum := "d1cfa087e2f9e1a098583ee2ac26ea09d0a823d8e16588c0486bf6eb74c22f80", func := "glebe/glebelaw.RunEnds", spec := "runEnds", unfollowed := true, recurses := true, named := ["glebe/op.kinds"], apart := false, laid := [("glebe/op.kinds", laid_glebe_op_kinds)] }
def RunEndsSaid : Prop := runEndsRow.holds Tryd.pinned (OpenSpec.ofChange runEndsSpec)

/-- ITS FALSE NEIGHBOUR: 'it returns false'. Refute it at one input. -/
def runEndsWrong : ChangeSpec := { name := "runEnds", fn := fun _ => fun
  | [d1, d2, d3] => { results := [.lit (.bool false)], args := [d1, d2, d3] }
  | _ => none }
def RunEndsWrongFalsely : Prop := runEndsRow.holds Tryd.pinned (OpenSpec.ofChange runEndsWrong)

/-- 'glebelaw.RunBegin': WHATEVER THE INPUT: true; the input reads as it did. -/
def runBeginSpec : ChangeSpec := { name := "runBegin", fn := fun _ => fun
  | [d1, d2] => { results := [.lit (.bool true)], args := [d1, d2] }
  | _ => none }
def runBeginRow : OpenClaim := { program := "ytlapliclhfpgkaadoor", sum := "d1cfa087e2f9e1a098583ee2ac26ea09d0a823d8e16588c0486bf6eb74c22f80", func := "glebe/glebelaw.RunBegin", spec := "runBegin", unfollowed := true, recurses := true, named := ["glebe/op.kinds"], apart := false, laid := [("glebe/op.kinds", laid_glebe_op_kinds)] }
def RunBeginSaid : Prop := runBeginRow.holds Tryd.pinned (OpenSpec.ofChange runBeginSpec)

/-- ITS FALSE NEIGHBOUR: 'it returns false'. Refute it at one input. -/
def runBeginWrong : ChangeSpec := { name := "runBegin", fn := fun _ => fun
  | [d1, d2] => { results := [.lit (.bool false)], args := [d1, d2] }
  | _ => none }
def RunBeginWrongFalsely : Prop := runBeginRow.holds Tryd.pinned (OpenSpec.ofChange runBeginWrong)

/- THE SECOND FORM. 'bulk': how many values and letters a reading holds, each counted each time it is reached (what is shared counts as often as it is met; a slice's spare places count too). A statement '..UptoSaid' is the law's where the arguments, and the package variables that the reading takes, are together of bulk at most 1048576: NARROWER than '..Said'. Prove '..Said' where nothing that the law and all that it calls make is longer than what came in: it says more and counts as full. Else prove '..UptoSaid'. A law counts once. -/
mutual
def uptoBulk {H : Type} : DataW H → Nat
  | .lit (.string bytes) => bytes.length + 1
  | .lit _ => 1
  | .nil => 1
  | .ptr d => uptoBulk d + 1
  | .slice elems spare => uptoBulkAll elems + uptoBulkAll spare + 1
  | .agg parts => uptoBulkAll parts + 1
  | .iface _ d => uptoBulk d + 1
  | .map entries => uptoBulkEntries entries + 1
  | .held _ => 1
def uptoBulkAll {H : Type} : List (DataW H) → Nat
  | [] => 0
  | d :: r => uptoBulk d + uptoBulkAll r
def uptoBulkEntries {H : Type} : List (Lit × DataW H) → Nat
  | [] => 0
  | x :: r => uptoBulkEntry x + uptoBulkEntries r
def uptoBulkEntry {H : Type} : Lit × DataW H → Nat
  | (.string bytes, d) => bytes.length + uptoBulk d + 1
  | (_, d) => uptoBulk d + 1
 end
def uptoSmall : (H : Type) → List (DataW H) → Bool := fun _ ds => decide (uptoBulkAll ds ≤ 1048576)
def OpenSpec.upto (s : _root_.Go.ChangeSpec) : _root_.Go.OpenSpec := { _root_.Go.OpenSpec.ofChange s with cond := some uptoSmall }

/-- 'glebelaw.TrimSame', WHERE WHAT IT READS IS OF BULK AT MOST 1048576: true; the input reads as it did. -/
def trimSameUptoRow : OpenClaim := { program := "ytlapliclhfpgkaadoor", sum := "d1cfa087e2f9e1a098583ee2ac26ea09d0a823d8e16588c0486bf6eb74c22f80", func := "glebe/glebelaw.TrimSame", spec := "trimSame", unfollowed := true, recurses := true, named := ["glebe/op.kinds"], apart := false, laid := [("glebe/op.kinds", laid_glebe_op_kinds)], narrowed := true }
def TrimSameUptoSaid : Prop := trimSameUptoRow.holds Tryd.pinned (OpenSpec.upto trimSameSpec)

/-- 'glebelaw.RunSplit', WHERE WHAT IT READS IS OF BULK AT MOST 1048576: true; the input reads as it did. -/
def runSplitUptoRow : OpenClaim := { program := "ytlapliclhfpgkaadoor", sum := "d1cfa087e2f9e1a098583ee2ac26ea09d0a823d8e16588c0486bf6eb74c22f80", func := "glebe/glebelaw.RunSplit", spec := "runSplit", unfollowed := true, recurses := true, named := ["glebe/op.kinds"], apart := false, laid := [("glebe/op.kinds", laid_glebe_op_kinds)], narrowed := true }
def RunSplitUptoSaid : Prop := runSplitUptoRow.holds Tryd.pinned (OpenSpec.upto runSplitSpec)

/-- 'glebelaw.RunFar', WHERE WHAT IT READS IS OF BULK AT MOST 1048576: true; the input reads as it did. -/
def runFarUptoRow : OpenClaim := { program := "ytlapliclhfpgkaadoor", sum := "d1cfa087e2f9e1a098583ee2ac26ea09d0a823d8e16588c0486bf6eb74c22f80", func := "glebe/glebelaw.RunFar", spec := "runFar", unfollowed := true, recurses := true, named := ["glebe/op.kinds"], apart := false, laid := [("glebe/op.kinds", laid_glebe_op_kinds)], narrowed := true }
def RunFarUptoSaid : Prop := runFarUptoRow.holds Tryd.pinned (OpenSpec.upto runFarSpec)

/-- 'glebelaw.RunEnds', WHERE WHAT IT READS IS OF BULK AT MOST 1048576: true; the input reads as it did. -/
def runEndsUptoRow : OpenClaim := { program := "ytlapliclhfpgkaadoor", sum := "d1cfa087e2f9e1a098583ee2ac26ea09d0a823d8e16588c0486bf6eb74c22f80", func := "glebe/glebelaw.RunEnds", spec := "runEnds", unfollowed := true, recurses := true, named := ["glebe/op.kinds"], apart := false, laid := [("glebe/op.kinds", laid_glebe_op_kinds)], narrowed := true }
def RunEndsUptoSaid : Prop := runEndsUptoRow.holds Tryd.pinned (OpenSpec.upto runEndsSpec)

/-- 'glebelaw.RunBegin', WHERE WHAT IT READS IS OF BULK AT MOST 1048576: true; the input reads as it did. -/
def runBeginUptoRow : OpenClaim := { program := "ytlapliclhfpgkaadoor", sum := "d1cfa087e2f9e1a098583ee2ac26ea09d0a823d8e16588c0486bf6eb74c22f80", func := "glebe/glebelaw.RunBegin", spec := "runBegin", unfollowed := true, recurses := true, named := ["glebe/op.kinds"], apart := false, laid := [("glebe/op.kinds", laid_glebe_op_kinds)], narrowed := true }
def RunBeginUptoSaid : Prop := runBeginUptoRow.holds Tryd.pinned (OpenSpec.upto runBeginSpec)

end Rows
end Go.Proofs.YtlapliclhfpgkaaDoor
