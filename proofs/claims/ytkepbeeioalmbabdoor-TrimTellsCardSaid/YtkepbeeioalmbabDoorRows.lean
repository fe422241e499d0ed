/-
  NARROWER THAN 'FOR EVERY INPUT', by the rows' own cells (each row's printed sentence says how): ProgTells: laid · ProgTrue: laid · TrimTells: laid · TrimTrue: laid.
  DERIVED. THE GIVEN ROWS OF THIS SEAT. 4 by the template 'for every input the law returns true; each argument reads behind the call as it read before'; 0 by the template 'total and deterministic' (their statements: YtkepbeeioalmbabDoorTotals.lean).
  GIVEN WITH THE SEED: the statements are not yours to turn. If you find one false, say at which input.
  Laid BY PROGRAM, IN A SANDBOX (cutbox-rows.mjs): the forced cells as the released guide's own fill.sh prints them over the translation dbf960b96d0f22a5… (all of the seat's roots in one cut). By AI agents, Wed Nov 11 2026. No macro, syntax, notation, axiom, sorry.
-/
import Derived.Test.YtkepbeeioalmbabDoorChecked
import GoSem.Claim
import GoSem.ClaimJoined
import GoSem.ClaimMapViews
import Derived.JoinedTies
import Derived.KernelRfl
namespace Go.Proofs.YtkepbeeioalmbabDoor
/- THE CELL 'sum', in the pinned program and in every row, IS THE sha256 OF THE DUMP (.gsa) THAT YtkepbeeioalmbabDoorProg.lean LOADS. Nothing in Lean hashes anything: it is a label: what it is worth is what the hold of that sum in a sandbox is worth. -/
noncomputable def Tryd.pinned : Pinned := { name := "ytkepbeeioalmbabdoor", sum := "dbf960b96d0f22a5fab5e05a22da5a016d7ec4a6b6a6949262a2eafeaff3402b", checked := Tryd.checked }
namespace Rows
def none {H : Type} : Left H := { results := [], args := [] }

/- WHAT THE LISTED PACKAGE-LEVEL VARIABLES READ AS WHEN THE CALL BEGINS. Each datum BY PROGRAM (the guide's laid-datum.mjs) off the statement by which the dump's own 'gosem.cut.vars' lays the variable. In a bare row this is a premise. The card (YtkepbeeioalmbabDoorCards.lean) ties it to the program's text. -/
def laid_glebe_op_kinds {H : Type} : DataW H := .agg [.agg [.lit (.int .i64 0), .lit (.int .i64 1), .lit (.int .i64 1)], .agg [.lit (.int .i64 1), .lit (.int .i64 0), .lit (.int .i64 0)], .agg [.lit (.int .i64 0), .lit (.int .i64 1), .lit (.int .i64 2)], .agg [.lit (.int .i64 1), .lit (.int .i64 0), .lit (.int .i64 2)], .agg [.lit (.int .i64 2), .lit (.int .i64 1), .lit (.int .i64 0)], .agg [.lit (.int .i64 2), .lit (.int .i64 1), .lit (.int .i64 0)], .agg [.lit (.int .i64 2), .lit (.int .i64 1), .lit (.int .i64 0)], .agg [.lit (.int .i64 2), .lit (.int .i64 1), .lit (.int .i64 0)], .agg [.lit (.int .i64 2), .lit (.int .i64 1), .lit (.int .i64 0)], .agg [.lit (.int .i64 0), .lit (.int .i64 0), .lit (.int .i64 3)], .agg [.lit (.int .i64 1), .lit (.int .i64 0), .lit (.int .i64 3)], .agg [.lit (.int .i64 0), .lit (.int .i64 1), .lit (.int .i64 4)], .agg [.lit (.int .i64 1), .lit (.int .i64 0), .lit (.int .i64 0)], .agg [.lit (.int .i64 0), .lit (.int .i64 1), .lit (.int .i64 4)], .agg [.lit (.int .i64 2), .lit (.int .i64 1), .lit (.int .i64 0)], .agg [.lit (.int .i64 1), .lit (.int .i64 1), .lit (.int .i64 0)], .agg [.lit (.int .i64 1), .lit (.int .i64 0), .lit (.int .i64 0)]]

/-- 'glebelaw.ProgTells': WHATEVER THE INPUT: true; the input reads as it did. -/
def progTellsSpec : ChangeSpec := { name := "progTells", fn := fun _ => fun
  | [d1, d2] => { results := [.lit (.bool true)], args := [d1, d2] }
  | _ => none }
def progTellsRow : OpenClaim := { program := "ytkepbeeioalmbabdoor", sum := "dbf960b96d0f22a5fab5e05a22da5a016d7ec4a6b6a6949262a2eafeaff3402b", func := "glebe/glebelaw.ProgTells", spec := "progTells", unfollowed := true, recurses := true, named := ["glebe/op.kinds"], apart := false, laid := [("glebe/op.kinds", laid_glebe_op_kinds)] }
def ProgTellsSaid : Prop := progTellsRow.holds Tryd.pinned (OpenSpec.ofChange progTellsSpec)

/-- ITS FALSE NEIGHBOUR: 'it returns false'. Refute it at one input. -/
def progTellsWrong : ChangeSpec := { name := "progTells", fn := fun _ => fun
  | [d1, d2] => { results := [.lit (.bool false)], args := [d1, d2] }
  | _ => none }
def ProgTellsWrongFalsely : Prop := progTellsRow.holds Tryd.pinned (OpenSpec.ofChange progTellsWrong)

/-- 'glebelaw.ProgTrue': WHATEVER THE INPUT: true; the input reads as it did. -/
def progTrueSpec : ChangeSpec := { name := "progTrue", fn := fun _ => fun
  | [d1, d2, d3] => { results := [.lit (.bool true)], args := [d1, d2, d3] }
  | _ => none }
def progTrueRow : OpenClaim := { program := "ytkepbeeioalmbabdoor", sum := "dbf960b96d0f22a5fab5e05a22da5a016d7ec4a6b6a6949262a2eafeaff3402b", func := "glebe/glebelaw.ProgTrue", spec := "progTrue", unfollowed := true, recurses := true, named := ["glebe/op.kinds"], apart := false, laid := [("glebe/op.kinds", laid_glebe_op_kinds)] }
def ProgTrueSaid : Prop := progTrueRow.holds Tryd.pinned (OpenSpec.ofChange progTrueSpec)

/-- ITS FALSE NEIGHBOUR: 'it returns false'. Refute it at one input. -/
def progTrueWrong : ChangeSpec := { name := "progTrue", fn := fun _ => fun
  | [d1, d2, d3] => { results := [.lit (.bool false)], args := [d1, d2, d3] }
  | _ => none }
def ProgTrueWrongFalsely : Prop := progTrueRow.holds Tryd.pinned (OpenSpec.ofChange progTrueWrong)

/-- 'glebelaw.TrimTells': WHATEVER THE INPUT: true; the input reads as it did. -/
def trimTellsSpec : ChangeSpec := { name := "trimTells", fn := fun _ => fun
  | [d1, d2] => { results := [.lit (.bool true)], args := [d1, d2] }
  | _ => none }
def trimTellsRow : OpenClaim := { program := "ytkepbeeioalmbabdoor", sum := "dbf960b96d0f22a5fab5e05a22da5a016d7ec4a6b6a6949262a2eafeaff3402b", func := "glebe/glebelaw.TrimTells", spec := "trimTells", unfollowed := true, recurses := true, named := ["glebe/op.kinds"], apart := false, laid := [("glebe/op.kinds", laid_glebe_op_kinds)] }
def TrimTellsSaid : Prop := trimTellsRow.holds Tryd.pinned (OpenSpec.ofChange trimTellsSpec)

/-- ITS FALSE NEIGHBOUR: 'it returns false'. Refute it at one input. -/
def trimTellsWrong : ChangeSpec := { name := "trimTells", fn := fun _ => fun
  | [d1, d2] => { results := [.lit (.bool false)], args := [d1, d2] }
  | _ => none }
def TrimTellsWrongFalsely : Prop := trimTellsRow.holds Tryd.pinned (OpenSpec.ofChange trimTellsWrong)

/-- 'glebelaw.TrimTrue': WHATEVER THE INPUT: true; the input reads as it did. -/
def trimTrueSpec : ChangeSpec := { name := "trimTrue", fn := fun _ => fun
  | [d1, d2] => { results := [.lit (.bool true)], args := [d1, d2] }
  | _ => none }
def trimTrueRow : OpenClaim := { program := "ytkepbeeioalmbabdoor", sum := "dbf960b96d0f22a5fab5e05a22da5a016d7ec4a6b6a6949262a2eafeaff3402b", func := "glebe/glebelaw.TrimTrue", spec := "trimTrue", unfollowed := true, recurses := true, named := ["glebe/op.kinds"], apart := false, laid := [("glebe/op.kinds", laid_glebe_op_kinds)] }
def TrimTrueSaid : Prop := trimTrueRow.holds Tryd.pinned (OpenSpec.ofChange trimTrueSpec)

/-- ITS FALSE NEIGHBOUR: 'it returns false'. Refute it at one input. -/
def trimTrueWrong : ChangeSpec := { name := "trimTrue", fn := fun _ => fun
  | [d1, d2] => { results := [.lit (.bool false)], args := [d1, d2] }
  | _ => none }
def TrimTrueWrongFalsely : Prop := trimTrueRow.holds Tryd.pinned (OpenSpec.ofChange trimTrueWrong)

/- THE SECOND FORM. 'bulk': how many values and letters a reading holds, each counted each time it is reached (what is shared counts as often as it is met; a slice's spare places count too). A statement '..UptoSaid' is the law's where the arguments, and the package variables that the reading takes, are together of bulk at most 1048576: NARROWER than '..Said'. Prove '..Said' where nothing that the law and all that it calls make is longer than what came in: it says more and counts as full. Else prove '..UptoSaid'. A law counts once. -/
mutual
def uptoBulk {H : Type} : DataW H → Nat
  | .lit (.string bytes) => bytes.length + 1
  | .lit _ => 1
  | .nil => 1
  | .ptr d => uptoBulk d + 1
  | .slice elems spare => uptoBulkAll elems + uptoBulkAll spare + 1
  | .agg parts => uptoBulkAll parts + 1
  | .iface _ d => uptoBulk d + 1
  | .map entries => uptoBulkEntries entries + 1
  | .held _ => 1
def uptoBulkAll {H : Type} : List (DataW H) → Nat
  | [] => 0
  | d :: r => uptoBulk d + uptoBulkAll r
def uptoBulkEntries {H : Type} : List (Lit × DataW H) → Nat
  | [] => 0
  | x :: r => uptoBulkEntry x + uptoBulkEntries r
def uptoBulkEntry {H : Type} : Lit × DataW H → Nat
  | (.string bytes, d) => bytes.length + uptoBulk d + 1
  | (_, d) => uptoBulk d + 1
 end
def uptoSmall : (H : Type) → List (DataW H) → Bool := fun _ ds => decide (uptoBulkAll ds ≤ 1048576)
def OpenSpec.upto (s : _root_.Go.ChangeSpec) : _root_.Go.OpenSpec := { _root_.Go.OpenSpec.ofChange s with cond := some uptoSmall }

/-- 'glebelaw.ProgTells', WHERE WHAT IT READS IS OF BULK AT MOST 1048576: true; the input reads as it did. -/
def progTellsUptoRow : OpenClaim := { program := "ytkepbeeioalmbabdoor", sum := "dbf960b96d0f22a5fab5e05a22da5a016d7ec4a6b6a6949262a2eafeaff3402b", func := "glebe/glebelaw.ProgTells", spec := "progTells", unfollowed := true, recurses := true, named := ["glebe/op.kinds"], apart := false, laid := [("glebe/op.kinds", laid_glebe_op_kinds)], narrowed := true }
def ProgTellsUptoSaid : Prop := progTellsUptoRow.holds Tryd.pinned (OpenSpec.upto progTellsSpec)

/-- 'glebelaw.ProgTrue', WHERE WHAT IT READS IS OF BULK AT MOST 1048576: true; the input reads as it did. -/
def progTrueUptoRow : OpenClaim := { program := "ytkepbeeioalmbabdoor", sum := "dbf960b96d0f22a5fab5e05a22da5a016d7ec4a6b6a6949262a2eafeaff3402b", func := "glebe/glebelaw.ProgTrue", spec := "progTrue", unfollowed := true, recurses := true, named := ["glebe/op.kinds"], apart := false, laid := [("glebe/op.kinds", laid_glebe_op_kinds)], narrowed := true }
def ProgTrueUptoSaid : Prop := progTrueUptoRow.holds Tryd.pinned (OpenSpec.upto progTrueSpec)

/-- 'glebelaw.TrimTells', WHERE WHAT IT READS IS OF BULK AT MOST 1048576: true; the input reads as it did. -/
def trimTellsUptoRow : OpenClaim := { program := "ytkepbeeioalmbabdoor", sum := "dbf960b96d0f22a5fab5e05a22da5a016d7ec4a6b6a6949262a2eafeaff3402b", func := "glebe/glebelaw.TrimTells", spec := "trimTells", unfollowed := true, recurses := true, named := ["glebe/op.kinds"], apart := false, laid := [("glebe/op.kinds", laid_glebe_op_kinds)], narrowed := true }
def TrimTellsUptoSaid : Prop := trimTellsUptoRow.holds Tryd.pinned (OpenSpec.upto trimTellsSpec)

/-- 'glebelaw.TrimTrue', WHERE WHAT IT READS IS OF BULK AT MOST 1048576: true; the input reads as it did. -/
def trimTrueUptoRow : OpenClaim := { program := "ytkepbeeioalmbabdoor", sum := "dbf960b96d0f22a5fab5e05a22da5a016d7ec4a6b6a6949262a2eafeaff3402b", func := "glebe/glebelaw.TrimTrue", spec := "trimTrue", unfollowed := true, recurses := true, named := ["glebe/op.kinds"], apart := false, laid := [("glebe/op.kinds", laid_glebe_op_kinds)], narrowed := true }
def TrimTrueUptoSaid : Prop := trimTrueUptoRow.holds Tryd.pinned (OpenSpec.upto trimTrueSpec)

end Rows
end Go.Proofs.YtkepbeeioalmbabDoor
