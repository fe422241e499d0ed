/-
  Proved: whatever expression, number of locals and values it is handed, the statement ExprTells (J1: expr.Check and expr.Value answer just what the document says, errors too) returns true, and its arguments read afterwards as they read before. Conditions: nothing beyond the form's own.
-/
import Derived.Test.YtohlefnljgkdcaeOpenE
import Derived.Test.YtohlefnljgkdcaeExprF
import Derived.Test.YtohlefnljgkdcaeExprB
import Derived.Deep.DeepHandedRow
import Derived.LaidLaws
namespace Go.Proofs.Ytohlefnljgkdcae
open Go.RowKit Go.ChangeShapes Go.WideShapes Go.ChangeAt

set_option maxHeartbeats 1000000 in
theorem exprTells_walk (e : List (Int × Int)) (v0 : Value) (n : Int) (vals : List Int) (v2 : Value) (w : World) (he : NodesAt w v0 e ∧ ∀ x ∈ e, (Lit.int .i64 x.1).wf = true) (_hn : (Lit.int .i64 n).wf = true) (hv : IntsW w v2 vals) :
    Calls Try.prog 3 #[v0, .int .i64 n, v2] w fun e w' => e = .returned (.bool true) ∧ Kept w w' := by
  obtain ⟨oa, ca, rfl, _, _⟩ := id he.1
  obtain ⟨ob, cb, rfl, _, _⟩ := id hv
  have HE := hide he.1
  have HW := hide he.2
  have HV := hide hv
  clear he hv _hn
  go_enter Try.func3, Try.ntmps3
  go_wp2_with fail
  refine (exValue_any e vals _ _ w (unhide HE) (unhide HW) (unhide HV)).mono ?_
  rintro _ w1 ⟨rfl, hk1⟩
  have HK1 := hide hk1
  clear hk1
  generalize hq : exValS e vals = q
  generalize hr : exErrS e vals.length = r
  have HQ := hide hq
  have HR := hide hr
  clear hq hr
  go_wp2_with fail
  refine (valueOf_any e vals _ _ w1 ((unhide HE).kept (unhide HK1)) ((unhide HV).kept (unhide HK1))).mono ?_
  rw [unhide HQ, unhide HR]
  rintro _ w2 ⟨rfl, hk2⟩
  have HK2 := hide ((unhide HK1).trans hk2)
  clear hk2 HK1
  go_wp2_with fail
  refine (exprBegun_any _).mono ?_
  rintro _ w3 ⟨rfl, hk3⟩
  have HK3 := hide ((unhide HK2).trans hk3)
  clear hk3 HK2
  go_wp2_with fail
  refine (check_any e _ n w3 ((unhide HE).kept (unhide HK3)) (unhide HW)).mono ?_
  rintro _ w4 ⟨rfl, hk4⟩
  have HK4 := hide ((unhide HK3).trans hk4)
  clear hk4 HK3
  generalize hs : exErrS e n = s
  have HS := hide hs
  clear hs
  go_wp2_with fail
  refine (exprError_any e _ n w4 ((unhide HE).kept (unhide HK4))).mono ?_
  rw [unhide HS]
  rintro _ _ ⟨rfl, rfl⟩
  go_wp2
  go_ret
  exact ⟨by simp, unhide HK4⟩

set_option maxRecDepth 100000 in
theorem exprTells_contract (H : Type) (enc : TypeId × Value → H) (W : World) (base : Nat) (args : Array Value) (ds gs : List (DataW H)) (before : List MemPlace)
    (hval : ∀ (j : Nat) t v, Try.f3.params[j]? = some t → args[j]? = some v → Value.okWide Try.prog W .any base t v)
    (hW : DataW.Whole enc Try.prog Try.f3.params.toList Rows.exprTellsSpec.vars false W args.toList ds gs before)
    (hsz : (DataW.weightsEach Try.prog (Try.f3.params.toList ++ (OpenSpec.ofChange Rows.exprTellsSpec).bare.plain.varTypes Try.prog) (ds ++ gs)).all (· ≤ reachBytes) = true) :
    Calls Try.prog 3 args W fun e W' => ∃ v, e = .returned v ∧ Rows.exprTellsSpec.post enc Try.prog Try.f3 false true false false W args v W' := by
  have hW' := hW
  obtain ⟨p, q, hA0, hV, rfl, hfz, hnd⟩ := hW
  have hA : DataW.TrodAll enc Try.prog W 0 (fun _ => true) true Try.f3.params.toList args.toList ds p := hA0
  have hlt : ∀ x ∈ p, x.block < W.heap.size := fun x hx => by simpa using hW'.lt x (by simp [hx])
  have hA1 := hA
  rw [Try.params3] at hA hval hsz
  obtain ⟨v0, vs0, d0, ds0, p0, q0, hargs, rfl, rfl, h0, r0⟩ := trodAll_cons hA
  obtain ⟨v1, vs1, d1, ds1, p1, q1, rfl, rfl, rfl, h1, r1⟩ := trodAll_cons r0
  obtain ⟨v2, vs2, d2, ds2, p2, q2, rfl, rfl, rfl, h2, r2⟩ := trodAll_cons r1
  obtain ⟨rfl, rfl, rfl⟩ := trodAll_nil r2
  obtain rfl : args = #[v0, v1, v2] := by cases args; simp_all
  obtain ⟨rfl, rfl⟩ := trodVars_none hV
  obtain ⟨pl0, hpl0⟩ : ∃ pl, NodesAt W v0 pl ∧ ∀ x ∈ pl, (Lit.int .i64 x.1).wf = true := by
    obtain ⟨oa, len, cap, rfl⟩ := okWide_slice Try.underlying22 (hval 0 22 v0 rfl rfl)
    obtain ⟨fuel, hf⟩ := h0
    exact open_nodes hf (fun n hn => of_decide_eq_true (List.all_eq_true.1 hsz n (DataW.weights_mem_each (j := 0) rfl rfl n hn)))
  obtain ⟨n1, rfl, rfl, rfl, wn1⟩ := open_int Try.underlying3 (hval 1 3 v1 rfl rfl) h1
  obtain ⟨pl2, hpl2⟩ : ∃ pl, IntsW W v2 pl := by
    obtain ⟨oa, len, cap, rfl⟩ := okWide_slice Try.underlying23 (hval 2 23 v2 rfl rfl)
    obtain ⟨fuel, hf⟩ := h2
    exact open_vals hf (fun n hn => of_decide_eq_true (List.all_eq_true.1 hsz n (DataW.weights_mem_each (j := 2) rfl rfl n hn)))
  refine (exprTells_walk pl0 v0 n1 pl2 v2 W hpl0 wn1 hpl2).mono fun e W' ⟨he, hg⟩ => ?_
  subst he
  refine ⟨_, rfl, _, _, _, [], _, [], hW', trodAll_mk1 (shut_bool Try.underlying4 _), trodAll_below hg ?_ hA1 hlt, rfl, hg.frame _, fun h => by cases h⟩
  intro t ht
  rw [Try.params3] at ht
  simp only [List.mem_cons, List.not_mem_nil, or_false] at ht
  rcases ht with rfl | rfl | rfl
  · exact ⟨by kernel_rfl, of_decide_eq_true (by kernel_rfl)⟩
  · exact ⟨by kernel_rfl, of_decide_eq_true (by kernel_rfl)⟩
  · exact ⟨by kernel_rfl, of_decide_eq_true (by kernel_rfl)⟩

set_option maxRecDepth 100000 in
theorem exprTells_laid_met (os : Os) : laidMet Try.prog Rows.exprTellsRow.laid (((World.holding Try.prog os ⟨#[], #[], []⟩)).forCall (fun _ _ => 0) ⟨#[], #[.slice none 0 0, .int .i64 0, .slice none 0 0], []⟩).memory :=
  laidMet_of_run' 8 (by kernel_rfl) (by kernel_rfl)
set_option maxRecDepth 100000 in
theorem exprTells_reads (os : Os) {H : Type} (enc : TypeId × Value → H) : ∃ places, DataW.whole enc Try.prog (((World.holding Try.prog os ⟨#[], #[], []⟩)).forCall (fun _ _ => 0) ⟨#[], #[.slice none 0 0, .int .i64 0, .slice none 0 0], []⟩).memory Try.f3.params.toList Rows.exprTellsSpec.vars false (#[.slice none 0 0, .int .i64 0, .slice none 0 0] : Array Value).toList 8 = some ([.nil, .lit (.int .i64 0), .nil], [], places) :=
  ⟨[], by kernel_rfl⟩

set_option maxRecDepth 100000 in
theorem exprTells_lifted (os : Os) (started : os.Started) (H : Type) (enc : TypeId × Value → H) (F : Stop.Interp) :
    ReturnsInHanded {} Try.checked os 3 .any ((OpenSpec.ofChange Rows.exprTellsSpec).preRow enc Try.prog Try.f3 Rows.exprTellsRow.domain false Rows.exprTellsRow.laid) (((OpenSpec.ofChange Rows.exprTellsSpec).at F).post enc Try.prog Try.f3 false true false false) := by
  obtain ⟨places, hx⟩ := exprTells_reads os enc
  refine returnsInHanded_of_row (C := Try.checked) (s := OpenSpec.ofChange Rows.exprTellsSpec) own started (by kernel_rfl) Try.func3
    (witness_row_at (enc := enc) (C := Try.checked) false (World.holding Try.prog os ⟨#[], #[], []⟩) #[.slice none 0 0, .int .i64 0, .slice none 0 0] rfl (by kernel_rfl) (by kernel_rfl) (by kernel_rfl)
      (OpenSpec.preRow_of_cond 8 hx (by kernel_rfl) (fun k hk => by cases hk) (by kernel_rfl) (exprTells_laid_met os))) ?_
  intro W base args ds gs before hval hW _ _ hsz _ _ _
  exact exprTells_contract H enc W base args ds gs before hval hW hsz

set_option maxRecDepth 100000 in
/-- The statement. -/
theorem exprTells_said : Rows.ExprTellsSaid :=
  OpenClaim.holds_of_cond 3 Try.f3 rfl rfl rfl rfl rfl rfl rfl ⟨rfl, rfl, rfl, rfl, rfl⟩ rfl rfl rfl rfl rfl (by kernel_rfl) Try.func3 (by kernel_rfl)
    (of_decide_eq_true (by kernel_rfl)) (by unfold Func.isWrapper; first | (rw [if_pos (by decide +kernel)]; kernel_rfl) | (rw [if_neg (by decide +kernel)]; exact ⟨rfl, rfl⟩))
    (fun os started H enc _ F => by rw [OpenClaim.pre_eq_preRow]; exact exprTells_lifted os started H enc F)
end Go.Proofs.Ytohlefnljgkdcae
