/-
  Proved: whatever program and number it is handed, the statement ProgTells (B1, B2: prog.Check and prog.Calls answer just what the document says, errors too) returns true, and its arguments read afterwards as they read before. Conditions: the variable op.kinds starts as the program's text lays it (the card ties it); nothing else beyond the form's own.
-/
import Derived.Test.YtkepbeeioalmbabDoorCards
import Derived.Test.YtkepbeeioalmbabDoorTie
import Derived.Test.YtkepbeeioalmbabDoorOpen
import Derived.Test.YtkepbeeioalmbabDoorProgD
import Derived.Test.YtkepbeeioalmbabDoorProgE
import Derived.Test.YtkepbeeioalmbabDoorProgF
import Derived.Deep.DeepHandedRow
namespace Go.Proofs.YtkepbeeioalmbabDoor
open Go.RowKit Go.ChangeShapes Go.WideShapes Go.ChangeAt

set_option maxHeartbeats 2000000 in
theorem progTells_walk (p : List Fn) (v : Value) (f : Int) (w : World) (hp : ProgAt w v p) (_hf : (Lit.int .i64 f).wf = true) (hk : KindsAt w) :
    Calls Tryd.prog 3 #[v, .int .i64 f] w fun e w' => e = .returned (.bool true) ∧ Kept w w' := by
  obtain ⟨oa, cap, rfl, _, _⟩ := id hp
  have HP := hide hp
  have HK := hide hk
  clear hp hk _hf
  go_enter Tryd.func3, Tryd.ntmps3
  go_wp2_with fail
  refine (calls_any p _ f _ (unhide HP) (unhide HK)).mono ?_
  rintro e w1 ⟨u1, rfl, hu1, hk1⟩
  have H1 := hide hk1
  have HU1 := hide hu1
  clear hk1 hu1
  generalize hr : callE p f = r
  have HRR := hide hr
  clear hr
  go_wp2_with fail
  have hce := callsError_any p (.slice oa p.length cap) f w1 ((unhide HP).kept (unhide H1))
  rw [unhide HRR] at hce
  refine hce.mono ?_
  rintro e w2 ⟨rfl, hk2⟩
  have H2 := hide ((unhide H1).trans hk2)
  have HU2 := hide ((unhide HU1).kept hk2)
  clear hk2 hce HU1 H1
  by_cases hz : r = 0
  · subst hz
    have hin : progS p = 0 ∧ 0 ≤ f ∧ f < p.length := by
      have h := unhide HRR
      unfold callE at h
      split at h
      · rename_i h0
        split at h
        · rename_i h1; exact ⟨h0, ixB_iff.1 h1⟩
        · cases h
      · rename_i h0; exact absurd h h0
    obtain ⟨hpz, hf0, hf1⟩ := hin
    obtain ⟨i, rfl⟩ := Int.eq_ofNat_of_zero_le hf0
    have hcb : callB p i = callsS p i := by unfold callB; rw [unhide HRR, if_pos rfl, Int.toNat_natCast]
    have hco := callsOf_any p (.slice oa p.length cap) i w2 ((unhide HP).kept (unhide H2)) hpz (by omega)
    have HCO := hide hco
    have HCB := hide hcb
    have HPZ := hide hpz
    clear hco hcb hf0 hf1 hpz
    go_wp2_with fail
    refine (unhide HCO).mono ?_
    rintro e w3 ⟨u3, rfl, hu3, hk3⟩
    have H3 := hide ((unhide H2).trans hk3)
    have HU3 := hide ((unhide HU2).kept hk3)
    have HV3 := hide hu3
    clear hk3 hu3 H2 HU2 HCO
    go_wp2_with fail
    refine (progBegun_any _ ((unhide HK).kept (unhide H3))).mono ?_
    rintro e w4 ⟨rfl, hk4⟩
    have H4 := hide ((unhide H3).trans hk4)
    have HU4 := hide ((unhide HU3).kept hk4)
    have HV4 := hide ((unhide HV3).kept hk4)
    clear hk4 H3 HU3 HV3
    go_wp2_with fail
    refine (progCheck_any p _ _ ((unhide HP).kept (unhide H4)) ((unhide HK).kept (unhide H4))).mono ?_
    rintro e w5 ⟨rfl, hk5⟩
    have H5 := hide ((unhide H4).trans hk5)
    have HU5 := hide ((unhide HU4).kept hk5)
    have HV5 := hide ((unhide HV4).kept hk5)
    clear hk5 H4 HU4 HV4
    rw [unhide HPZ]
    go_wp2_with fail
    refine (progError_any p _ _ ((unhide HP).kept (unhide H5))).mono ?_
    rintro e w6 ⟨rfl, hk6⟩
    have H6 := hide ((unhide H5).trans hk6)
    have HU6 := hide ((unhide HU5).kept hk6)
    have HV6 := hide ((unhide HV5).kept hk6)
    clear hk6 H5 HU5 HV5
    rw [unhide HPZ]
    go_wp2_with fail
    refine (sameBools_any _ _ _ _ _ (unhide HU6) (unhide HV6)).mono ?_
    rintro e w7 ⟨rfl, hk7⟩
    have H7 := hide ((unhide H6).trans hk7)
    clear hk7 H6
    rw [unhide HCB]
    go_wp2
    go_ret
    exact ⟨by simp, unhide H7⟩
  · have hz' : (r == 0) = false := by rw [beq_eq_false_iff_ne]; exact hz
    have hcb : callB p f = [] := by unfold callB; rw [unhide HRR, if_neg hz]
    have HCB := hide hcb
    clear hcb hz
    go_wp2_with fail
    refine (progBegun_any _ ((unhide HK).kept (unhide H2))).mono ?_
    rintro e w4 ⟨rfl, hk4⟩
    have H4 := hide ((unhide H2).trans hk4)
    have HU4 := hide ((unhide HU2).kept hk4)
    clear hk4 H2 HU2
    go_wp2_with fail
    refine (progCheck_any p _ _ ((unhide HP).kept (unhide H4)) ((unhide HK).kept (unhide H4))).mono ?_
    rintro e w5 ⟨rfl, hk5⟩
    have H5 := hide ((unhide H4).trans hk5)
    have HU5 := hide ((unhide HU4).kept hk5)
    clear hk5 H4 HU4
    generalize hps : progS p = ps
    have HPS := hide hps
    clear hps
    go_wp2_with fail
    refine (progError_any p _ _ ((unhide HP).kept (unhide H5))).mono ?_
    rintro e w6 ⟨rfl, hk6⟩
    have H6 := hide ((unhide H5).trans hk6)
    have HU6 := hide ((unhide HU5).kept hk6)
    clear hk6 H5 HU5
    rw [unhide HPS]
    go_wp2_with fail
    refine (sameBools_any _ [] _ _ _ (unhide HU6) (BoolsAt.nil _)).mono ?_
    rintro e w7 ⟨rfl, hk7⟩
    have H7 := hide ((unhide H6).trans hk7)
    clear hk7 H6
    rw [unhide HCB]
    go_wp2
    go_ret
    exact ⟨by simp, unhide H7⟩


set_option maxRecDepth 100000 in
theorem progTells_contract (H : Type) (enc : TypeId × Value → H) (W : World) (base : Nat) (args : Array Value) (ds gs : List (DataW H)) (before : List MemPlace)
    (hval : ∀ (j : Nat) t v, Tryd.f3.params[j]? = some t → args[j]? = some v → Value.okWide Tryd.prog W .any base t v)
    (hW : DataW.Whole enc Tryd.prog Tryd.f3.params.toList Rows.progTellsSpec.vars false W args.toList ds gs before)
    (hsz : (DataW.weightsEach Tryd.prog (Tryd.f3.params.toList ++ (OpenSpec.ofChange Rows.progTellsSpec).bare.plain.varTypes Tryd.prog) (ds ++ gs)).all (· ≤ reachBytes) = true)
    (hL : laidMetH Tryd.prog Rows.progTellsRow.laid W) :
    Calls Tryd.prog 3 args W fun e W' => ∃ v, e = .returned v ∧ Rows.progTellsSpec.post enc Tryd.prog Tryd.f3 false true false false W args v W' := by
  have hW' := hW
  obtain ⟨p, q, hA0, hV, rfl, hfz, hnd⟩ := hW
  have hA : DataW.TrodAll enc Tryd.prog W 0 (fun _ => true) true Tryd.f3.params.toList args.toList ds p := hA0
  have hlt : ∀ x ∈ p, x.block < W.heap.size := fun x hx => by simpa using hW'.lt x (by simp [hx])
  have hA1 := hA
  rw [Tryd.params3] at hA hval hsz
  obtain ⟨v0, vs0, d0, ds0, p0, q0, hargs, rfl, rfl, h0, r0⟩ := trodAll_cons hA
  obtain ⟨v1, vs1, d1, ds1, p1, q1, rfl, rfl, rfl, h1, r1⟩ := trodAll_cons r0
  obtain ⟨rfl, rfl, rfl⟩ := trodAll_nil r1
  obtain rfl : args = #[v0, v1] := by cases args; simp_all
  obtain ⟨rfl, rfl⟩ := trodVars_none hV
  obtain ⟨pl0, hpl0⟩ : ∃ pl, ProgAt W v0 pl := by
    obtain ⟨oa, len, cap, rfl⟩ := okWide_slice Tryd.underlying22 (hval 0 22 v0 rfl rfl)
    obtain ⟨fuel, hf⟩ := h0
    exact open_prog hf (fun n hn => of_decide_eq_true (List.all_eq_true.1 hsz n (DataW.weights_mem_each (j := 0) rfl rfl n hn)))
  obtain ⟨n1, rfl, rfl, rfl, wn1⟩ := open_int Tryd.underlying3 (hval 1 3 v1 rfl rfl) h1
  refine (progTells_walk pl0 v0 n1 W hpl0 wn1 (kinds_of_laid hL)).mono fun e W' ⟨he, hg⟩ => ?_
  subst he
  refine ⟨_, rfl, _, _, _, [], _, [], hW', trodAll_mk1 (shut_bool Tryd.underlying4 _), trodAll_below hg ?_ hA1 hlt, rfl, hg.frame _, fun h => by cases h⟩
  intro t ht
  rw [Tryd.params3] at ht
  simp only [List.mem_cons, List.not_mem_nil, or_false] at ht
  rcases ht with rfl | rfl
  · exact ⟨by kernel_rfl, of_decide_eq_true (by kernel_rfl)⟩
  · exact ⟨by kernel_rfl, of_decide_eq_true (by kernel_rfl)⟩

set_option maxRecDepth 100000 in
theorem progTells_laid_met (os : Os) : laidMet Tryd.prog Rows.progTellsRow.laid ((({ World.holding Tryd.prog os ⟨#[], #[], []⟩ with heap := (World.holding Tryd.prog os ⟨#[], #[], []⟩).heap.modify 0 fun | .cells _ t frozen => .cells #[.int .i64 0, .int .i64 1, .int .i64 1, .int .i64 1, .int .i64 0, .int .i64 0, .int .i64 0, .int .i64 1, .int .i64 2, .int .i64 1, .int .i64 0, .int .i64 2, .int .i64 2, .int .i64 1, .int .i64 0, .int .i64 2, .int .i64 1, .int .i64 0, .int .i64 2, .int .i64 1, .int .i64 0, .int .i64 2, .int .i64 1, .int .i64 0, .int .i64 2, .int .i64 1, .int .i64 0, .int .i64 0, .int .i64 0, .int .i64 3, .int .i64 1, .int .i64 0, .int .i64 3, .int .i64 0, .int .i64 1, .int .i64 4, .int .i64 1, .int .i64 0, .int .i64 0, .int .i64 0, .int .i64 1, .int .i64 4, .int .i64 2, .int .i64 1, .int .i64 0, .int .i64 1, .int .i64 1, .int .i64 0, .int .i64 1, .int .i64 0, .int .i64 0] t frozen | o => o } : World)).forCall (fun _ _ => 0) ⟨#[], #[.slice none 0 0, .int .i64 0], []⟩).memory :=
  laidMet_of_run' 8 (by kernel_rfl) (by kernel_rfl)
set_option maxRecDepth 100000 in
theorem progTells_reads (os : Os) {H : Type} (enc : TypeId × Value → H) : ∃ places, DataW.whole enc Tryd.prog ((({ World.holding Tryd.prog os ⟨#[], #[], []⟩ with heap := (World.holding Tryd.prog os ⟨#[], #[], []⟩).heap.modify 0 fun | .cells _ t frozen => .cells #[.int .i64 0, .int .i64 1, .int .i64 1, .int .i64 1, .int .i64 0, .int .i64 0, .int .i64 0, .int .i64 1, .int .i64 2, .int .i64 1, .int .i64 0, .int .i64 2, .int .i64 2, .int .i64 1, .int .i64 0, .int .i64 2, .int .i64 1, .int .i64 0, .int .i64 2, .int .i64 1, .int .i64 0, .int .i64 2, .int .i64 1, .int .i64 0, .int .i64 2, .int .i64 1, .int .i64 0, .int .i64 0, .int .i64 0, .int .i64 3, .int .i64 1, .int .i64 0, .int .i64 3, .int .i64 0, .int .i64 1, .int .i64 4, .int .i64 1, .int .i64 0, .int .i64 0, .int .i64 0, .int .i64 1, .int .i64 4, .int .i64 2, .int .i64 1, .int .i64 0, .int .i64 1, .int .i64 1, .int .i64 0, .int .i64 1, .int .i64 0, .int .i64 0] t frozen | o => o } : World)).forCall (fun _ _ => 0) ⟨#[], #[.slice none 0 0, .int .i64 0], []⟩).memory Tryd.f3.params.toList Rows.progTellsSpec.vars false (#[.slice none 0 0, .int .i64 0] : Array Value).toList 8 = some ([.nil, .lit (.int .i64 0)], [], places) :=
  ⟨[], by kernel_rfl⟩

set_option maxRecDepth 100000 in
theorem progTells_lifted (os : Os) (started : os.Started) (H : Type) (enc : TypeId × Value → H) (F : Stop.Interp) :
    ReturnsInHanded {} Tryd.checked os 3 .any ((OpenSpec.ofChange Rows.progTellsSpec).preRow enc Tryd.prog Tryd.f3 Rows.progTellsRow.domain false Rows.progTellsRow.laid) (((OpenSpec.ofChange Rows.progTellsSpec).at F).post enc Tryd.prog Tryd.f3 false true false false) := by
  obtain ⟨places, hx⟩ := progTells_reads os enc
  refine returnsInHanded_of_row (C := Tryd.checked) (s := OpenSpec.ofChange Rows.progTellsSpec) own started (by kernel_rfl) Tryd.func3
    (witness_row_at (enc := enc) (C := Tryd.checked) false ({ World.holding Tryd.prog os ⟨#[], #[], []⟩ with heap := (World.holding Tryd.prog os ⟨#[], #[], []⟩).heap.modify 0 fun | .cells _ t frozen => .cells #[.int .i64 0, .int .i64 1, .int .i64 1, .int .i64 1, .int .i64 0, .int .i64 0, .int .i64 0, .int .i64 1, .int .i64 2, .int .i64 1, .int .i64 0, .int .i64 2, .int .i64 2, .int .i64 1, .int .i64 0, .int .i64 2, .int .i64 1, .int .i64 0, .int .i64 2, .int .i64 1, .int .i64 0, .int .i64 2, .int .i64 1, .int .i64 0, .int .i64 2, .int .i64 1, .int .i64 0, .int .i64 0, .int .i64 0, .int .i64 3, .int .i64 1, .int .i64 0, .int .i64 3, .int .i64 0, .int .i64 1, .int .i64 4, .int .i64 1, .int .i64 0, .int .i64 0, .int .i64 0, .int .i64 1, .int .i64 4, .int .i64 2, .int .i64 1, .int .i64 0, .int .i64 1, .int .i64 1, .int .i64 0, .int .i64 1, .int .i64 0, .int .i64 0] t frozen | o => o } : World) #[.slice none 0 0, .int .i64 0] rfl (by kernel_rfl) (by kernel_rfl) (by kernel_rfl)
      (OpenSpec.preRow_of_cond 8 hx (by kernel_rfl) (fun k hk => by cases hk) (by kernel_rfl) (progTells_laid_met os))) ?_
  intro W base args ds gs before hval hW _ _ hsz hL _ _
  exact progTells_contract H enc W base args ds gs before hval hW hsz hL

set_option maxRecDepth 100000 in
theorem progTells_said : Rows.ProgTellsSaid :=
  OpenClaim.holds_of_cond 3 Tryd.f3 rfl rfl rfl rfl rfl rfl rfl ⟨rfl, rfl, rfl, rfl, rfl⟩ rfl rfl rfl rfl rfl (by kernel_rfl) Tryd.func3 (by kernel_rfl)
    (of_decide_eq_true (by kernel_rfl)) (by unfold Func.isWrapper; first | (rw [if_pos (by decide +kernel)]; kernel_rfl) | (rw [if_neg (by decide +kernel)]; exact ⟨rfl, rfl⟩))
    (fun os started H enc _ F => by rw [OpenClaim.pre_eq_preRow]; exact progTells_lifted os started H enc F)

set_option maxRecDepth 100000 in
theorem progTells_plain (f : FuncId) (fn : Func) (hf : Tryd.pinned.checked.prog.funcNamed "glebe/glebelaw.ProgTells" = some f) (hfn : Tryd.pinned.checked.prog.funcs[f]? = some fn) :
    false = Tryd.pinned.checked.prog.looks [] ∧ ∀ (j : Nat) t, fn.params[j]? = some t → Tryd.pinned.checked.prog.wantsStandIn t = false := by
  obtain rfl : f = 3 := Option.some.inj ((show Tryd.prog.funcNamed "glebe/glebelaw.ProgTells" = some 3 by kernel_rfl).symm.trans hf) |>.symm
  obtain rfl : fn = Tryd.f3 := (Option.some.inj (Tryd.func3.symm.trans hfn)).symm
  refine ⟨by kernel_rfl, fun j t ht => ?_⟩
  rw [Tryd.params3] at ht
  have hm := Array.mem_of_getElem? ht
  simp only [List.mem_toArray, List.mem_cons, List.not_mem_nil, or_false] at hm
  rcases hm with rfl | rfl
  · exact (show Tryd.prog.wantsStandIn 22 = false by kernel_rfl)
  · exact (show Tryd.prog.wantsStandIn 3 = false by kernel_rfl)

set_option maxRecDepth 100000 in
/-- The card. -/
theorem progTells_card : Rows.ProgTellsCardSaid :=
  Claim7.holds_tied_plain_at .later [] _ _ _ _ progTells_said (fun _ h => by cases h) (by kernel_rfl) (fun _ h => by cases h) progTells_row_tie rfl ⟨rfl, rfl⟩ (by kernel_rfl) rfl progTells_plain (by kernel_rfl)
end Go.Proofs.YtkepbeeioalmbabDoor

