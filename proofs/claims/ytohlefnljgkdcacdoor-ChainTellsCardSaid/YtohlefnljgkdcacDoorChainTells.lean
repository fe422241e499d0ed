/-
  Proved: whatever program, state and number it is handed, the statement ChainTells (F1: chain.Line and chain.Kind answer just what the document says, errors too) returns true, and its arguments read afterwards as they read before. Conditions: the variable op.kinds starts as the program's text lays it (the card ties it); nothing else beyond the form's own.
-/
import Derived.Test.YtohlefnljgkdcacDoorCards
import Derived.Test.YtohlefnljgkdcacDoorTie
import Derived.Test.YtohlefnljgkdcacDoorChainC
import Derived.Test.YtohlefnljgkdcacDoorSR03
import Derived.Test.YtohlefnljgkdcacDoorSR12
import Derived.Test.YtohlefnljgkdcacDoorSR36
import Derived.Deep.DeepHandedRow
namespace Go.Proofs.YtohlefnljgkdcacDoor
open Go.RowKit Go.ChangeShapes Go.WideShapes Go.ChangeAt

set_option maxRecDepth 100000 in
set_option maxHeartbeats 4000000 in
theorem chainTells_walk (p : List Fn) (vp : Value) (s : St) (v : Value) (n : Int) (w : World) (hp : ProgAt w vp p) (hs : StAt w v s) (_hn : (Lit.int .i64 n).wf = true) (hk : KindsAt w) :
    Calls Tryd.prog 4 #[vp, v, .int .i64 n] w fun e w' => e = .returned (.bool true) ∧ Kept w w' := by
  have HP := hide hp
  have HK := hide hk
  have HS := hide hs
  obtain ⟨vf, vo, rfl, hF, hO⟩ := hs
  obtain ⟨pFA, qFA, rfl, hfl, _⟩ := hF
  obtain ⟨pOA, qOA, rfl, _, _⟩ := hO
  obtain ⟨oa, cp, rfl, _, _⟩ := hp
  have HCK := hide (fun u h1 h2 h3 => stCheck_any p s (.slice oa p.length cp) (.agg #[.slice pFA s.fibers.length qFA, .int .i64 s.now, .slice pOA s.out.length qOA]) u h1 h2 h3)
  clear hk
  go_enter Tryd.func4, Tryd.ntmps4
  go_wp2_with fail
  generalize hw1 : w.alloc (.cells #[.slice pFA s.fibers.length qFA, .int .i64 s.now, .slice pOA s.out.length qOA] 26) = w1
  have L1 : w1.heap[w.heap.size]? = some (.cells #[.slice pFA s.fibers.length qFA, .int .i64 s.now, .slice pOA s.out.length qOA] 26) := by rw [← hw1]; exact lays_new rfl
  have hk1 : Kept w w1 := by rw [← hw1]; exact (Kept.refl w).alloc _
  generalize w.heap.size = A at L1 ⊢
  have H1 := hide hk1
  have HL := hide (chainLine_any p s _ _ w1 ((unhide HP).kept hk1) ((unhide HS).kept hk1) ((unhide HK).kept hk1) HCK)
  have HL1 := hide L1
  clear hw1 hk1 L1
  refine (unhide HL).mono ?_
  unfold LinePost2
  rintro _ w2 ⟨lv, rfl, hia, hk2⟩
  obtain ⟨oI, cI, rfl, _, _⟩ := id hia
  have HI := hide hia
  have H2 := hide ((unhide H1).trans hk2)
  have L2 := lays_kept hk2 (unhide HL1)
  have HL2 := hide L2
  have m0 := cell_lays L2 0
  have m1 := cell_lays L2 1
  have m2 := cell_lays L2 2
  clear hia hk2 L2 HL
  have HKD := hide (chainKind_any p s n _ _ w2 ((unhide HP).kept (unhide H2)) ((unhide HS).kept (unhide H2)) ((unhide HK).kept (unhide H2)) HCK)
  go_wp2_with fail
  refine (unhide HKD).mono ?_
  rintro _ w3 ⟨rfl, hk3⟩
  have H3 := hide ((unhide H2).trans hk3)
  have HI3 := hide ((unhide HI).kept hk3)
  have L3 := lays_kept hk3 (unhide HL2)
  have HL3 := hide L3
  clear m0 m1 m2 hk3 HKD
  have m0 := cell_lays L3 0
  have m1 := cell_lays L3 1
  have m2 := cell_lays L3 2
  clear L3
  have HSE := hide (stateError_any p _ _ s w3 ((unhide HP).kept (unhide H3)) ((unhide HS).kept (unhide H3)))
  go_wp2_with fail
  refine (unhide HSE).mono ?_
  rintro _ w4 ⟨rfl, hk4⟩
  have H4 := hide ((unhide H3).trans hk4)
  have HI4 := hide ((unhide HI3).kept hk4)
  have L4 := lays_kept hk4 (unhide HL3)
  have HL4 := hide L4
  clear m0 m1 m2 hk4 HSE HI HI3 HL1 HL2 HL3 H1 H2 H3
  have m0 := cell_lays L4 0
  have m1 := cell_lays L4 1
  have m2 := cell_lays L4 2
  clear L4
  by_cases hz : stErrS p s = 0
  · rw [hz]
    have HZ := hide hz
    have HRL := hide (refLine_any p s _ w4 ((unhide HS).kept (unhide H4)) hz)
    clear hz
    go_wp2_with fail
    refine (unhide HRL).mono ?_
    unfold LineOfPost
    rintro _ w5 ⟨lw, rfl, hia, hk5⟩
    obtain ⟨oJ, cJ, rfl, _, _⟩ := id hia
    have HJ := hide hia
    have H5 := hide ((unhide H4).trans hk5)
    have HI5 := hide ((unhide HI4).kept hk5)
    have L5 := lays_kept hk5 (unhide HL4)
    clear m0 m1 m2 hk5 hia HRL HI4 HL4 H4
    have m0 := cell_lays L5 0
    have m1 := cell_lays L5 1
    have m2 := cell_lays L5 2
    clear L5
    have HEND : Hid (∀ u, Kept w5 u → Calls Tryd.prog 16 #[.slice oI (lineC p s).length cI, .slice oJ (lineC p s).length cJ] u fun e w' => e = .returned (.bool true) ∧ Kept u w') := hide (fun u hu => by
      refine (sameInts_any (lineC p s) (lineC p s) _ _ u ((unhide HI5).kept hu) ((unhide HJ).kept hu)).mono ?_
      rw [decide_eq_true rfl]
      exact fun _ _ h => h)
    clear HI5 HJ
    generalize (lineC p s).length = ln at *
    by_cases hb : 0 ≤ n ∧ n < s.fibers.length
    · have hE : kindE p s n = (kindC p s n.toNat, 0) := by unfold kindE; rw [if_pos (unhide HZ), if_pos hb]
      rw [hE]
      obtain ⟨k, rfl⟩ := Int.eq_ofNat_of_zero_le hb.1
      rw [Int.toNat_natCast]
      have hkm : k < s.fibers.length := by omega
      have HKO := hide (kindOf_any p s k _ _ w5 ((unhide HP).kept (unhide H5)) ((unhide HS).kept (unhide H5)) (unhide HZ) hkm)
      have d1 : decide ((k : Int) < 0) = false := by simp
      have d2 : decide ((s.fibers.length : Int) ≤ (k : Int)) = false := by simpa using hkm
      have d3 : decide (s.fibers.length ≤ k) = false := decide_eq_false (by omega)
      clear hb hE
      generalize kindC p s k = g at *
      go_wp2_with fail
      refine (unhide HKO).mono ?_
      rintro _ w6 ⟨rfl, hk6⟩
      have H6 := hide ((unhide H5).trans hk6)
      have O6 := hide hk6
      clear hk6 m0 m1 m2 d1 d2 d3
      go_wp2_with fail
      refine (chainBegun_any _ ((unhide HK).kept (unhide H6))).mono ?_
      rintro _ w7 ⟨rfl, hk7⟩
      have H7 := hide ((unhide H6).trans hk7)
      have HS7 := hide ((unhide HEND) _ ((unhide O6).trans hk7))
      clear hk7
      go_wp2_with fail
      refine (unhide HS7).mono ?_
      rintro _ w8 ⟨rfl, hk8⟩
      have H8 := hide ((unhide H7).trans hk8)
      have hgg : (g == g) = true := by simp
      clear hk8
      go_wp2
      go_ret
      exact ⟨by simp, unhide H8⟩
    · have hE : kindE p s n = (0, 5) := by unfold kindE; rw [if_pos (unhide HZ), if_neg hb]
      rw [hE]
      clear hE
      by_cases h0 : n < 0
      · have d1 : decide (n < 0) = true := decide_eq_true h0
        clear hb h0
        go_wp2_with fail
        refine (chainBegun_any _ ((unhide HK).kept (unhide H5))).mono ?_
        rintro _ w7 ⟨rfl, hk7⟩
        have H7 := hide ((unhide H5).trans hk7)
        have HS7 := hide ((unhide HEND) _ hk7)
        clear hk7
        go_wp2_with fail
        refine (unhide HS7).mono ?_
        rintro _ w8 ⟨rfl, hk8⟩
        have H8 := hide ((unhide H7).trans hk8)
        clear hk8
        go_wp2
        go_ret
        exact ⟨by simp, unhide H8⟩
      · have d1 : decide (n < 0) = false := decide_eq_false h0
        have d2 : decide ((s.fibers.length : Int) ≤ n) = true := decide_eq_true (by omega)
        clear hb h0
        generalize s.fibers.length = m at *
        go_wp2_with fail
        refine (chainBegun_any _ ((unhide HK).kept (unhide H5))).mono ?_
        rintro _ w7 ⟨rfl, hk7⟩
        have H7 := hide ((unhide H5).trans hk7)
        have HS7 := hide ((unhide HEND) _ hk7)
        clear hk7
        go_wp2_with fail
        refine (unhide HS7).mono ?_
        rintro _ w8 ⟨rfl, hk8⟩
        have H8 := hide ((unhide H7).trans hk8)
        clear hk8
        go_wp2
        go_ret
        exact ⟨by simp, unhide H8⟩
  · have hzb : (stErrS p s == 0) = false := beq_eq_false_iff_ne.2 hz
    have hE : kindE p s n = (0, stErrS p s) := by unfold kindE; rw [if_neg hz]
    have hl : lineC p s = [] := by unfold lineC; rw [if_neg hz]
    rw [hE]
    rw [hl] at HI4 ⊢
    have HEND : Hid (∀ u, Kept w4 u → Calls Tryd.prog 16 #[.slice oI 0 cI, .slice none 0 0] u fun e w' => e = .returned (.bool true) ∧ Kept u w') := hide (fun u hu => by
      refine (sameInts_any [] [] _ _ u ((unhide HI4).kept hu) ⟨none, 0, rfl, by simp, fun i z h => by simp at h⟩).mono ?_
      rw [decide_eq_true rfl]
      exact fun _ _ h => h)
    have hrr : (stErrS p s == stErrS p s) = true := by simp
    clear hE hl hz HI4 HCK
    generalize stErrS p s = r at *
    go_wp2_with fail
    refine (chainBegun_any _ ((unhide HK).kept (unhide H4))).mono ?_
    rintro _ w7 ⟨rfl, hk7⟩
    have H7 := hide ((unhide H4).trans hk7)
    have HS7 := hide ((unhide HEND) _ hk7)
    clear hk7
    go_wp2_with fail
    refine (unhide HS7).mono ?_
    rintro _ w8 ⟨rfl, hk8⟩
    have H8 := hide ((unhide H7).trans hk8)
    clear hk8
    go_wp2
    go_ret
    exact ⟨by simp, unhide H8⟩

set_option maxRecDepth 100000 in
theorem chainTells_contract (H : Type) (enc : TypeId × Value → H) (W : World) (base : Nat) (args : Array Value) (ds gs : List (DataW H)) (before : List MemPlace)
    (hval : ∀ (j : Nat) t v, Tryd.f4.params[j]? = some t → args[j]? = some v → Value.okWide Tryd.prog W .any base t v)
    (hW : DataW.Whole enc Tryd.prog Tryd.f4.params.toList Rows.chainTellsSpec.vars false W args.toList ds gs before)
    (hsz : (DataW.weightsEach Tryd.prog (Tryd.f4.params.toList ++ (OpenSpec.ofChange Rows.chainTellsSpec).bare.plain.varTypes Tryd.prog) (ds ++ gs)).all (· ≤ reachBytes) = true)
    (hL : laidMetH Tryd.prog Rows.chainTellsRow.laid W) :
    Calls Tryd.prog 4 args W fun e W' => ∃ v, e = .returned v ∧ Rows.chainTellsSpec.post enc Tryd.prog Tryd.f4 false true false false W args v W' := by
  have hW' := hW
  obtain ⟨p, q, hA0, hV, rfl, hfz, hnd⟩ := hW
  have hA : DataW.TrodAll enc Tryd.prog W 0 (fun _ => true) true Tryd.f4.params.toList args.toList ds p := hA0
  have hlt : ∀ x ∈ p, x.block < W.heap.size := fun x hx => by simpa using hW'.lt x (by simp [hx])
  have hA1 := hA
  rw [Tryd.params4] at hA hval hsz
  obtain ⟨v0, vs0, d0, ds0, p0, q0, hargs, rfl, rfl, h0, r0⟩ := trodAll_cons hA
  obtain ⟨v1, vs1, d1, ds1, p1, q1, rfl, rfl, rfl, h1, r1⟩ := trodAll_cons r0
  obtain ⟨v2, vs2, d2, ds2, p2, q2, rfl, rfl, rfl, h2, r2⟩ := trodAll_cons r1
  obtain ⟨rfl, rfl, rfl⟩ := trodAll_nil r2
  obtain rfl : args = #[v0, v1, v2] := by cases args; simp_all
  obtain ⟨rfl, rfl⟩ := trodVars_none hV
  obtain ⟨pl0, hpl0⟩ : ∃ pl, ProgAt W v0 pl := by
    obtain ⟨oa, len, cap, rfl⟩ := okWide_slice Tryd.underlying22 (hval 0 22 v0 rfl rfl)
    obtain ⟨fuel, hf⟩ := h0
    exact open_prog hf (fun n hn => of_decide_eq_true (List.all_eq_true.1 hsz n (DataW.weights_mem_each (j := 0) rfl rfl n hn)))
  obtain ⟨st1, hst1⟩ : ∃ st, StAt W v1 st := by
    obtain ⟨fuel, hf⟩ := h1
    obtain ⟨cs, rfl, hc⟩ := okWide_struct Tryd.underlying26 (hval 1 26 v1 rfl rfl)
    have := open_state hf (fun n hn => of_decide_eq_true (List.all_eq_true.1 hsz n (DataW.weights_mem_each (j := 1) rfl rfl n hn)))
    cases cs
    simpa [Value.cells] using this
  obtain ⟨n2, rfl, rfl, rfl, wn2⟩ := open_int Tryd.underlying3 (hval 2 3 v2 rfl rfl) h2
  refine (chainTells_walk pl0 v0 st1 v1 n2 W hpl0 hst1 wn2 (kinds_of_laid hL)).mono fun e W' ⟨he, hg⟩ => ?_
  subst he
  refine ⟨_, rfl, _, _, _, [], _, [], hW', trodAll_mk1 (shut_bool Tryd.underlying4 _), trodAll_below hg ?_ hA1 hlt, rfl, hg.frame _, fun h => by cases h⟩
  intro t ht
  rw [Tryd.params4] at ht
  simp only [List.mem_cons, List.not_mem_nil, or_false] at ht
  rcases ht with rfl | rfl | rfl
  · exact ⟨by kernel_rfl, of_decide_eq_true (by kernel_rfl)⟩
  · exact ⟨by kernel_rfl, of_decide_eq_true (by kernel_rfl)⟩
  · exact ⟨by kernel_rfl, of_decide_eq_true (by kernel_rfl)⟩

set_option maxRecDepth 100000 in
theorem chainTells_laid_met (os : Os) : laidMet Tryd.prog Rows.chainTellsRow.laid ((({ World.holding Tryd.prog os ⟨#[], #[], []⟩ with heap := (World.holding Tryd.prog os ⟨#[], #[], []⟩).heap.modify 0 fun | .cells _ t frozen => .cells #[.int .i64 0, .int .i64 1, .int .i64 1, .int .i64 1, .int .i64 0, .int .i64 0, .int .i64 0, .int .i64 1, .int .i64 2, .int .i64 1, .int .i64 0, .int .i64 2, .int .i64 2, .int .i64 1, .int .i64 0, .int .i64 2, .int .i64 1, .int .i64 0, .int .i64 2, .int .i64 1, .int .i64 0, .int .i64 2, .int .i64 1, .int .i64 0, .int .i64 2, .int .i64 1, .int .i64 0, .int .i64 0, .int .i64 0, .int .i64 3, .int .i64 1, .int .i64 0, .int .i64 3, .int .i64 0, .int .i64 1, .int .i64 4, .int .i64 1, .int .i64 0, .int .i64 0, .int .i64 0, .int .i64 1, .int .i64 4, .int .i64 2, .int .i64 1, .int .i64 0, .int .i64 1, .int .i64 1, .int .i64 0, .int .i64 1, .int .i64 0, .int .i64 0] t frozen | o => o } : World)).forCall (fun _ _ => 0) ⟨#[], #[.slice none 0 0, .agg #[.slice none 0 0, .int .i64 0, .slice none 0 0], .int .i64 0], []⟩).memory :=
  laidMet_of_run' 8 (by kernel_rfl) (by kernel_rfl)
set_option maxRecDepth 100000 in
theorem chainTells_reads (os : Os) {H : Type} (enc : TypeId × Value → H) : ∃ places, DataW.whole enc Tryd.prog ((({ World.holding Tryd.prog os ⟨#[], #[], []⟩ with heap := (World.holding Tryd.prog os ⟨#[], #[], []⟩).heap.modify 0 fun | .cells _ t frozen => .cells #[.int .i64 0, .int .i64 1, .int .i64 1, .int .i64 1, .int .i64 0, .int .i64 0, .int .i64 0, .int .i64 1, .int .i64 2, .int .i64 1, .int .i64 0, .int .i64 2, .int .i64 2, .int .i64 1, .int .i64 0, .int .i64 2, .int .i64 1, .int .i64 0, .int .i64 2, .int .i64 1, .int .i64 0, .int .i64 2, .int .i64 1, .int .i64 0, .int .i64 2, .int .i64 1, .int .i64 0, .int .i64 0, .int .i64 0, .int .i64 3, .int .i64 1, .int .i64 0, .int .i64 3, .int .i64 0, .int .i64 1, .int .i64 4, .int .i64 1, .int .i64 0, .int .i64 0, .int .i64 0, .int .i64 1, .int .i64 4, .int .i64 2, .int .i64 1, .int .i64 0, .int .i64 1, .int .i64 1, .int .i64 0, .int .i64 1, .int .i64 0, .int .i64 0] t frozen | o => o } : World)).forCall (fun _ _ => 0) ⟨#[], #[.slice none 0 0, .agg #[.slice none 0 0, .int .i64 0, .slice none 0 0], .int .i64 0], []⟩).memory Tryd.f4.params.toList Rows.chainTellsSpec.vars false (#[.slice none 0 0, .agg #[.slice none 0 0, .int .i64 0, .slice none 0 0], .int .i64 0] : Array Value).toList 8 = some ([.nil, .agg [.nil, .lit (.int .i64 0), .nil], .lit (.int .i64 0)], [], places) :=
  ⟨[], by kernel_rfl⟩

set_option maxRecDepth 100000 in
theorem chainTells_lifted (os : Os) (started : os.Started) (H : Type) (enc : TypeId × Value → H) (F : Stop.Interp) :
    ReturnsInHanded {} Tryd.checked os 4 .any ((OpenSpec.ofChange Rows.chainTellsSpec).preRow enc Tryd.prog Tryd.f4 Rows.chainTellsRow.domain false Rows.chainTellsRow.laid) (((OpenSpec.ofChange Rows.chainTellsSpec).at F).post enc Tryd.prog Tryd.f4 false true false false) := by
  obtain ⟨places, hx⟩ := chainTells_reads os enc
  refine returnsInHanded_of_row (C := Tryd.checked) (s := OpenSpec.ofChange Rows.chainTellsSpec) own started (by kernel_rfl) Tryd.func4
    (witness_row_at (enc := enc) (C := Tryd.checked) false ({ World.holding Tryd.prog os ⟨#[], #[], []⟩ with heap := (World.holding Tryd.prog os ⟨#[], #[], []⟩).heap.modify 0 fun | .cells _ t frozen => .cells #[.int .i64 0, .int .i64 1, .int .i64 1, .int .i64 1, .int .i64 0, .int .i64 0, .int .i64 0, .int .i64 1, .int .i64 2, .int .i64 1, .int .i64 0, .int .i64 2, .int .i64 2, .int .i64 1, .int .i64 0, .int .i64 2, .int .i64 1, .int .i64 0, .int .i64 2, .int .i64 1, .int .i64 0, .int .i64 2, .int .i64 1, .int .i64 0, .int .i64 2, .int .i64 1, .int .i64 0, .int .i64 0, .int .i64 0, .int .i64 3, .int .i64 1, .int .i64 0, .int .i64 3, .int .i64 0, .int .i64 1, .int .i64 4, .int .i64 1, .int .i64 0, .int .i64 0, .int .i64 0, .int .i64 1, .int .i64 4, .int .i64 2, .int .i64 1, .int .i64 0, .int .i64 1, .int .i64 1, .int .i64 0, .int .i64 1, .int .i64 0, .int .i64 0] t frozen | o => o } : World) #[.slice none 0 0, .agg #[.slice none 0 0, .int .i64 0, .slice none 0 0], .int .i64 0] rfl (by kernel_rfl) (by kernel_rfl) (by kernel_rfl)
      (OpenSpec.preRow_of_cond 8 hx (by kernel_rfl) (fun k hk => by cases hk) (by kernel_rfl) (chainTells_laid_met os))) ?_
  intro W base args ds gs before hval hW _ _ hsz hL _ _
  exact chainTells_contract H enc W base args ds gs before hval hW hsz hL

set_option maxRecDepth 100000 in
theorem chainTells_said : Rows.ChainTellsSaid :=
  OpenClaim.holds_of_cond 4 Tryd.f4 rfl rfl rfl rfl rfl rfl rfl ⟨rfl, rfl, rfl, rfl, rfl⟩ rfl rfl rfl rfl rfl (by kernel_rfl) Tryd.func4 (by kernel_rfl)
    (of_decide_eq_true (by kernel_rfl)) (by unfold Func.isWrapper; first | (rw [if_pos (by decide +kernel)]; kernel_rfl) | (rw [if_neg (by decide +kernel)]; exact ⟨rfl, rfl⟩))
    (fun os started H enc _ F => by rw [OpenClaim.pre_eq_preRow]; exact chainTells_lifted os started H enc F)

set_option maxRecDepth 100000 in
theorem chainTells_plain (f : FuncId) (fn : Func) (hf : Tryd.pinned.checked.prog.funcNamed "glebe/glebelaw.ChainTells" = some f) (hfn : Tryd.pinned.checked.prog.funcs[f]? = some fn) :
    true = Tryd.pinned.checked.prog.looks [] ∧ ∀ (j : Nat) t, fn.params[j]? = some t → Tryd.pinned.checked.prog.wantsStandIn t = false := by
  obtain rfl : f = 4 := Option.some.inj ((show Tryd.prog.funcNamed "glebe/glebelaw.ChainTells" = some 4 by kernel_rfl).symm.trans hf) |>.symm
  obtain rfl : fn = Tryd.f4 := (Option.some.inj (Tryd.func4.symm.trans hfn)).symm
  refine ⟨by kernel_rfl, fun j t ht => ?_⟩
  rw [Tryd.params4] at ht
  have hm := Array.mem_of_getElem? ht
  simp only [List.mem_toArray, List.mem_cons, List.not_mem_nil, or_false] at hm
  rcases hm with rfl | rfl | rfl
  · exact (show Tryd.prog.wantsStandIn 22 = false by kernel_rfl)
  · exact (show Tryd.prog.wantsStandIn 26 = false by kernel_rfl)
  · exact (show Tryd.prog.wantsStandIn 3 = false by kernel_rfl)

set_option maxRecDepth 100000 in
theorem chainTells_card : Rows.ChainTellsCardSaid :=
  Claim7.holds_tied_plain_at .later [] _ _ _ _ chainTells_said (fun _ h => by cases h) (by kernel_rfl) (fun _ h => by cases h) chainTells_row_tie rfl ⟨rfl, rfl⟩ (by kernel_rfl) rfl chainTells_plain (by kernel_rfl)
end Go.Proofs.YtohlefnljgkdcacDoor
