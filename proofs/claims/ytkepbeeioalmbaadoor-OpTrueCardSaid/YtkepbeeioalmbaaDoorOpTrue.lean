/-
  Proved: whatever program and numbers it is handed, the statement OpTrue (A1: no op of a right function takes more than a function may have Args, or two, nor leaves more than one; each op of it has an effect) returns true, and its arguments read afterwards as they read before. Conditions: the variable op.kinds starts as the program's text lays it (the card ties it); nothing else beyond the form's own.
-/
import Derived.Test.YtkepbeeioalmbaaDoorCards
import Derived.Test.YtkepbeeioalmbaaDoorTie
import Derived.Test.YtkepbeeioalmbaaDoorOpen
import Derived.Test.YtkepbeeioalmbaaDoorOpL
import Derived.Test.YtkepbeeioalmbaaDoorOpM
import Derived.Test.YtkepbeeioalmbaaDoorChoose
import Derived.Deep.DeepHandedRow
import Derived.Deep.RegionWith
import Derived.Deep.DeepCutAuto
namespace Go.Proofs.YtkepbeeioalmbaaDoor
open Go.RowKit Go.ChangeShapes Go.WideShapes Go.ChangeAt

set_option maxHeartbeats 1000000 in
theorem opTrue_bad (p : List Fn) (v : Value) (f at_ : Int) (w : World) (hp : ProgAt w v p) (hk : KindsAt w) (hz : (chkS p f != 0) = true) :
    Calls Tryd.prog 5 #[v, .int .i64 f, .int .i64 at_] w fun e w' => e = .returned (.bool true) ∧ Kept w w' := by
  obtain ⟨oa, cap, rfl, _, _⟩ := id hp
  have HP := hide hp
  have HK := hide hk
  clear hp hk
  go_enter Tryd.func5, Tryd.ntmps5
  go_wp2_with fail
  refine (check_any p _ f _ (unhide HP) (unhide HK)).mono ?_
  rintro e w1 ⟨rfl, hk1⟩
  have H1 : Hid (Kept w w1) := hk1
  clear hk1
  generalize chkS p f = r at *
  go_wp2_with fail
  refine (opBegun_any _ ((unhide HK).kept H1.out)).mono ?_
  rintro e w2 ⟨rfl, hk2⟩
  have H2 : Hid (Kept w w2) := H1.out.trans hk2
  clear hk2
  go_wp2
  go_ret
  exact ⟨rfl, H2⟩

set_option maxHeartbeats 1000000 in
theorem opTrue_empty (p : List Fn) (i b o cap : Nat) (at_ : Int) (oc : Option Addr) (cc : Nat) (w : World) (hp : ProgAt w (.slice (some ⟨b, o, none⟩) p.length cap) p) (hk : KindsAt w) (hz : chkS p i = 0) (hi : i < p.length)
    (c2 : w.cell? ⟨b, o + i * 3 + 2, none⟩ = some (.slice oc 0 cc)) :
    Calls Tryd.prog 5 #[.slice (some ⟨b, o, none⟩) p.length cap, .int .i64 i, .int .i64 at_] w fun e w' => e = .returned (.bool true) ∧ Kept w w' := by
  have HP := hide hp
  have HK := hide hk
  have HZ := hide hz
  have HC := hide c2
  clear hp hk hz c2
  have g1 : decide ((i : Int) < 0) = false := by simp
  have g2 : decide ((p.length : Int) ≤ (i : Int)) = false := by simpa using hi
  go_enter Tryd.func5, Tryd.ntmps5
  go_wp2_with fail
  have hck := check_any p _ i _ (unhide HP) (unhide HK)
  rw [unhide HZ] at hck
  refine hck.mono ?_
  rintro e w1 ⟨rfl, hk1⟩
  have d2 := hk1.cell (unhide HC)
  have H1 : Hid (Kept w w1) := hk1
  clear hk1 hck
  go_wp2_with fail
  refine (opBegun_any _ ((unhide HK).kept H1.out)).mono ?_
  rintro e w2 ⟨rfl, hk2⟩
  have H2 : Hid (Kept w w2) := H1.out.trans hk2
  clear hk2
  go_wp2
  go_ret
  exact ⟨rfl, H2⟩

set_option maxHeartbeats 4000000 in
set_option maxRecDepth 100000 in
theorem opTrue_op (p : List Fn) (i b o cap : Nat) (at_ : Int) (b' o' m cc : Nat) (x : Int × Int) (ta lb most : Int) (w : World) (hp : ProgAt w (.slice (some ⟨b, o, none⟩) p.length cap) p) (hk : KindsAt w) (hz : chkS p i = 0) (hi : i < p.length)
    (c2 : w.cell? ⟨b, o + i * 3 + 2, none⟩ = some (.slice (some ⟨b', o', none⟩) m cc)) (hat : (Lit.int .i64 at_).wf = true) (hm0 : 0 < m) (hm : m ≤ 24)
    (x0 : w.cell? ⟨b', o' + chooseS at_ m * 2, none⟩ = some (.int .i64 x.1)) (x1 : w.cell? ⟨b', o' + chooseS at_ m * 2 + 1, none⟩ = some (.int .i64 x.2)) (he : effS p x.1 x.2 = (ta, lb, 0))
    (hmost : (x.1 = 11 ∧ ∃ j : Nat, x.2 = j ∧ j < p.length ∧ w.cell? ⟨b, o + j * 3, none⟩ = some (.int .i64 most)) ∨ (x.1 ≠ 11 ∧ most = 2)) (t0 : 0 ≤ ta) (t1 : ta ≤ most) (l0 : 0 ≤ lb) (l1 : lb ≤ 1) :
    Calls Tryd.prog 5 #[.slice (some ⟨b, o, none⟩) p.length cap, .int .i64 i, .int .i64 at_] w fun e w' => e = .returned (.bool true) ∧ Kept w w' := by
  have hj := chooseS_lt at_ hm0
  generalize hcj : chooseS at_ m = j at *
  have HJ := hide hcj
  have HP := hide hp
  have HK := hide hk
  have HZ := hide hz
  have HC := hide c2
  have HX0 := hide x0
  have HX1 := hide x1
  have HE := hide he
  have HM := hide hmost
  have HA := hide hat
  clear hp hk hz c2 x0 x1 he hmost hcj hat
  have g1 : decide ((i : Int) < 0) = false := by simp
  have g2 : decide ((p.length : Int) ≤ (i : Int)) = false := by simpa using hi
  have g3 : ((m : Int) == 0) = false := beq_eq_false_iff_ne.2 (by omega)
  go_enter Tryd.func5, Tryd.ntmps5
  go_wp2_with fail
  have hck := check_any p _ i _ (unhide HP) (unhide HK)
  rw [unhide HZ] at hck
  refine hck.mono ?_
  rintro e w1 ⟨rfl, hk1⟩
  have d2 := hk1.cell (unhide HC)
  have d3 := hk1.cell (unhide HX0)
  have d4 := hk1.cell (unhide HX1)
  have d2' : ∀ o1, (w1.alloc o1).cell? ⟨b, o + i * 3 + 2, none⟩ = some (.slice (some ⟨b', o', none⟩) m cc) := fun o1 => ((Kept.refl w1).alloc _).cell d2
  have d3' : ∀ o1, (w1.alloc o1).cell? ⟨b', o' + j * 2, none⟩ = some (.int .i64 x.1) := fun o1 => ((Kept.refl w1).alloc _).cell d3
  have d4' : ∀ o1, (w1.alloc o1).cell? ⟨b', o' + j * 2 + 1, none⟩ = some (.int .i64 x.2) := fun o1 => ((Kept.refl w1).alloc _).cell d4
  have H1 : Hid (Kept w w1) := hk1
  clear hk1 hck
  go_wp2_with fail
  go_cut [7] (fun s7 wx => ∃ B, s7 = .pointer (some ⟨B, 0, none⟩) ∧ wx.cell? ⟨B, 0, none⟩ = some (.int .i64 x.1) ∧ wx.cell? ⟨B, 1, none⟩ = some (.int .i64 x.2) ∧ Hid (Kept w wx))
  case first =>
    go_region_with (go_at_call 14; refine (choose_any at_ m _ (unhide HA) hm0 (by omega)).mono ?_; rw [unhide HJ]; rintro e w' ⟨rfl, rfl⟩)
    all_goals go_wp2_with fail
    all_goals go_meet
    all_goals (refine ⟨w1.heap.size, rfl, cell_lays (t := 24) (fr := (0, 0)) (c := #[.int .i64 x.1, .int .i64 x.2]) ?_ 0, cell_lays (t := 24) (fr := (0, 0)) (c := #[.int .i64 x.1, .int .i64 x.2]) ?_ 1, ?_⟩)
    all_goals first | exact lays_drew (lays_new rfl) | exact hide ((H1.out.alloc _).drew)
  case rest =>
    obtain ⟨B, rfl, e0, e1, HB⟩ := hcut
    clear d2 d3 d4 d2' d3' d4'
    go_wp2_with fail
    have hef := effect_any p (.slice (some ⟨b, o, none⟩) p.length cap) x.1 x.2 _ ((unhide HP).kept HB.out) ((unhide HK).kept HB.out)
    rw [unhide HE] at hef
    refine hef.mono ?_
    rintro e w3 ⟨rfl, hk3⟩
    have f0 := hk3.cell e0
    have f1 := hk3.cell e1
    have H3 : Hid (Kept w w3) := HB.out.trans hk3
    clear hef hk3 e0 e1
    have HB := hide (opBegun_any w3 ((unhide HK).kept H3.out))
    rcases unhide HM with ⟨h11, j', hj', hlt, hc⟩ | ⟨hne, rfl⟩
    · have f2 := H3.out.cell hc
      rw [h11] at f0
      rw [hj'] at f1
      clear h11 hj' hc HM HE HX0 HX1
      go_wp2_with fail
      refine (unhide HB).mono ?_
      rintro e w4 ⟨rfl, hk4⟩
      have H4 : Hid (Kept w w4) := H3.out.trans hk4
      clear hk4 HB
      go_wp2
      go_ret
      exact ⟨by simp, H4⟩
    · have hn : (x.1 == 11) = false := beq_eq_false_iff_ne.2 hne
      clear hne HM
      go_wp2_with fail
      refine (unhide HB).mono ?_
      rintro e w4 ⟨rfl, hk4⟩
      have H4 : Hid (Kept w w4) := H3.out.trans hk4
      clear hk4 HB
      go_wp2
      go_ret
      exact ⟨by simp, H4⟩

theorem opTrue_walk (p : List Fn) (v : Value) (f at_ : Int) (w : World) (hp : ProgAt w v p) (_hf : (Lit.int .i64 f).wf = true) (hat : (Lit.int .i64 at_).wf = true) (hk : KindsAt w) :
    Calls Tryd.prog 5 #[v, .int .i64 f, .int .i64 at_] w fun e w' => e = .returned (.bool true) ∧ Kept w w' := by
  by_cases hz : chkS p f = 0
  · obtain ⟨i, rfl, hi, hm, hr, hops⟩ := chkS_zero hz
    obtain ⟨oa, cap, rfl, hl, hcell⟩ := id hp
    obtain ⟨b, o, cv, rfl, c0, c1, c2, hc⟩ := hcell i _ (getD_of_lt p i Fn.zero hi)
    generalize p.getD i Fn.zero = g at *
    obtain ⟨oc, cc, rfl, _, hcode⟩ := hc
    by_cases hm0 : g.code.length = 0
    · rw [hm0] at c2
      exact opTrue_empty p i b o cap at_ oc cc w hp hk hz hi c2
    · have hj := chooseS_lt at_ (n := g.code.length) (by omega)
      obtain ⟨x, hx⟩ : ∃ x, g.code[chooseS at_ g.code.length]? = some x := ⟨_, List.getElem?_eq_getElem hj⟩
      obtain ⟨b', o', rfl, x0, x1⟩ := hcode _ x hx
      have hop := opsS_all hops x (List.mem_of_getElem? hx)
      by_cases hk11 : x.1 = 11
      · obtain ⟨h1, h2, h3, h4⟩ := effS_call hop hk11
        obtain ⟨j, hj'⟩ := Int.eq_ofNat_of_zero_le h1
        rw [hj', Int.toNat_natCast] at h3
        rw [hj', Int.toNat_natCast, ← hj'] at h4
        obtain ⟨b2, o2, cv2, e2, d0, _⟩ := hcell j _ (getD_of_lt p j Fn.zero (by omega))
        obtain ⟨rfl, rfl⟩ := (by simpa using e2 : b = b2 ∧ o = o2)
        exact opTrue_op p i b o cap at_ b' o' g.code.length cc x _ _ _ w hp hk hz hi c2 hat (by omega) hm x0 x1 h4 (.inl ⟨hk11, j, hj', by omega, d0⟩) h3 (Int.le_refl _) (by decide) (by decide)
      · obtain ⟨ta, lb, h1, h2, h3, h4, h5⟩ := effS_plain hop hk11
        exact opTrue_op p i b o cap at_ b' o' g.code.length cc x _ _ 2 w hp hk hz hi c2 hat (by omega) hm x0 x1 h1 (.inr ⟨hk11, rfl⟩) h2 h3 h4 h5
  · exact opTrue_bad p v f at_ w hp hk (by rw [bne_iff_ne]; exact hz)

set_option maxRecDepth 100000 in
theorem opTrue_contract (H : Type) (enc : TypeId × Value → H) (W : World) (base : Nat) (args : Array Value) (ds gs : List (DataW H)) (before : List MemPlace)
    (hval : ∀ (j : Nat) t v, Tryd.f5.params[j]? = some t → args[j]? = some v → Value.okWide Tryd.prog W .any base t v)
    (hW : DataW.Whole enc Tryd.prog Tryd.f5.params.toList Rows.opTrueSpec.vars false W args.toList ds gs before)
    (hsz : (DataW.weightsEach Tryd.prog (Tryd.f5.params.toList ++ (OpenSpec.ofChange Rows.opTrueSpec).bare.plain.varTypes Tryd.prog) (ds ++ gs)).all (· ≤ reachBytes) = true)
    (hL : laidMetH Tryd.prog Rows.opTrueRow.laid W) :
    Calls Tryd.prog 5 args W fun e W' => ∃ v, e = .returned v ∧ Rows.opTrueSpec.post enc Tryd.prog Tryd.f5 false true false false W args v W' := by
  have hW' := hW
  obtain ⟨p, q, hA0, hV, rfl, hfz, hnd⟩ := hW
  have hA : DataW.TrodAll enc Tryd.prog W 0 (fun _ => true) true Tryd.f5.params.toList args.toList ds p := hA0
  have hlt : ∀ x ∈ p, x.block < W.heap.size := fun x hx => by simpa using hW'.lt x (by simp [hx])
  have hA1 := hA
  rw [Tryd.params5] at hA hval hsz
  obtain ⟨v0, vs0, d0, ds0, p0, q0, hargs, rfl, rfl, h0, r0⟩ := trodAll_cons hA
  obtain ⟨v1, vs1, d1, ds1, p1, q1, rfl, rfl, rfl, h1, r1⟩ := trodAll_cons r0
  obtain ⟨v2, vs2, d2, ds2, p2, q2, rfl, rfl, rfl, h2, r2⟩ := trodAll_cons r1
  obtain ⟨rfl, rfl, rfl⟩ := trodAll_nil r2
  obtain rfl : args = #[v0, v1, v2] := by cases args; simp_all
  obtain ⟨rfl, rfl⟩ := trodVars_none hV
  obtain ⟨pl0, hpl0⟩ : ∃ pl, ProgAt W v0 pl := by
    obtain ⟨oa, len, cap, rfl⟩ := okWide_slice Tryd.underlying22 (hval 0 22 v0 rfl rfl)
    obtain ⟨fuel, hf⟩ := h0
    exact open_prog hf (fun n hn => of_decide_eq_true (List.all_eq_true.1 hsz n (DataW.weights_mem_each (j := 0) rfl rfl n hn)))
  obtain ⟨n1, rfl, rfl, rfl, wn1⟩ := open_int Tryd.underlying3 (hval 1 3 v1 rfl rfl) h1
  obtain ⟨n2, rfl, rfl, rfl, wn2⟩ := open_int Tryd.underlying3 (hval 2 3 v2 rfl rfl) h2
  refine (opTrue_walk pl0 v0 n1 n2 W hpl0 wn1 wn2 (kinds_of_laid hL)).mono fun e W' ⟨he, hg⟩ => ?_
  subst he
  refine ⟨_, rfl, _, _, _, [], _, [], hW', trodAll_mk1 (shut_bool Tryd.underlying4 _), trodAll_below hg ?_ hA1 hlt, rfl, hg.frame _, fun h => by cases h⟩
  intro t ht
  rw [Tryd.params5] at ht
  simp only [List.mem_cons, List.not_mem_nil, or_false] at ht
  rcases ht with rfl | rfl | rfl
  · exact ⟨by kernel_rfl, of_decide_eq_true (by kernel_rfl)⟩
  · exact ⟨by kernel_rfl, of_decide_eq_true (by kernel_rfl)⟩
  · exact ⟨by kernel_rfl, of_decide_eq_true (by kernel_rfl)⟩

set_option maxRecDepth 100000 in
theorem opTrue_laid_met (os : Os) : laidMet Tryd.prog Rows.opTrueRow.laid ((({ World.holding Tryd.prog os ⟨#[], #[], []⟩ with heap := (World.holding Tryd.prog os ⟨#[], #[], []⟩).heap.modify 0 fun | .cells _ t frozen => .cells #[.int .i64 0, .int .i64 1, .int .i64 1, .int .i64 1, .int .i64 0, .int .i64 0, .int .i64 0, .int .i64 1, .int .i64 2, .int .i64 1, .int .i64 0, .int .i64 2, .int .i64 2, .int .i64 1, .int .i64 0, .int .i64 2, .int .i64 1, .int .i64 0, .int .i64 2, .int .i64 1, .int .i64 0, .int .i64 2, .int .i64 1, .int .i64 0, .int .i64 2, .int .i64 1, .int .i64 0, .int .i64 0, .int .i64 0, .int .i64 3, .int .i64 1, .int .i64 0, .int .i64 3, .int .i64 0, .int .i64 1, .int .i64 4, .int .i64 1, .int .i64 0, .int .i64 0, .int .i64 0, .int .i64 1, .int .i64 4, .int .i64 2, .int .i64 1, .int .i64 0, .int .i64 1, .int .i64 1, .int .i64 0, .int .i64 1, .int .i64 0, .int .i64 0] t frozen | o => o } : World)).forCall (fun _ _ => 0) ⟨#[], #[.slice none 0 0, .int .i64 0, .int .i64 0], []⟩).memory :=
  laidMet_of_run' 8 (by kernel_rfl) (by kernel_rfl)
set_option maxRecDepth 100000 in
theorem opTrue_reads (os : Os) {H : Type} (enc : TypeId × Value → H) : ∃ places, DataW.whole enc Tryd.prog ((({ World.holding Tryd.prog os ⟨#[], #[], []⟩ with heap := (World.holding Tryd.prog os ⟨#[], #[], []⟩).heap.modify 0 fun | .cells _ t frozen => .cells #[.int .i64 0, .int .i64 1, .int .i64 1, .int .i64 1, .int .i64 0, .int .i64 0, .int .i64 0, .int .i64 1, .int .i64 2, .int .i64 1, .int .i64 0, .int .i64 2, .int .i64 2, .int .i64 1, .int .i64 0, .int .i64 2, .int .i64 1, .int .i64 0, .int .i64 2, .int .i64 1, .int .i64 0, .int .i64 2, .int .i64 1, .int .i64 0, .int .i64 2, .int .i64 1, .int .i64 0, .int .i64 0, .int .i64 0, .int .i64 3, .int .i64 1, .int .i64 0, .int .i64 3, .int .i64 0, .int .i64 1, .int .i64 4, .int .i64 1, .int .i64 0, .int .i64 0, .int .i64 0, .int .i64 1, .int .i64 4, .int .i64 2, .int .i64 1, .int .i64 0, .int .i64 1, .int .i64 1, .int .i64 0, .int .i64 1, .int .i64 0, .int .i64 0] t frozen | o => o } : World)).forCall (fun _ _ => 0) ⟨#[], #[.slice none 0 0, .int .i64 0, .int .i64 0], []⟩).memory Tryd.f5.params.toList Rows.opTrueSpec.vars false (#[.slice none 0 0, .int .i64 0, .int .i64 0] : Array Value).toList 8 = some ([.nil, .lit (.int .i64 0), .lit (.int .i64 0)], [], places) :=
  ⟨[], by kernel_rfl⟩

set_option maxRecDepth 100000 in
theorem opTrue_lifted (os : Os) (started : os.Started) (H : Type) (enc : TypeId × Value → H) (F : Stop.Interp) :
    ReturnsInHanded {} Tryd.checked os 5 .any ((OpenSpec.ofChange Rows.opTrueSpec).preRow enc Tryd.prog Tryd.f5 Rows.opTrueRow.domain false Rows.opTrueRow.laid) (((OpenSpec.ofChange Rows.opTrueSpec).at F).post enc Tryd.prog Tryd.f5 false true false false) := by
  obtain ⟨places, hx⟩ := opTrue_reads os enc
  refine returnsInHanded_of_row (C := Tryd.checked) (s := OpenSpec.ofChange Rows.opTrueSpec) own started (by kernel_rfl) Tryd.func5
    (witness_row_at (enc := enc) (C := Tryd.checked) false ({ World.holding Tryd.prog os ⟨#[], #[], []⟩ with heap := (World.holding Tryd.prog os ⟨#[], #[], []⟩).heap.modify 0 fun | .cells _ t frozen => .cells #[.int .i64 0, .int .i64 1, .int .i64 1, .int .i64 1, .int .i64 0, .int .i64 0, .int .i64 0, .int .i64 1, .int .i64 2, .int .i64 1, .int .i64 0, .int .i64 2, .int .i64 2, .int .i64 1, .int .i64 0, .int .i64 2, .int .i64 1, .int .i64 0, .int .i64 2, .int .i64 1, .int .i64 0, .int .i64 2, .int .i64 1, .int .i64 0, .int .i64 2, .int .i64 1, .int .i64 0, .int .i64 0, .int .i64 0, .int .i64 3, .int .i64 1, .int .i64 0, .int .i64 3, .int .i64 0, .int .i64 1, .int .i64 4, .int .i64 1, .int .i64 0, .int .i64 0, .int .i64 0, .int .i64 1, .int .i64 4, .int .i64 2, .int .i64 1, .int .i64 0, .int .i64 1, .int .i64 1, .int .i64 0, .int .i64 1, .int .i64 0, .int .i64 0] t frozen | o => o } : World) #[.slice none 0 0, .int .i64 0, .int .i64 0] rfl (by kernel_rfl) (by kernel_rfl) (by kernel_rfl)
      (OpenSpec.preRow_of_cond 8 hx (by kernel_rfl) (fun k hk => by cases hk) (by kernel_rfl) (opTrue_laid_met os))) ?_
  intro W base args ds gs before hval hW _ _ hsz hL _ _
  exact opTrue_contract H enc W base args ds gs before hval hW hsz hL

set_option maxRecDepth 100000 in
theorem opTrue_said : Rows.OpTrueSaid :=
  OpenClaim.holds_of_cond 5 Tryd.f5 rfl rfl rfl rfl rfl rfl rfl ⟨rfl, rfl, rfl, rfl, rfl⟩ rfl rfl rfl rfl rfl (by kernel_rfl) Tryd.func5 (by kernel_rfl)
    (of_decide_eq_true (by kernel_rfl)) (by unfold Func.isWrapper; first | (rw [if_pos (by decide +kernel)]; kernel_rfl) | (rw [if_neg (by decide +kernel)]; exact ⟨rfl, rfl⟩))
    (fun os started H enc _ F => by rw [OpenClaim.pre_eq_preRow]; exact opTrue_lifted os started H enc F)

set_option maxRecDepth 100000 in
theorem opTrue_plain (f : FuncId) (fn : Func) (hf : Tryd.pinned.checked.prog.funcNamed "glebe/glebelaw.OpTrue" = some f) (hfn : Tryd.pinned.checked.prog.funcs[f]? = some fn) :
    false = Tryd.pinned.checked.prog.looks [] ∧ ∀ (j : Nat) t, fn.params[j]? = some t → Tryd.pinned.checked.prog.wantsStandIn t = false := by
  obtain rfl : f = 5 := Option.some.inj ((show Tryd.prog.funcNamed "glebe/glebelaw.OpTrue" = some 5 by kernel_rfl).symm.trans hf) |>.symm
  obtain rfl : fn = Tryd.f5 := (Option.some.inj (Tryd.func5.symm.trans hfn)).symm
  refine ⟨by kernel_rfl, fun j t ht => ?_⟩
  rw [Tryd.params5] at ht
  have hm := Array.mem_of_getElem? ht
  simp only [List.mem_toArray, List.mem_cons, List.not_mem_nil, or_false] at hm
  rcases hm with rfl | rfl | rfl
  · exact (show Tryd.prog.wantsStandIn 22 = false by kernel_rfl)
  · exact (show Tryd.prog.wantsStandIn 3 = false by kernel_rfl)
  · exact (show Tryd.prog.wantsStandIn 3 = false by kernel_rfl)

set_option maxRecDepth 100000 in
/-- The card. -/
theorem opTrue_card : Rows.OpTrueCardSaid :=
  Claim7.holds_tied_plain_at .later [] _ _ _ _ opTrue_said (fun _ h => by cases h) (by kernel_rfl) (fun _ h => by cases h) opTrue_row_tie rfl ⟨rfl, rfl⟩ (by kernel_rfl) rfl opTrue_plain (by kernel_rfl)
end Go.Proofs.YtkepbeeioalmbaaDoor

