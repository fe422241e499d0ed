/-
  Proved: whatever program and number it is handed, the statement TrimTrue (D2, without the document's answer: one comes to all that is left, and all of it stands as high as it did; trimmed once more it is the same; no more is left than there was) returns true, and its arguments read afterwards as they read before. Conditions: the variable op.kinds starts as the program's text lays it (the card ties it); nothing else beyond the form's own.
-/
import Derived.Test.YtkepbeeioalmbabDoorCards
import Derived.Test.YtkepbeeioalmbabDoorTie
import Derived.Test.YtkepbeeioalmbabDoorOpen
import Derived.Test.YtkepbeeioalmbabDoorChoose
import Derived.Test.YtkepbeeioalmbabDoorTrimH
import Derived.Test.YtkepbeeioalmbabDoorTrimGp
import Derived.Test.YtkepbeeioalmbabDoorSame
import Derived.Test.YtkepbeeioalmbabDoorFlowI
import Derived.Deep.DeepHandedRow
namespace Go.Proofs.YtkepbeeioalmbabDoor
open Go.RowKit Go.ChangeShapes Go.WideShapes Go.ChangeAt

theorem intsAt_row {w : World} {base : Nat} {v : Value} {n : Nat} {l : List Int} (h : w.ownsRow base 3 1 v n (l.map fun z => Value.int .i64 z)) (hn : n = l.length) (hl : l.length ≤ 8796093022208) : IntsAt w v l := by
  subst hn
  obtain ⟨hlen, ⟨rfl, h0⟩ | ⟨g, cap, cur, rfl, hb, hh, _, _, hs, ht⟩⟩ := h
  · have : l = [] := List.length_eq_zero_iff.1 h0
    subst this
    exact IntsAt.nil _
  · refine ⟨_, cap, rfl, hl, fun i z hz => ⟨g, 0, rfl, ?_⟩⟩
    have hi := (List.getElem?_eq_some_iff.1 hz).1
    have f1 : (l.map fun z => Value.int .i64 z)[i]? = some (.int .i64 z) := by simp [hz]
    rw [← ht, List.getElem?_take, if_pos (by omega)] at f1
    rw [cell_lays hh]
    simpa using f1

theorem hgtS_all {p : List Fn} (h : progS p = 0) {k : Nat} (hk : k < p.length) : hgtS p k = (hgtL p k, 0) := by
  obtain ⟨_, _, hck⟩ := progS_right h
  have hz : (hgtS p k).2 = 0 := by
    rw [hgtS_E (hck k hk)]
    unfold hgtE
    rw [progS_heights h hk]
  obtain ⟨i, hi, _, _, hg⟩ := hgtS_right hz
  obtain rfl : k = i := by omega
  exact hg

set_option maxHeartbeats 4000000 in
set_option maxRecDepth 100000 in
theorem trimTrue_bad (p : List Fn) (v : Value) (f : Int) (w : World) (hp : ProgAt w v p) (hk : KindsAt w) (hz : progS p ≠ 0) :
    Calls Tryd.prog 6 #[v, .int .i64 f] w fun e w' => e = .returned (.bool true) ∧ Kept w w' := by
  obtain ⟨oa, cap, rfl, _, _⟩ := id hp
  have hz' : (progS p != 0) = true := by rw [bne_iff_ne]; exact hz
  have hta := trimAll_any p _ w hp hk
  unfold TaPost at hta
  generalize progS p = r at *
  have HTA := hide hta
  have HK := hide hk
  clear hp hk hz hta
  go_enter Tryd.func6, Tryd.ntmps6
  go_wp2_with fail
  refine (unhide HTA).mono ?_
  rintro e w1 ⟨v1, rfl, _, hk1⟩
  have H1 := hide hk1
  clear hk1 HTA
  go_wp2_with fail
  refine (trimBegun_any _ ((unhide HK).kept (unhide H1))).mono ?_
  rintro e w2 ⟨rfl, hk2⟩
  have H2 := hide ((unhide H1).trans hk2)
  clear hk2
  go_wp2
  go_ret
  exact ⟨rfl, unhide H2⟩

set_option maxHeartbeats 4000000 in
set_option maxRecDepth 100000 in
theorem trimTrue_go (p : List Fn) (b o n cap : Nat) (f : Int) (w : World) (hn : n = p.length) (hp : ProgAt w (.slice (some ⟨b, o, none⟩) n cap) p) (hf : (Lit.int .i64 f).wf = true) (hk : KindsAt w) (hz : progS p = 0) :
    Calls Tryd.prog 6 #[.slice (some ⟨b, o, none⟩) n cap, .int .i64 f] w fun e w' => e = .returned (.bool true) ∧ Kept w w' := by
  obtain ⟨hn5, hn0, hright⟩ := progS_right hz
  obtain ⟨hqz, hqh⟩ := trim_right hz
  have hqa := trim_again hz
  have hql : (trimP p).length = n := by simp [trimP, hn]
  have hta := trimAll_any p _ w hp hk
  unfold TaPost at hta
  rw [hz, show taS p = trimP p by unfold taS; rw [if_pos hz]] at hta
  have hca := fun u => choose_any f n u hf (by omega) (by omega)
  have hi : chooseS f n < n := chooseS_lt f (by omega)
  generalize chooseS f n = k at *
  have hn5n : n ≤ 5 := by omega
  have h0' : ((n : Int) == 0) = false := by rw [beq_eq_false_iff_ne]; omega
  have hnn : ((n : Int) != (n : Int)) = false := by simp
  have hhp := hgtS_all hz (k := k) (by omega)
  have hhq : hgtS (trimP p) k = (leftC (hgtL p k), 0) := by
    rw [hgtS_all hqz (k := k) (by omega)]
    unfold hgtL at *
    rw [hqh k (by omega)]
    rfl
  have hgq : (trimP p).getD k Fn.zero = trimF p k := trimP_get (by omega)
  obtain ⟨i', hi0, _, hm24, _, hops⟩ := chkS_zero (hright k (by omega))
  obtain rfl : k = i' := by omega
  obtain ⟨hcons, _⟩ := heightsS_ok (p := p) (c := codeOf p k) ⟨p.getD k Fn.zero, rfl, opsS_all hops⟩ (progS_heights hz (by omega))
  have hHl : (hgtL p k).length ≤ 24 := by rw [hcons.len]; exact hm24
  have hH0 : 0 < (hgtL p k).length := by rw [hcons.len]; exact hcons.pos
  have hcl : (trimF p k).code.length = (leftC (hgtL p k)).length := by rw [leftC_len]; exact trimC_len _ _
  have hfa : (trimF p k).args = (p.getD k Fn.zero).args := rfl
  have hfl : (trimF p k).locals = (p.getD k Fn.zero).locals := rfl
  obtain ⟨i0, hi0', hz0, hz1, hz2⟩ := info_parts infoInt
  have HTA := hide hta
  have HN := hide hn
  have HP := hide hp
  have HK := hide hk
  have HQZ := hide hqz
  have HQA := hide hqa
  have HQL := hide hql
  have HCA := hide hca
  have HHP := hide hhp
  have HHQ := hide hhq
  have HGQ := hide hgq
  have HCL := hide hcl
  have HFA := hide hfa
  have HFL := hide hfl
  clear hn hp hf hk hz hright hqz hqh hqa hql hta hca hhp hhq hgq hcl hfa hfl hcons hops hm24 hi0 hn0 hn5
  go_enter Tryd.func6, Tryd.ntmps6
  go_wp2_with fail
  refine (unhide HTA).mono ?_
  rintro e w1 ⟨q1, rfl, hq1, hk1⟩
  obtain ⟨oq, cq, he, _, hqi⟩ := id hq1
  rw [unhide HQL] at he
  subst he
  obtain ⟨bq, oq', cvq, rfl, _, _, _, _⟩ := hqi k _ (getD_of_lt _ k Fn.zero (by rw [unhide HQL]; exact hi))
  have H1 := hide hk1
  have HQ1 := hide hq1
  clear hk1 hq1 HTA hqi
  go_wp2_with fail
  have hta2 := trimAll_any (trimP p) _ w1 (unhide HQ1) ((unhide HK).kept (unhide H1))
  unfold TaPost at hta2
  rw [unhide HQZ, show taS (trimP p) = trimP (trimP p) by unfold taS; rw [if_pos (unhide HQZ)], unhide HQA] at hta2
  refine hta2.mono ?_
  clear hta2
  rintro e w2 ⟨q2, rfl, hq2, hk2⟩
  have H2 := hide ((unhide H1).trans hk2)
  have HQ2 := hide ((unhide HQ1).kept hk2)
  have HA2 := hide hq2
  clear hk2 hq2 HQ1 H1
  go_wp2_with fail
  refine (progCheck_is (trimP p) _ 0 _ (unhide HQ2) ((unhide HK).kept (unhide H2)) (unhide HQZ)).mono ?_
  rintro e w3 ⟨rfl, hk3⟩
  have H3 := hide ((unhide H2).trans hk3)
  have HQ3 := hide ((unhide HQ2).kept hk3)
  have HA3 := hide ((unhide HA2).kept hk3)
  clear hk3 HQ2 HA2 H2
  go_wp2_with fail
  refine (sameProgs_same _ _ _ _ (unhide HA3) (unhide HQ3)).mono ?_
  rintro e w4 ⟨rfl, hk4⟩
  have H4 := hide ((unhide H3).trans hk4)
  have HQ4 := hide ((unhide HQ3).kept hk4)
  clear hk4 HQ3 HA3 H3
  go_wp2_with fail
  refine ((unhide HCA) _).mono ?_
  rintro e w' ⟨rfl, rfl⟩
  go_wp2_with fail
  have hh1 := heights_any p (.slice (some ⟨b, o, none⟩) n cap) k w4 ((unhide HP).kept (unhide H4)) ((unhide HK).kept (unhide H4))
  unfold HgtPost at hh1
  rw [unhide HHP] at hh1
  refine hh1.mono ?_
  clear hh1
  rintro e w5 ⟨u5, rfl, hu5, hk5⟩
  have H5 := hide ((unhide H4).trans hk5)
  have HQ5 := hide ((unhide HQ4).kept hk5)
  have HU5 := hide hu5
  clear hk5 HQ4 H4 hu5
  go_wp2_with fail
  have hh2 := heights_any (trimP p) (.slice (some ⟨bq, oq', none⟩) n cq) k w5 (unhide HQ5) ((unhide HK).kept (unhide H5))
  unfold HgtPost at hh2
  rw [unhide HHQ] at hh2
  refine hh2.mono ?_
  clear hh2
  rintro e w6 ⟨u6, rfl, hu6, hk6⟩
  have H6 := hide ((unhide H5).trans hk6)
  have HQ6 := hide ((unhide HQ5).kept hk6)
  have hu5 := (unhide HU5).kept hk6
  obtain ⟨b5, o5, c5, he5, hc5⟩ := hu5.opened hH0
  subst he5
  obtain ⟨o6, c6, he6, _, _⟩ := id hu6
  subst he6
  have HC5 := hide hc5
  have HU6 := hide hu6
  clear hk6 HQ5 H5 hu6 hu5 HU5 hc5
  generalize hHH : hgtL p k = H at *
  generalize hm : H.length = m at *
  have HM := hide hm
  clear hm hHH
  go_wp2
  go_loopw [14, 15] (fun s14 s15 wr => ∃ j : Nat, j ≤ m ∧ s15 = .int .i64 j ∧ Hid (wr.ownsRow w6.heap.size 3 1 s14 (placeS H j) ((pick H (fun k => H.getD k 0) j).map fun z => Value.int .i64 z)) ∧ Hid (Kept w6 wr)) (fun _ s15 _ => m - (intOf s15).toNat)
  case atStart => exact ⟨0, Nat.zero_le _, rfl, World.ownsRow_nil _ _ _ _, Kept.refl _⟩
  case round =>
    obtain ⟨j, hjm, rfl, HOW, HKr⟩ := hrel
    by_cases hlt : j < m
    · have hcj := (unhide HKr).cell ((unhide HC5) j hlt)
      have hple := placeS_le H j
      by_cases hs : 0 ≤ H.getD j 0
      · have hp1 : placeS H (j + 1) = placeS H j + 1 := placeS_succ hs
        have hp2 : (pick H (fun k => H.getD k 0) (j + 1)).map (fun z => Value.int .i64 z) = (pick H (fun k => H.getD k 0) j).map (fun z => Value.int .i64 z) ++ [.int .i64 (H.getD j 0)] := by
          conv => lhs; unfold pick
          rw [if_pos hs, List.map_append]; rfl
        have HP1 := hide hp1
        have HP2 := hide hp2
        have hown := unhide HOW
        have hb6 := (unhide HKr).size
        clear hp1 hp2
        generalize H.getD j 0 = z at *
        go_wp2_with (at_builtin; refine wpList_append_own _ rfl _ _ 46 rfl w6.heap.size 3 i0 (.int .i64 0) 1 8 Tryd.underlying46 hi0' hz0 hz1 hz2 rfl (by decide) _ _ _ rfl (hown.alloc _) ⟨wr.heap.size, 0, none⟩ 1 1 [.int .i64 z] rfl rfl (one_new _ _) (one_int _) (by unfold maxLen; omega) (by omega) (by simp; omega) ?_; intro v' w7 hown' hgrow _)
        have HO7 := hide hown'
        have HK7 := hide (Below.grown ((unhide HKr).alloc _) hgrow (by simp; omega) (trow_block hown))
        clear hown' hgrow hown
        go_roundw
        case rel => exact ⟨j + 1, by omega, by go_num, by rw [unhide HP1, unhide HP2]; exact HO7, HK7⟩
        case measure => simp [intOf]; omega
      · have hp1 : placeS H (j + 1) = placeS H j := by
          conv => lhs; unfold placeS
          rw [if_neg hs]
        have hp2 : pick H (fun k => H.getD k 0) (j + 1) = pick H (fun k => H.getD k 0) j := by
          conv => lhs; unfold pick
          rw [if_neg hs]
        have HP1 := hide hp1
        have HP2 := hide hp2
        clear hp1 hp2
        generalize H.getD j 0 = z at *
        go_wp2
        go_roundw
        case rel => exact ⟨j + 1, by omega, by go_num, by rw [unhide HP1, unhide HP2]; exact HOW, HKr⟩
        case measure => simp [intOf]; omega
    · have hjm' : j = H.length := by have := unhide HM; omega
      have hO := unhide HOW
      rw [hjm'] at hO
      have hle := placeS_le H H.length
      have hil := intsAt_row (l := leftC H) hO (leftC_len H).symm (by rw [leftC_len]; have := unhide HM; omega)
      have hkw := (unhide H6).trans (unhide HKr)
      obtain ⟨oa', cap', he', _, hpi⟩ := id (unhide HP)
      obtain ⟨b', o', cv', rfl, p0, p1, p2, _⟩ := hpi k _ (getD_of_lt p k Fn.zero (by have := unhide HN; omega))
      obtain ⟨⟨rfl, rfl⟩, -, -⟩ := (by simpa using he' : (b = b' ∧ o = o') ∧ n = p.length ∧ cap = cap')
      obtain ⟨oa2, cap2, he2, _, hqi⟩ := id (unhide HQ6)
      obtain ⟨b2, o2, cv2, rfl, q0, q1, q2, hqc⟩ := hqi k _ (getD_of_lt (trimP p) k Fn.zero (by rw [unhide HQL]; exact hi))
      obtain ⟨⟨rfl, rfl⟩, -, -⟩ := (by simpa using he2 : (bq = b2 ∧ oq' = o2) ∧ n = (trimP p).length ∧ cq = cap2)
      rw [unhide HGQ] at q0 q1 hqc
      obtain ⟨oc2, cc2, he3, _, _⟩ := hqc
      subst he3
      rw [unhide HCL] at q2
      rw [unhide HFA] at q0
      rw [unhide HFL] at q1
      have p0' := hkw.cell p0
      have p1' := hkw.cell p1
      have q0' := (unhide HKr).cell q0
      have q1' := (unhide HKr).cell q1
      have q2' := (unhide HKr).cell q2
      generalize (p.getD k Fn.zero).args = ar at *
      generalize (p.getD k Fn.zero).locals = lo at *
      obtain ⟨ol, cl, hel, _, _⟩ := id hil
      subst hel
      generalize hlm : (leftC H).length = lm at *
      have HIL := hide hil
      have HU7 := hide ((unhide HU6).kept (unhide HKr))
      have HK7 := hide ((unhide HK).kept hkw)
      have HY : Hid (∀ u, Kept wr u → u.cell? ⟨bq, oq' + k * 3, none⟩ = some (.int .i64 ar) ∧ u.cell? ⟨bq, oq' + k * 3 + 1, none⟩ = some (.int .i64 lo) ∧ u.cell? ⟨bq, oq' + k * 3 + 2, none⟩ = some (.slice oc2 lm cc2) ∧ u.cell? ⟨b, o + k * 3, none⟩ = some (.int .i64 ar) ∧ u.cell? ⟨b, o + k * 3 + 1, none⟩ = some (.int .i64 lo)) :=
        hide (fun u hu => ⟨hu.cell q0', hu.cell q1', hu.cell q2', hu.cell p0', hu.cell p1'⟩)
      have HKW := hide hkw
      have hk0 : (0 : Int) ≤ (k : Int) := by omega
      have hk1 : (k : Int) < (n : Int) := by omega
      clear hO hle hil hkw he' hpi he2 hqi p0 p1 p2 q0 q1 q2 hjm' HOW HC5 HHP HHQ HCA HGQ HCL HFA HFL HQA HQZ
      go_wp2_with fail
      go_cut [4] (fun s4 wx => s4 = .bool true ∧ Hid (Kept wr wx))
      case first =>
        go_region_held3 (fun u => u.cell? ⟨bq, oq' + k * 3, none⟩ = some (.int .i64 ar) ∧ u.cell? ⟨bq, oq' + k * 3 + 1, none⟩ = some (.int .i64 lo) ∧ u.cell? ⟨bq, oq' + k * 3 + 2, none⟩ = some (.slice oc2 lm cc2) ∧ u.cell? ⟨b, o + k * 3, none⟩ = some (.int .i64 ar) ∧ u.cell? ⟨b, o + k * 3 + 1, none⟩ = some (.int .i64 lo))
          (first | exact (unhide HY) _ (Kept.trans (Kept.trans (by repeat (first | exact Kept.refl _ | refine Kept.drew ?_ | refine Kept.alloc ?_ _)) hkA) (Kept.trans (by repeat (first | exact Kept.refl _ | refine Kept.drew ?_ | refine Kept.alloc ?_ _)) hkB)) | exact (unhide HY) _ (Kept.trans (Kept.trans (by repeat (first | exact Kept.refl _ | refine Kept.drew ?_ | refine Kept.alloc ?_ _)) hkA) (by repeat (first | exact Kept.refl _ | refine Kept.drew ?_ | refine Kept.alloc ?_ _))) | exact (unhide HY) _ (by repeat (first | exact Kept.refl _ | refine Kept.drew ?_ | refine Kept.alloc ?_ _)))
          (first | (go_at_call 19; refine (trimBegun_any _ ((unhide HK7).kept (by repeat (first | exact Kept.refl _ | refine Kept.drew ?_ | refine Kept.alloc ?_ _)))).mono ?_; rintro e wA ⟨rfl, hkA⟩) | (go_at_call 23; refine (sameInts_any (leftC H) (leftC H) _ _ _ ((unhide HIL).kept (Kept.trans (Kept.trans (by repeat (first | exact Kept.refl _ | refine Kept.drew ?_ | refine Kept.alloc ?_ _)) hkA) (by repeat (first | exact Kept.refl _ | refine Kept.drew ?_ | refine Kept.alloc ?_ _)))) ((unhide HU7).kept (Kept.trans (Kept.trans (by repeat (first | exact Kept.refl _ | refine Kept.drew ?_ | refine Kept.alloc ?_ _)) hkA) (by repeat (first | exact Kept.refl _ | refine Kept.drew ?_ | refine Kept.alloc ?_ _))))).mono ?_; rw [decide_eq_true rfl]; rintro e wB ⟨rfl, hkB⟩))
        all_goals go_wp2_with fail
        all_goals go_meet
        all_goals exact ⟨by simp, hide (Kept.trans (Kept.trans (by repeat (first | exact Kept.refl _ | refine Kept.drew ?_ | refine Kept.alloc ?_ _)) hkA) (Kept.trans (by repeat (first | exact Kept.refl _ | refine Kept.drew ?_ | refine Kept.alloc ?_ _)) hkB))⟩
      case rest =>
        obtain ⟨rfl, HKx⟩ := hcut
        go_wp2
        go_ret
        exact ⟨rfl, (unhide HKW).trans (unhide HKx)⟩

theorem trimTrue_walk (p : List Fn) (v : Value) (f : Int) (w : World) (hp : ProgAt w v p) (hf : (Lit.int .i64 f).wf = true) (hk : KindsAt w) :
    Calls Tryd.prog 6 #[v, .int .i64 f] w fun e w' => e = .returned (.bool true) ∧ Kept w w' := by
  by_cases hz : progS p = 0
  · obtain ⟨_, hn0, _⟩ := progS_right hz
    obtain ⟨oa, cap, rfl, hl, hcell⟩ := id hp
    obtain ⟨b', o, cv, rfl, c0, c1, c2, hc⟩ := hcell 0 _ (getD_of_lt p 0 Fn.zero hn0)
    exact trimTrue_go p b' o _ cap f w rfl hp hf hk hz
  · exact trimTrue_bad p v f w hp hk hz

set_option maxRecDepth 100000 in
theorem trimTrue_contract (H : Type) (enc : TypeId × Value → H) (W : World) (base : Nat) (args : Array Value) (ds gs : List (DataW H)) (before : List MemPlace)
    (hval : ∀ (j : Nat) t v, Tryd.f6.params[j]? = some t → args[j]? = some v → Value.okWide Tryd.prog W .any base t v)
    (hW : DataW.Whole enc Tryd.prog Tryd.f6.params.toList Rows.trimTrueSpec.vars false W args.toList ds gs before)
    (hsz : (DataW.weightsEach Tryd.prog (Tryd.f6.params.toList ++ (OpenSpec.ofChange Rows.trimTrueSpec).bare.plain.varTypes Tryd.prog) (ds ++ gs)).all (· ≤ reachBytes) = true)
    (hL : laidMetH Tryd.prog Rows.trimTrueRow.laid W) :
    Calls Tryd.prog 6 args W fun e W' => ∃ v, e = .returned v ∧ Rows.trimTrueSpec.post enc Tryd.prog Tryd.f6 false true false false W args v W' := by
  have hW' := hW
  obtain ⟨p, q, hA0, hV, rfl, hfz, hnd⟩ := hW
  have hA : DataW.TrodAll enc Tryd.prog W 0 (fun _ => true) true Tryd.f6.params.toList args.toList ds p := hA0
  have hlt : ∀ x ∈ p, x.block < W.heap.size := fun x hx => by simpa using hW'.lt x (by simp [hx])
  have hA1 := hA
  rw [Tryd.params6] at hA hval hsz
  obtain ⟨v0, vs0, d0, ds0, p0, q0, hargs, rfl, rfl, h0, r0⟩ := trodAll_cons hA
  obtain ⟨v1, vs1, d1, ds1, p1, q1, rfl, rfl, rfl, h1, r1⟩ := trodAll_cons r0
  obtain ⟨rfl, rfl, rfl⟩ := trodAll_nil r1
  obtain rfl : args = #[v0, v1] := by cases args; simp_all
  obtain ⟨rfl, rfl⟩ := trodVars_none hV
  obtain ⟨pl0, hpl0⟩ : ∃ pl, ProgAt W v0 pl := by
    obtain ⟨oa, len, cap, rfl⟩ := okWide_slice Tryd.underlying22 (hval 0 22 v0 rfl rfl)
    obtain ⟨fuel, hf⟩ := h0
    exact open_prog hf (fun n hn => of_decide_eq_true (List.all_eq_true.1 hsz n (DataW.weights_mem_each (j := 0) rfl rfl n hn)))
  obtain ⟨n1, rfl, rfl, rfl, wn1⟩ := open_int Tryd.underlying3 (hval 1 3 v1 rfl rfl) h1
  refine (trimTrue_walk pl0 v0 n1 W hpl0 wn1 (kinds_of_laid hL)).mono fun e W' ⟨he, hg⟩ => ?_
  subst he
  refine ⟨_, rfl, _, _, _, [], _, [], hW', trodAll_mk1 (shut_bool Tryd.underlying4 _), trodAll_below hg ?_ hA1 hlt, rfl, hg.frame _, fun h => by cases h⟩
  intro t ht
  rw [Tryd.params6] at ht
  simp only [List.mem_cons, List.not_mem_nil, or_false] at ht
  rcases ht with rfl | rfl
  · exact ⟨by kernel_rfl, of_decide_eq_true (by kernel_rfl)⟩
  · exact ⟨by kernel_rfl, of_decide_eq_true (by kernel_rfl)⟩

set_option maxRecDepth 100000 in
theorem trimTrue_laid_met (os : Os) : laidMet Tryd.prog Rows.trimTrueRow.laid ((({ World.holding Tryd.prog os ⟨#[], #[], []⟩ with heap := (World.holding Tryd.prog os ⟨#[], #[], []⟩).heap.modify 0 fun | .cells _ t frozen => .cells #[.int .i64 0, .int .i64 1, .int .i64 1, .int .i64 1, .int .i64 0, .int .i64 0, .int .i64 0, .int .i64 1, .int .i64 2, .int .i64 1, .int .i64 0, .int .i64 2, .int .i64 2, .int .i64 1, .int .i64 0, .int .i64 2, .int .i64 1, .int .i64 0, .int .i64 2, .int .i64 1, .int .i64 0, .int .i64 2, .int .i64 1, .int .i64 0, .int .i64 2, .int .i64 1, .int .i64 0, .int .i64 0, .int .i64 0, .int .i64 3, .int .i64 1, .int .i64 0, .int .i64 3, .int .i64 0, .int .i64 1, .int .i64 4, .int .i64 1, .int .i64 0, .int .i64 0, .int .i64 0, .int .i64 1, .int .i64 4, .int .i64 2, .int .i64 1, .int .i64 0, .int .i64 1, .int .i64 1, .int .i64 0, .int .i64 1, .int .i64 0, .int .i64 0] t frozen | o => o } : World)).forCall (fun _ _ => 0) ⟨#[], #[.slice none 0 0, .int .i64 0], []⟩).memory :=
  laidMet_of_run' 8 (by kernel_rfl) (by kernel_rfl)
set_option maxRecDepth 100000 in
theorem trimTrue_reads (os : Os) {H : Type} (enc : TypeId × Value → H) : ∃ places, DataW.whole enc Tryd.prog ((({ World.holding Tryd.prog os ⟨#[], #[], []⟩ with heap := (World.holding Tryd.prog os ⟨#[], #[], []⟩).heap.modify 0 fun | .cells _ t frozen => .cells #[.int .i64 0, .int .i64 1, .int .i64 1, .int .i64 1, .int .i64 0, .int .i64 0, .int .i64 0, .int .i64 1, .int .i64 2, .int .i64 1, .int .i64 0, .int .i64 2, .int .i64 2, .int .i64 1, .int .i64 0, .int .i64 2, .int .i64 1, .int .i64 0, .int .i64 2, .int .i64 1, .int .i64 0, .int .i64 2, .int .i64 1, .int .i64 0, .int .i64 2, .int .i64 1, .int .i64 0, .int .i64 0, .int .i64 0, .int .i64 3, .int .i64 1, .int .i64 0, .int .i64 3, .int .i64 0, .int .i64 1, .int .i64 4, .int .i64 1, .int .i64 0, .int .i64 0, .int .i64 0, .int .i64 1, .int .i64 4, .int .i64 2, .int .i64 1, .int .i64 0, .int .i64 1, .int .i64 1, .int .i64 0, .int .i64 1, .int .i64 0, .int .i64 0] t frozen | o => o } : World)).forCall (fun _ _ => 0) ⟨#[], #[.slice none 0 0, .int .i64 0], []⟩).memory Tryd.f6.params.toList Rows.trimTrueSpec.vars false (#[.slice none 0 0, .int .i64 0] : Array Value).toList 8 = some ([.nil, .lit (.int .i64 0)], [], places) :=
  ⟨[], by kernel_rfl⟩

set_option maxRecDepth 100000 in
theorem trimTrue_lifted (os : Os) (started : os.Started) (H : Type) (enc : TypeId × Value → H) (F : Stop.Interp) :
    ReturnsInHanded {} Tryd.checked os 6 .any ((OpenSpec.ofChange Rows.trimTrueSpec).preRow enc Tryd.prog Tryd.f6 Rows.trimTrueRow.domain false Rows.trimTrueRow.laid) (((OpenSpec.ofChange Rows.trimTrueSpec).at F).post enc Tryd.prog Tryd.f6 false true false false) := by
  obtain ⟨places, hx⟩ := trimTrue_reads os enc
  refine returnsInHanded_of_row (C := Tryd.checked) (s := OpenSpec.ofChange Rows.trimTrueSpec) own started (by kernel_rfl) Tryd.func6
    (witness_row_at (enc := enc) (C := Tryd.checked) false ({ World.holding Tryd.prog os ⟨#[], #[], []⟩ with heap := (World.holding Tryd.prog os ⟨#[], #[], []⟩).heap.modify 0 fun | .cells _ t frozen => .cells #[.int .i64 0, .int .i64 1, .int .i64 1, .int .i64 1, .int .i64 0, .int .i64 0, .int .i64 0, .int .i64 1, .int .i64 2, .int .i64 1, .int .i64 0, .int .i64 2, .int .i64 2, .int .i64 1, .int .i64 0, .int .i64 2, .int .i64 1, .int .i64 0, .int .i64 2, .int .i64 1, .int .i64 0, .int .i64 2, .int .i64 1, .int .i64 0, .int .i64 2, .int .i64 1, .int .i64 0, .int .i64 0, .int .i64 0, .int .i64 3, .int .i64 1, .int .i64 0, .int .i64 3, .int .i64 0, .int .i64 1, .int .i64 4, .int .i64 1, .int .i64 0, .int .i64 0, .int .i64 0, .int .i64 1, .int .i64 4, .int .i64 2, .int .i64 1, .int .i64 0, .int .i64 1, .int .i64 1, .int .i64 0, .int .i64 1, .int .i64 0, .int .i64 0] t frozen | o => o } : World) #[.slice none 0 0, .int .i64 0] rfl (by kernel_rfl) (by kernel_rfl) (by kernel_rfl)
      (OpenSpec.preRow_of_cond 8 hx (by kernel_rfl) (fun k hk => by cases hk) (by kernel_rfl) (trimTrue_laid_met os))) ?_
  intro W base args ds gs before hval hW _ _ hsz hL _ _
  exact trimTrue_contract H enc W base args ds gs before hval hW hsz hL

set_option maxRecDepth 100000 in
theorem trimTrue_said : Rows.TrimTrueSaid :=
  OpenClaim.holds_of_cond 6 Tryd.f6 rfl rfl rfl rfl rfl rfl rfl ⟨rfl, rfl, rfl, rfl, rfl⟩ rfl rfl rfl rfl rfl (by kernel_rfl) Tryd.func6 (by kernel_rfl)
    (of_decide_eq_true (by kernel_rfl)) (by unfold Func.isWrapper; first | (rw [if_pos (by decide +kernel)]; kernel_rfl) | (rw [if_neg (by decide +kernel)]; exact ⟨rfl, rfl⟩))
    (fun os started H enc _ F => by rw [OpenClaim.pre_eq_preRow]; exact trimTrue_lifted os started H enc F)

set_option maxRecDepth 100000 in
theorem trimTrue_plain (f : FuncId) (fn : Func) (hf : Tryd.pinned.checked.prog.funcNamed "glebe/glebelaw.TrimTrue" = some f) (hfn : Tryd.pinned.checked.prog.funcs[f]? = some fn) :
    false = Tryd.pinned.checked.prog.looks [] ∧ ∀ (j : Nat) t, fn.params[j]? = some t → Tryd.pinned.checked.prog.wantsStandIn t = false := by
  obtain rfl : f = 6 := Option.some.inj ((show Tryd.prog.funcNamed "glebe/glebelaw.TrimTrue" = some 6 by kernel_rfl).symm.trans hf) |>.symm
  obtain rfl : fn = Tryd.f6 := (Option.some.inj (Tryd.func6.symm.trans hfn)).symm
  refine ⟨by kernel_rfl, fun j t ht => ?_⟩
  rw [Tryd.params6] at ht
  have hm := Array.mem_of_getElem? ht
  simp only [List.mem_toArray, List.mem_cons, List.not_mem_nil, or_false] at hm
  rcases hm with rfl | rfl
  · exact (show Tryd.prog.wantsStandIn 22 = false by kernel_rfl)
  · exact (show Tryd.prog.wantsStandIn 3 = false by kernel_rfl)

set_option maxRecDepth 100000 in
/-- The card. -/
theorem trimTrue_card : Rows.TrimTrueCardSaid :=
  Claim7.holds_tied_plain_at .later [] _ _ _ _ trimTrue_said (fun _ h => by cases h) (by kernel_rfl) (fun _ h => by cases h) trimTrue_row_tie rfl ⟨rfl, rfl⟩ (by kernel_rfl) rfl trimTrue_plain (by kernel_rfl)
end Go.Proofs.YtkepbeeioalmbabDoor

