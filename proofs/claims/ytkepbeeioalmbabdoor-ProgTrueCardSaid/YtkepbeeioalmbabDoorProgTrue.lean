/-
  Proved: whatever program and numbers it is handed, the statement ProgTrue (B2, without the document's answer: who is called calls no more than who calls him; each calls itself; whoever an op names is called) returns true, and its arguments read afterwards as they read before. Conditions: the variable op.kinds starts as the program's text lays it (the card ties it); nothing else beyond the form's own.
-/
import Derived.Test.YtkepbeeioalmbabDoorCards
import Derived.Test.YtkepbeeioalmbabDoorTie
import Derived.Test.YtkepbeeioalmbabDoorOpen
import Derived.Test.YtkepbeeioalmbabDoorChoose
import Derived.Test.YtkepbeeioalmbabDoorProgF
import Derived.Deep.DeepHandedRow
namespace Go.Proofs.YtkepbeeioalmbabDoor
open Go.RowKit Go.ChangeShapes Go.WideShapes Go.ChangeAt

theorem BoolsAt.opened {w : World} {v : Value} {l : List Bool} (h : BoolsAt w v l) (h0 : 0 < l.length) : ∃ b o cap, v = .slice (some ⟨b, o, none⟩) l.length cap ∧ ∀ j, j < l.length → w.cell? ⟨b, o + j, none⟩ = some (.bool (l.getD j false)) := by
  obtain ⟨oa, cap, rfl, _, hi⟩ := h
  obtain ⟨b, o, rfl, _⟩ := hi 0 _ (getD_of_lt l 0 false h0)
  refine ⟨b, o, cap, rfl, fun j hj => ?_⟩
  obtain ⟨b', o', e, hc⟩ := hi j _ (getD_of_lt l j false hj)
  obtain ⟨rfl, rfl⟩ := (by simpa using e : b = b' ∧ o = o')
  exact hc

/-- Who is called calls no more than who calls him. -/
theorem calls_less {p : List Fn} (hp : Named p) {i k : Nat} (hi : i < p.length) (hk : k < p.length) (h : (callsS p i).getD k false = true) {n : Nat} (hn : (callsS p k).getD n false = true) : (callsS p i).getD n false = true := by
  obtain ⟨_, _, c, _⟩ := callsS_ok hp hi
  obtain ⟨_, _, _, s⟩ := callsS_ok hp hk
  exact s n hn (fun j => (callsS p i).getD j false = true) h (fun k j h1 h2 h3 => c k j h1 h2 h3)
theorem calls_named {p : List Fn} (hr : ∀ k, k < p.length → chkS p k = 0) {i : Nat} (hi : i < p.length) {x : Int × Int} (hx : x ∈ codeOf p i) (hn : namesB x = true) : (callsS p i).getD x.2.toNat false = true := by
  obtain ⟨_, a, c, _⟩ := callsS_ok (right_named hr) hi
  refine c i _ hi a ?_
  simp only [targets, List.mem_map, List.mem_filter]
  exact ⟨x, ⟨hx, hn⟩, rfl⟩

set_option maxHeartbeats 4000000 in
theorem progTrue_bad (p : List Fn) (v : Value) (a b : Int) (w : World) (hp : ProgAt w v p) (hk : KindsAt w) (hz : progS p ≠ 0) :
    Calls Tryd.prog 4 #[v, .int .i64 a, .int .i64 b] w fun e w' => e = .returned (.bool true) ∧ Kept w w' := by
  obtain ⟨oa, cap, rfl, _, _⟩ := id hp
  have hz' : (progS p != 0) = true := by rw [bne_iff_ne]; exact hz
  have hck := progCheck_any p _ w hp hk
  have HCK := hide hck
  have HK := hide hk
  clear hp hk hz hck
  go_enter Tryd.func4, Tryd.ntmps4
  go_wp2_with fail
  refine (unhide HCK).mono ?_
  rintro e w1 ⟨rfl, hk1⟩
  have H1 := hide hk1
  clear hk1 HCK
  generalize progS p = r at *
  go_wp2_with fail
  refine (progBegun_any _ ((unhide HK).kept (unhide H1))).mono ?_
  rintro e w2 ⟨rfl, hk2⟩
  have H2 := hide ((unhide H1).trans hk2)
  clear hk2
  go_wp2
  go_ret
  exact ⟨rfl, unhide H2⟩

set_option maxHeartbeats 8000000 in
set_option maxRecDepth 100000 in
theorem progTrue_go (p : List Fn) (bp op n cap : Nat) (a b : Int) (w : World) (hn : n = p.length) (hp : ProgAt w (.slice (some ⟨bp, op, none⟩) n cap) p) (ha : (Lit.int .i64 a).wf = true) (hb : (Lit.int .i64 b).wf = true) (hk : KindsAt w) (hz : progS p = 0) :
    Calls Tryd.prog 4 #[.slice (some ⟨bp, op, none⟩) n cap, .int .i64 a, .int .i64 b] w fun e w' => e = .returned (.bool true) ∧ Kept w w' := by
  obtain ⟨hn5, hn0, hright⟩ := progS_right hz
  have hnm := right_named hright
  have h0' : ((n : Int) == 0) = false := by rw [beq_eq_false_iff_ne]; omega
  have hca := fun u => choose_any a n u ha (by omega) (by omega)
  have hcb := fun u => choose_any b n u hb (by omega) (by omega)
  have hi : chooseS a n < n := chooseS_lt a (by omega)
  have hj : chooseS b n < n := chooseS_lt b (by omega)
  generalize chooseS a n = i at *
  generalize chooseS b n = k at *
  have heq : ∀ t : Nat, t < n → callE p t = 0 ∧ callB p t = callsS p t := fun t ht => by
    have he : callE p t = 0 := by unfold callE; rw [if_pos hz, if_pos (by rw [ixB_iff]; omega)]
    exact ⟨he, by unfold callB; rw [he, if_pos rfl, Int.toNat_natCast]⟩
  have hck := progCheck_is p _ 0 w hp hk hz
  obtain ⟨oc, m, cc, c2, hc, hml, hm24⟩ : ∃ oc m cc, w.cell? ⟨bp, op + i * 3 + 2, none⟩ = some (.slice oc m cc) ∧ CodeAt w (.slice oc m cc) (codeOf p i) ∧ m = (codeOf p i).length ∧ m ≤ 24 := by
    obtain ⟨oa, cap', he, _, hcell⟩ := id hp
    obtain ⟨b', o', cv, rfl, c0, c1, c2, hc⟩ := hcell i _ (getD_of_lt p i Fn.zero (by omega))
    obtain ⟨he1, -, -⟩ := (by simpa using he : (bp = b' ∧ op = o') ∧ n = p.length ∧ cap = cap')
    obtain ⟨rfl, rfl⟩ := he1
    obtain ⟨oc, cc, rfl, _, _⟩ := id hc
    exact ⟨oc, _, cc, c2, hc, rfl, (chkS_ops (hright i (by omega))).2.1⟩
  have hn5n : n ≤ 5 := by omega
  have HN := hide hn
  have HP := hide hp
  have HK := hide hk
  have HR := hide hright
  have HNM := hide hnm
  have HCA := hide hca
  have HCB := hide hcb
  have HEQ := hide heq
  have HCK := hide hck
  have C2 := hide c2
  have HC := hide hc
  have HML := hide hml
  clear hn hp ha hb hk hz hright hnm hca hcb heq hck c2 hc hml hn0
  go_enter Tryd.func4, Tryd.ntmps4
  go_wp2_with fail
  refine (unhide HCK).mono ?_
  rintro e w1 ⟨rfl, hk1⟩
  have H1 := hide hk1
  clear hk1 HCK
  go_wp2_with fail
  refine ((unhide HCA) _).mono ?_
  rintro e w' ⟨rfl, rfl⟩
  go_wp2_with fail
  refine ((unhide HCB) _).mono ?_
  rintro e w' ⟨rfl, rfl⟩
  go_wp2_with fail
  refine (calls_is p _ i (callsS p i) 0 _ ((unhide HP).kept (unhide H1)) ((unhide HK).kept (unhide H1)) ((unhide HEQ) i hi).1 ((unhide HEQ) i hi).2).mono ?_
  rintro e w2 ⟨u2, rfl, hu2, hk2⟩
  have H2 := hide ((unhide H1).trans hk2)
  clear hk2
  obtain ⟨hXl, hXi, _, _⟩ := callsS_ok (unhide HNM) (f := i) (by have := unhide HN; omega)
  obtain ⟨hYl, _, _, _⟩ := callsS_ok (unhide HNM) (f := k) (by have := unhide HN; omega)
  have hless : (callsS p i).getD k false = true → ∀ t, (callsS p k).getD t false = true → (callsS p i).getD t false = true := fun h t ht => calls_less (unhide HNM) (by have := unhide HN; omega) (by have := unhide HN; omega) h ht
  have hnamed : ∀ x, x ∈ codeOf p i → namesB x = true → (callsS p i).getD x.2.toNat false = true := fun x hx hnx => calls_named (unhide HR) (by have := unhide HN; omega) hx hnx
  have hin : ∀ x, x ∈ codeOf p i → namesB x = true → 0 ≤ x.2 ∧ x.2 < p.length := fun x hx hnx => named_in (unhide HR) (by have := unhide HN; omega) hx hnx
  have HX2 := hide hu2
  clear hu2
  go_wp2_with fail
  refine (calls_is p _ k (callsS p k) 0 _ ((unhide HP).kept (unhide H2)) ((unhide HK).kept (unhide H2)) ((unhide HEQ) k hj).1 ((unhide HEQ) k hj).2).mono ?_
  rintro e w3 ⟨u3, rfl, hu3, hk3⟩
  have H3 := hide ((unhide H2).trans hk3)
  have hu2 := (unhide HX2).kept hk3
  clear hk3 HX2 H2
  rw [← unhide HN] at hXl hYl hin
  generalize callsS p i = X at *
  generalize callsS p k = Y at *
  obtain ⟨bx, ox, cx, rfl, hxc⟩ := hu2.opened (by omega)
  obtain ⟨by_, oy, cy, rfl, hyc⟩ := hu3.opened (by omega)
  rw [hXl] at hxc ⊢
  rw [hYl] at hyc ⊢
  have xi := hxc i hi
  rw [hXi] at xi
  have HXC := hide hxc
  have HYC := hide hyc
  have HLE := hide hless
  have HNA := hide hnamed
  have HIN := hide hin
  clear hxc hyc hless hnamed hin hu2 hu3 hXl hYl hXi HCA HCB HEQ H1
  go_wp2
  go_loopw [13] (fun s wr => ∃ j : Nat, j ≤ n ∧ s = .int .i64 j ∧ Hid (Kept w3 wr)) (fun s _ => n - (intOf s).toNat)
  case atStart => exact ⟨0, Nat.zero_le _, rfl, Kept.refl _⟩
  case round =>
    obtain ⟨j, hjn, rfl, HKr⟩ := hrel
    clear xi
    have xk := (unhide HKr).cell ((unhide HXC) k hj)
    cases hxk : X.getD k false with
    | true =>
      rw [hxk] at xk
      by_cases hlt : j < n
      · have xj := (unhide HKr).cell ((unhide HXC) j hlt)
        have yj := (unhide HKr).cell ((unhide HYC) j hlt)
        cases hy : Y.getD j false with
        | true =>
          rw [hy] at yj
          rw [(unhide HLE) hxk j hy] at xj
          clear hxk hy
          go_wp2
          go_roundw
          case rel => exact ⟨j + 1, by omega, by go_num, HKr⟩
          case measure => simp [intOf]; omega
        | false =>
          rw [hy] at yj
          clear hxk hy xj
          go_wp2
          go_roundw
          case rel => exact ⟨j + 1, by omega, by go_num, HKr⟩
          case measure => simp [intOf]; omega
      · clear hxk
        go_wp2
        go_loopw [14] (fun s wq => ∃ j : Nat, j ≤ m ∧ s = .int .i64 j ∧ Hid (Kept w3 wq)) (fun s _ => m - (intOf s).toNat)
        case atStart => exact ⟨0, Nat.zero_le _, rfl, HKr⟩
        case round =>
          obtain ⟨j2, hjm, rfl, HKq⟩ := hrel
          have d2 := ((unhide H3).trans (unhide HKq)).cell (unhide C2)
          by_cases hlj : j2 < m
          · obtain ⟨⟨kd, a2⟩, hx⟩ : ∃ x, (codeOf p i)[j2]? = some x := ⟨_, List.getElem?_eq_getElem (by rw [← unhide HML]; exact hlj)⟩
            obtain ⟨oa', cap', he, _, hcell⟩ := (unhide HC).kept ((unhide H3).trans (unhide HKq))
            obtain ⟨b', o', rfl, x0, x1⟩ := hcell j2 _ hx
            obtain ⟨rfl, -, -⟩ := (by simpa using he : oc = some ⟨b', o', none⟩ ∧ m = (codeOf p i).length ∧ cc = cap')
            have hmem := List.mem_of_getElem? hx
            clear he hcell hx
            by_cases hnb : namesB (kd, a2) = true
            · obtain ⟨hn0, hn1⟩ := (unhide HIN) _ hmem hnb
              have hxt := (unhide HNA) _ hmem hnb
              obtain ⟨t, rfl⟩ := Int.eq_ofNat_of_zero_le hn0
              simp only [Int.toNat_natCast] at hxt
              have htn : t < n := by simp only at hn1; omega
              have xt := ((unhide HKq).alloc (.cells #[.int .i64 kd, .int .i64 t] 38)).cell ((unhide HXC) t htn)
              rw [hxt] at xt
              have hkd : kd = 11 ∨ kd = 13 := by simpa [namesB] using hnb
              have HKA := hide ((unhide HKq).alloc (.cells #[.int .i64 kd, .int .i64 t] 38))
              clear hnb hn0 hn1 hxt hmem
              rcases hkd with rfl | rfl
              all_goals go_wp2
              all_goals go_roundw
              case rel => exact ⟨j2 + 1, by omega, by go_num, HKA⟩
              case measure => simp [intOf]; omega
              case rel => exact ⟨j2 + 1, by omega, by go_num, HKA⟩
              case measure => simp [intOf]; omega
            · have h11 : (kd == 11) = false := by rw [beq_eq_false_iff_ne]; intro e; exact hnb (by simp [namesB, e])
              have h13 : (kd == 13) = false := by rw [beq_eq_false_iff_ne]; intro e; exact hnb (by simp [namesB, e])
              have HKA := hide ((unhide HKq).alloc (.cells #[.int .i64 kd, .int .i64 a2] 38))
              clear hnb hmem
              go_wp2
              go_roundw
              case rel => exact ⟨j2 + 1, by omega, by go_num, HKA⟩
              case measure => simp [intOf]; omega
          · go_wp2_with fail
            refine (progBegun_any _ ((unhide HK).kept ((unhide H3).trans (unhide HKq)))).mono ?_
            rintro e w5 ⟨rfl, hk5⟩
            have H5 := hide (((unhide H3).trans (unhide HKq)).trans hk5)
            clear hk5
            go_wp2
            go_ret
            exact ⟨rfl, unhide H5⟩
    | false =>
      rw [hxk] at xk
      clear hxk
      by_cases hlt : j < n
      · go_wp2
        go_loopw [14] (fun s wq => ∃ j : Nat, j ≤ m ∧ s = .int .i64 j ∧ Hid (Kept w3 wq)) (fun s _ => m - (intOf s).toNat)
        case atStart => exact ⟨0, Nat.zero_le _, rfl, HKr⟩
        case round =>
          obtain ⟨j2, hjm, rfl, HKq⟩ := hrel
          have d2 := ((unhide H3).trans (unhide HKq)).cell (unhide C2)
          by_cases hlj : j2 < m
          · obtain ⟨⟨kd, a2⟩, hx⟩ : ∃ x, (codeOf p i)[j2]? = some x := ⟨_, List.getElem?_eq_getElem (by rw [← unhide HML]; exact hlj)⟩
            obtain ⟨oa', cap', he, _, hcell⟩ := (unhide HC).kept ((unhide H3).trans (unhide HKq))
            obtain ⟨b', o', rfl, x0, x1⟩ := hcell j2 _ hx
            obtain ⟨rfl, -, -⟩ := (by simpa using he : oc = some ⟨b', o', none⟩ ∧ m = (codeOf p i).length ∧ cc = cap')
            have hmem := List.mem_of_getElem? hx
            clear he hcell hx
            by_cases hnb : namesB (kd, a2) = true
            · obtain ⟨hn0, hn1⟩ := (unhide HIN) _ hmem hnb
              have hxt := (unhide HNA) _ hmem hnb
              obtain ⟨t, rfl⟩ := Int.eq_ofNat_of_zero_le hn0
              simp only [Int.toNat_natCast] at hxt
              have htn : t < n := by simp only at hn1; omega
              have xt := ((unhide HKq).alloc (.cells #[.int .i64 kd, .int .i64 t] 38)).cell ((unhide HXC) t htn)
              rw [hxt] at xt
              have hkd : kd = 11 ∨ kd = 13 := by simpa [namesB] using hnb
              have HKA := hide ((unhide HKq).alloc (.cells #[.int .i64 kd, .int .i64 t] 38))
              clear hnb hn0 hn1 hxt hmem
              rcases hkd with rfl | rfl
              all_goals go_wp2
              all_goals go_roundw
              case rel => exact ⟨j2 + 1, by omega, by go_num, HKA⟩
              case measure => simp [intOf]; omega
              case rel => exact ⟨j2 + 1, by omega, by go_num, HKA⟩
              case measure => simp [intOf]; omega
            · have h11 : (kd == 11) = false := by rw [beq_eq_false_iff_ne]; intro e; exact hnb (by simp [namesB, e])
              have h13 : (kd == 13) = false := by rw [beq_eq_false_iff_ne]; intro e; exact hnb (by simp [namesB, e])
              have HKA := hide ((unhide HKq).alloc (.cells #[.int .i64 kd, .int .i64 a2] 38))
              clear hnb hmem
              go_wp2
              go_roundw
              case rel => exact ⟨j2 + 1, by omega, by go_num, HKA⟩
              case measure => simp [intOf]; omega
          · go_wp2_with fail
            refine (progBegun_any _ ((unhide HK).kept ((unhide H3).trans (unhide HKq)))).mono ?_
            rintro e w5 ⟨rfl, hk5⟩
            have H5 := hide (((unhide H3).trans (unhide HKq)).trans hk5)
            clear hk5
            go_wp2
            go_ret
            exact ⟨rfl, unhide H5⟩
      · go_wp2
        go_loopw [14] (fun s wq => ∃ j : Nat, j ≤ m ∧ s = .int .i64 j ∧ Hid (Kept w3 wq)) (fun s _ => m - (intOf s).toNat)
        case atStart => exact ⟨0, Nat.zero_le _, rfl, HKr⟩
        case round =>
          obtain ⟨j2, hjm, rfl, HKq⟩ := hrel
          have d2 := ((unhide H3).trans (unhide HKq)).cell (unhide C2)
          by_cases hlj : j2 < m
          · obtain ⟨⟨kd, a2⟩, hx⟩ : ∃ x, (codeOf p i)[j2]? = some x := ⟨_, List.getElem?_eq_getElem (by rw [← unhide HML]; exact hlj)⟩
            obtain ⟨oa', cap', he, _, hcell⟩ := (unhide HC).kept ((unhide H3).trans (unhide HKq))
            obtain ⟨b', o', rfl, x0, x1⟩ := hcell j2 _ hx
            obtain ⟨rfl, -, -⟩ := (by simpa using he : oc = some ⟨b', o', none⟩ ∧ m = (codeOf p i).length ∧ cc = cap')
            have hmem := List.mem_of_getElem? hx
            clear he hcell hx
            by_cases hnb : namesB (kd, a2) = true
            · obtain ⟨hn0, hn1⟩ := (unhide HIN) _ hmem hnb
              have hxt := (unhide HNA) _ hmem hnb
              obtain ⟨t, rfl⟩ := Int.eq_ofNat_of_zero_le hn0
              simp only [Int.toNat_natCast] at hxt
              have htn : t < n := by simp only at hn1; omega
              have xt := ((unhide HKq).alloc (.cells #[.int .i64 kd, .int .i64 t] 38)).cell ((unhide HXC) t htn)
              rw [hxt] at xt
              have hkd : kd = 11 ∨ kd = 13 := by simpa [namesB] using hnb
              have HKA := hide ((unhide HKq).alloc (.cells #[.int .i64 kd, .int .i64 t] 38))
              clear hnb hn0 hn1 hxt hmem
              rcases hkd with rfl | rfl
              all_goals go_wp2
              all_goals go_roundw
              case rel => exact ⟨j2 + 1, by omega, by go_num, HKA⟩
              case measure => simp [intOf]; omega
              case rel => exact ⟨j2 + 1, by omega, by go_num, HKA⟩
              case measure => simp [intOf]; omega
            · have h11 : (kd == 11) = false := by rw [beq_eq_false_iff_ne]; intro e; exact hnb (by simp [namesB, e])
              have h13 : (kd == 13) = false := by rw [beq_eq_false_iff_ne]; intro e; exact hnb (by simp [namesB, e])
              have HKA := hide ((unhide HKq).alloc (.cells #[.int .i64 kd, .int .i64 a2] 38))
              clear hnb hmem
              go_wp2
              go_roundw
              case rel => exact ⟨j2 + 1, by omega, by go_num, HKA⟩
              case measure => simp [intOf]; omega
          · go_wp2_with fail
            refine (progBegun_any _ ((unhide HK).kept ((unhide H3).trans (unhide HKq)))).mono ?_
            rintro e w5 ⟨rfl, hk5⟩
            have H5 := hide (((unhide H3).trans (unhide HKq)).trans hk5)
            clear hk5
            go_wp2
            go_ret
            exact ⟨rfl, unhide H5⟩

theorem progTrue_walk (p : List Fn) (v : Value) (a b : Int) (w : World) (hp : ProgAt w v p) (ha : (Lit.int .i64 a).wf = true) (hb : (Lit.int .i64 b).wf = true) (hk : KindsAt w) :
    Calls Tryd.prog 4 #[v, .int .i64 a, .int .i64 b] w fun e w' => e = .returned (.bool true) ∧ Kept w w' := by
  by_cases hz : progS p = 0
  · obtain ⟨_, hn0, _⟩ := progS_right hz
    obtain ⟨oa, cap, rfl, hl, hcell⟩ := id hp
    obtain ⟨b', o, cv, rfl, c0, c1, c2, hc⟩ := hcell 0 _ (getD_of_lt p 0 Fn.zero hn0)
    exact progTrue_go p b' o _ cap a b w rfl hp ha hb hk hz
  · exact progTrue_bad p v a b w hp hk hz

set_option maxRecDepth 100000 in
theorem progTrue_contract (H : Type) (enc : TypeId × Value → H) (W : World) (base : Nat) (args : Array Value) (ds gs : List (DataW H)) (before : List MemPlace)
    (hval : ∀ (j : Nat) t v, Tryd.f4.params[j]? = some t → args[j]? = some v → Value.okWide Tryd.prog W .any base t v)
    (hW : DataW.Whole enc Tryd.prog Tryd.f4.params.toList Rows.progTrueSpec.vars false W args.toList ds gs before)
    (hsz : (DataW.weightsEach Tryd.prog (Tryd.f4.params.toList ++ (OpenSpec.ofChange Rows.progTrueSpec).bare.plain.varTypes Tryd.prog) (ds ++ gs)).all (· ≤ reachBytes) = true)
    (hL : laidMetH Tryd.prog Rows.progTrueRow.laid W) :
    Calls Tryd.prog 4 args W fun e W' => ∃ v, e = .returned v ∧ Rows.progTrueSpec.post enc Tryd.prog Tryd.f4 false true false false W args v W' := by
  have hW' := hW
  obtain ⟨p, q, hA0, hV, rfl, hfz, hnd⟩ := hW
  have hA : DataW.TrodAll enc Tryd.prog W 0 (fun _ => true) true Tryd.f4.params.toList args.toList ds p := hA0
  have hlt : ∀ x ∈ p, x.block < W.heap.size := fun x hx => by simpa using hW'.lt x (by simp [hx])
  have hA1 := hA
  rw [Tryd.params4] at hA hval hsz
  obtain ⟨v0, vs0, d0, ds0, p0, q0, hargs, rfl, rfl, h0, r0⟩ := trodAll_cons hA
  obtain ⟨v1, vs1, d1, ds1, p1, q1, rfl, rfl, rfl, h1, r1⟩ := trodAll_cons r0
  obtain ⟨v2, vs2, d2, ds2, p2, q2, rfl, rfl, rfl, h2, r2⟩ := trodAll_cons r1
  obtain ⟨rfl, rfl, rfl⟩ := trodAll_nil r2
  obtain rfl : args = #[v0, v1, v2] := by cases args; simp_all
  obtain ⟨rfl, rfl⟩ := trodVars_none hV
  obtain ⟨pl0, hpl0⟩ : ∃ pl, ProgAt W v0 pl := by
    obtain ⟨oa, len, cap, rfl⟩ := okWide_slice Tryd.underlying22 (hval 0 22 v0 rfl rfl)
    obtain ⟨fuel, hf⟩ := h0
    exact open_prog hf (fun n hn => of_decide_eq_true (List.all_eq_true.1 hsz n (DataW.weights_mem_each (j := 0) rfl rfl n hn)))
  obtain ⟨n1, rfl, rfl, rfl, wn1⟩ := open_int Tryd.underlying3 (hval 1 3 v1 rfl rfl) h1
  obtain ⟨n2, rfl, rfl, rfl, wn2⟩ := open_int Tryd.underlying3 (hval 2 3 v2 rfl rfl) h2
  refine (progTrue_walk pl0 v0 n1 n2 W hpl0 wn1 wn2 (kinds_of_laid hL)).mono fun e W' ⟨he, hg⟩ => ?_
  subst he
  refine ⟨_, rfl, _, _, _, [], _, [], hW', trodAll_mk1 (shut_bool Tryd.underlying4 _), trodAll_below hg ?_ hA1 hlt, rfl, hg.frame _, fun h => by cases h⟩
  intro t ht
  rw [Tryd.params4] at ht
  simp only [List.mem_cons, List.not_mem_nil, or_false] at ht
  rcases ht with rfl | rfl | rfl
  · exact ⟨by kernel_rfl, of_decide_eq_true (by kernel_rfl)⟩
  · exact ⟨by kernel_rfl, of_decide_eq_true (by kernel_rfl)⟩
  · exact ⟨by kernel_rfl, of_decide_eq_true (by kernel_rfl)⟩

set_option maxRecDepth 100000 in
theorem progTrue_laid_met (os : Os) : laidMet Tryd.prog Rows.progTrueRow.laid ((({ World.holding Tryd.prog os ⟨#[], #[], []⟩ with heap := (World.holding Tryd.prog os ⟨#[], #[], []⟩).heap.modify 0 fun | .cells _ t frozen => .cells #[.int .i64 0, .int .i64 1, .int .i64 1, .int .i64 1, .int .i64 0, .int .i64 0, .int .i64 0, .int .i64 1, .int .i64 2, .int .i64 1, .int .i64 0, .int .i64 2, .int .i64 2, .int .i64 1, .int .i64 0, .int .i64 2, .int .i64 1, .int .i64 0, .int .i64 2, .int .i64 1, .int .i64 0, .int .i64 2, .int .i64 1, .int .i64 0, .int .i64 2, .int .i64 1, .int .i64 0, .int .i64 0, .int .i64 0, .int .i64 3, .int .i64 1, .int .i64 0, .int .i64 3, .int .i64 0, .int .i64 1, .int .i64 4, .int .i64 1, .int .i64 0, .int .i64 0, .int .i64 0, .int .i64 1, .int .i64 4, .int .i64 2, .int .i64 1, .int .i64 0, .int .i64 1, .int .i64 1, .int .i64 0, .int .i64 1, .int .i64 0, .int .i64 0] t frozen | o => o } : World)).forCall (fun _ _ => 0) ⟨#[], #[.slice none 0 0, .int .i64 0, .int .i64 0], []⟩).memory :=
  laidMet_of_run' 8 (by kernel_rfl) (by kernel_rfl)
set_option maxRecDepth 100000 in
theorem progTrue_reads (os : Os) {H : Type} (enc : TypeId × Value → H) : ∃ places, DataW.whole enc Tryd.prog ((({ World.holding Tryd.prog os ⟨#[], #[], []⟩ with heap := (World.holding Tryd.prog os ⟨#[], #[], []⟩).heap.modify 0 fun | .cells _ t frozen => .cells #[.int .i64 0, .int .i64 1, .int .i64 1, .int .i64 1, .int .i64 0, .int .i64 0, .int .i64 0, .int .i64 1, .int .i64 2, .int .i64 1, .int .i64 0, .int .i64 2, .int .i64 2, .int .i64 1, .int .i64 0, .int .i64 2, .int .i64 1, .int .i64 0, .int .i64 2, .int .i64 1, .int .i64 0, .int .i64 2, .int .i64 1, .int .i64 0, .int .i64 2, .int .i64 1, .int .i64 0, .int .i64 0, .int .i64 0, .int .i64 3, .int .i64 1, .int .i64 0, .int .i64 3, .int .i64 0, .int .i64 1, .int .i64 4, .int .i64 1, .int .i64 0, .int .i64 0, .int .i64 0, .int .i64 1, .int .i64 4, .int .i64 2, .int .i64 1, .int .i64 0, .int .i64 1, .int .i64 1, .int .i64 0, .int .i64 1, .int .i64 0, .int .i64 0] t frozen | o => o } : World)).forCall (fun _ _ => 0) ⟨#[], #[.slice none 0 0, .int .i64 0, .int .i64 0], []⟩).memory Tryd.f4.params.toList Rows.progTrueSpec.vars false (#[.slice none 0 0, .int .i64 0, .int .i64 0] : Array Value).toList 8 = some ([.nil, .lit (.int .i64 0), .lit (.int .i64 0)], [], places) :=
  ⟨[], by kernel_rfl⟩

set_option maxRecDepth 100000 in
theorem progTrue_lifted (os : Os) (started : os.Started) (H : Type) (enc : TypeId × Value → H) (F : Stop.Interp) :
    ReturnsInHanded {} Tryd.checked os 4 .any ((OpenSpec.ofChange Rows.progTrueSpec).preRow enc Tryd.prog Tryd.f4 Rows.progTrueRow.domain false Rows.progTrueRow.laid) (((OpenSpec.ofChange Rows.progTrueSpec).at F).post enc Tryd.prog Tryd.f4 false true false false) := by
  obtain ⟨places, hx⟩ := progTrue_reads os enc
  refine returnsInHanded_of_row (C := Tryd.checked) (s := OpenSpec.ofChange Rows.progTrueSpec) own started (by kernel_rfl) Tryd.func4
    (witness_row_at (enc := enc) (C := Tryd.checked) false ({ World.holding Tryd.prog os ⟨#[], #[], []⟩ with heap := (World.holding Tryd.prog os ⟨#[], #[], []⟩).heap.modify 0 fun | .cells _ t frozen => .cells #[.int .i64 0, .int .i64 1, .int .i64 1, .int .i64 1, .int .i64 0, .int .i64 0, .int .i64 0, .int .i64 1, .int .i64 2, .int .i64 1, .int .i64 0, .int .i64 2, .int .i64 2, .int .i64 1, .int .i64 0, .int .i64 2, .int .i64 1, .int .i64 0, .int .i64 2, .int .i64 1, .int .i64 0, .int .i64 2, .int .i64 1, .int .i64 0, .int .i64 2, .int .i64 1, .int .i64 0, .int .i64 0, .int .i64 0, .int .i64 3, .int .i64 1, .int .i64 0, .int .i64 3, .int .i64 0, .int .i64 1, .int .i64 4, .int .i64 1, .int .i64 0, .int .i64 0, .int .i64 0, .int .i64 1, .int .i64 4, .int .i64 2, .int .i64 1, .int .i64 0, .int .i64 1, .int .i64 1, .int .i64 0, .int .i64 1, .int .i64 0, .int .i64 0] t frozen | o => o } : World) #[.slice none 0 0, .int .i64 0, .int .i64 0] rfl (by kernel_rfl) (by kernel_rfl) (by kernel_rfl)
      (OpenSpec.preRow_of_cond 8 hx (by kernel_rfl) (fun k hk => by cases hk) (by kernel_rfl) (progTrue_laid_met os))) ?_
  intro W base args ds gs before hval hW _ _ hsz hL _ _
  exact progTrue_contract H enc W base args ds gs before hval hW hsz hL

set_option maxRecDepth 100000 in
theorem progTrue_said : Rows.ProgTrueSaid :=
  OpenClaim.holds_of_cond 4 Tryd.f4 rfl rfl rfl rfl rfl rfl rfl ⟨rfl, rfl, rfl, rfl, rfl⟩ rfl rfl rfl rfl rfl (by kernel_rfl) Tryd.func4 (by kernel_rfl)
    (of_decide_eq_true (by kernel_rfl)) (by unfold Func.isWrapper; first | (rw [if_pos (by decide +kernel)]; kernel_rfl) | (rw [if_neg (by decide +kernel)]; exact ⟨rfl, rfl⟩))
    (fun os started H enc _ F => by rw [OpenClaim.pre_eq_preRow]; exact progTrue_lifted os started H enc F)

set_option maxRecDepth 100000 in
theorem progTrue_plain (f : FuncId) (fn : Func) (hf : Tryd.pinned.checked.prog.funcNamed "glebe/glebelaw.ProgTrue" = some f) (hfn : Tryd.pinned.checked.prog.funcs[f]? = some fn) :
    false = Tryd.pinned.checked.prog.looks [] ∧ ∀ (j : Nat) t, fn.params[j]? = some t → Tryd.pinned.checked.prog.wantsStandIn t = false := by
  obtain rfl : f = 4 := Option.some.inj ((show Tryd.prog.funcNamed "glebe/glebelaw.ProgTrue" = some 4 by kernel_rfl).symm.trans hf) |>.symm
  obtain rfl : fn = Tryd.f4 := (Option.some.inj (Tryd.func4.symm.trans hfn)).symm
  refine ⟨by kernel_rfl, fun j t ht => ?_⟩
  rw [Tryd.params4] at ht
  have hm := Array.mem_of_getElem? ht
  simp only [List.mem_toArray, List.mem_cons, List.not_mem_nil, or_false] at hm
  rcases hm with rfl | rfl | rfl
  · exact (show Tryd.prog.wantsStandIn 22 = false by kernel_rfl)
  · exact (show Tryd.prog.wantsStandIn 3 = false by kernel_rfl)
  · exact (show Tryd.prog.wantsStandIn 3 = false by kernel_rfl)

set_option maxRecDepth 100000 in
/-- The card. -/
theorem progTrue_card : Rows.ProgTrueCardSaid :=
  Claim7.holds_tied_plain_at .later [] _ _ _ _ progTrue_said (fun _ h => by cases h) (by kernel_rfl) (fun _ h => by cases h) progTrue_row_tie rfl ⟨rfl, rfl⟩ (by kernel_rfl) rfl progTrue_plain (by kernel_rfl)
end Go.Proofs.YtkepbeeioalmbabDoor

