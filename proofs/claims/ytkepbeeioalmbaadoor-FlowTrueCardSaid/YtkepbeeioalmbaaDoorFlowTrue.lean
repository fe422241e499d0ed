/-
  Proved: whatever program and numbers it is handed, the statement FlowTrue (C1: an op to which one comes has what it takes, all behind it have what it leaves; a Return gives the one value; to an op to which one comes, but the first one, one comes from another) returns true, and its arguments read afterwards as they read before. Conditions: the variable op.kinds starts as the program's text lays it (the card ties it); nothing else beyond the form's own.
-/
import Derived.Test.YtkepbeeioalmbaaDoorCards
import Derived.Test.YtkepbeeioalmbaaDoorTie
import Derived.Test.YtkepbeeioalmbaaDoorOpen
import Derived.Test.YtkepbeeioalmbaaDoorNext
import Derived.Test.YtkepbeeioalmbaaDoorChoose
import Derived.Deep.DeepHandedRow
import Derived.Deep.LoopGhost
import Derived.Deep.CutRange
namespace Go.Proofs.YtkepbeeioalmbaaDoor
open Go.RowKit Go.ChangeShapes Go.WideShapes Go.ChangeAt

set_option maxHeartbeats 1000000 in
set_option maxRecDepth 100000 in
theorem flowTrue_err (p : List Fn) (v : Value) (f at_ : Int) (w : World) (hp : ProgAt w v p) (hk : KindsAt w) (hz : (hgtS p f).2 ≠ 0) :
    Calls Tryd.prog 7 #[v, .int .i64 f, .int .i64 at_] w fun e w' => e = .returned (.bool true) ∧ Kept w w' := by
  obtain ⟨oa, cap, rfl, _, _⟩ := id hp
  have hz' : ((hgtS p f).2 != 0) = true := by rw [bne_iff_ne]; exact hz
  have HP := hide hp
  have HK := hide hk
  clear hp hk hz
  go_enter Tryd.func7, Tryd.ntmps7
  go_wp2_with fail
  refine (heights_any p _ f _ (unhide HP) (unhide HK)).mono ?_
  rintro e w1 ⟨u, rfl, _, hk1⟩
  have H1 := hide hk1
  clear hk1
  generalize (hgtS p f).2 = r at *
  go_wp2_with fail
  refine (flowBegun_any _ ((unhide HK).kept (unhide H1))).mono ?_
  rintro e w2 ⟨rfl, hk2⟩
  have H2 := hide ((unhide H1).trans hk2)
  clear hk2
  go_wp2
  go_ret
  exact ⟨rfl, unhide H2⟩

theorem wrap_small {z ta lb : Int} (h0 : 0 ≤ z) (h1 : z ≤ 12) (t0 : 0 ≤ ta) (t4 : ta ≤ 4) (l0 : 0 ≤ lb) (l1 : lb ≤ 1) : IntKind.i64.wrap (IntKind.i64.wrap (z - ta) + lb) = z - ta + lb := by
  rw [IntKind.wrap_i64, IntKind.wrap_i64]
  omega

/-- One comes to op k from one of the first i ops. -/
def PredB (c : List (Int × Int)) (H : List Int) (k i : Nat) : Prop := k = 0 ∨ ∃ j x, j < i ∧ c[j]? = some x ∧ 0 ≤ H.getD j 0 ∧ k ∈ nexts x j
theorem predB_zero {c : List (Int × Int)} {H : List Int} {k : Nat} : PredB c H k 0 → ((k : Int) == 0) = true := by
  rintro (h | ⟨j, x, h, _⟩)
  · rw [h]; rfl
  · omega
theorem predB_succ {c : List (Int × Int)} {H : List Int} {k i : Nat} {y : Int × Int} (hy : c[i]? = some y) (h : PredB c H k (i + 1)) : PredB c H k i ∨ (0 ≤ H.getD i 0 ∧ k ∈ nexts y i) := by
  rcases h with h | ⟨j, x, h1, h2, h3, h4⟩
  · exact .inl (.inl h)
  · by_cases e : j = i
    · subst e
      rw [hy] at h2
      obtain rfl := Option.some.inj h2
      exact .inr ⟨h3, h4⟩
    · exact .inl (.inr ⟨j, x, by omega, h2, h3, h4⟩)
theorem predB_step {P : Prop} {zi : Int} {k n nn : Nat} {l : List Nat} (hn : l[n]? = some nn) (h : P ∨ (0 ≤ zi ∧ k ∈ l.take (n + 1))) (hno : 0 ≤ zi → nn = k → False) : P ∨ (0 ≤ zi ∧ k ∈ l.take n) := by
  rcases h with h | ⟨h1, h2⟩
  · exact .inl h
  · rw [List.take_add_one, hn] at h2
    rcases List.mem_append.1 h2 with h2 | h2
    · exact .inr ⟨h1, h2⟩
    · simp at h2
      exact (hno h1 h2.symm).elim

theorem hgtS_zero {p : List Fn} {f : Int} (h : (hgtS p f).2 = 0) : ∃ (i : Nat) (H : List Int), f = i ∧ i < p.length ∧ chkS p i = 0 ∧ heightsS p (p.getD i Fn.zero).code = some H ∧ hgtS p f = (H, 0) := by
  unfold hgtS at h
  by_cases hz : chkS p f = 0
  · rw [if_pos hz] at h
    obtain ⟨i, rfl, hi, _⟩ := chkS_zero hz
    rw [Int.toNat_natCast] at h
    cases hh : heightsS p (p.getD i Fn.zero).code with
    | none => rw [hh] at h; cases h
    | some H =>
      refine ⟨i, H, rfl, hi, hz, hh, ?_⟩
      unfold hgtS
      rw [if_pos hz, Int.toNat_natCast, hh]
  · rw [if_neg hz] at h
    exact absurd h hz

set_option maxHeartbeats 4000000 in
set_option maxRecDepth 100000 in
theorem flowTrue_go (p : List Fn) (g : Fn) (i b o cap : Nat) (at_ : Int) (bc oc m cc : Nat) (H : List Int) (w : World) (hk : KindsAt w) (hp : ProgAt w (.slice (some ⟨b, o, none⟩) p.length cap) p) (hi : i < p.length) (hat : (Lit.int .i64 at_).wf = true)
    (c2 : w.cell? ⟨b, o + i * 3 + 2, none⟩ = some (.slice (some ⟨bc, oc, none⟩) m cc)) (hc : CodeAt w (.slice (some ⟨bc, oc, none⟩) m cc) g.code) (hml : m = g.code.length) (hm0 : 0 < m) (hm : m ≤ 24) (hright : ∀ x, x ∈ g.code → opS p g x = 0)
    (hg : hgtS p i = (H, 0)) (hcons : Cons p g.code H) (hsound : Sound p g.code H) :
    Calls Tryd.prog 7 #[.slice (some ⟨b, o, none⟩) p.length cap, .int .i64 i, .int .i64 at_] w fun e w' => e = .returned (.bool true) ∧ Kept w w' := by
  have hj := chooseS_lt at_ hm0
  have hch := fun u => choose_any at_ m u hat hm0 (by omega)
  generalize chooseS at_ m = k at *
  have hlH : H.length = m := by rw [hcons.len, hml]
  have hk0 : H.getD 0 0 = 0 := hcons.first
  have g1 : decide ((i : Int) < 0) = false := by simp
  have g2 : decide ((p.length : Int) ≤ (i : Int)) = false := by simpa using hi
  have g3 : ((m : Int) == 0) = false := beq_eq_false_iff_ne.2 (by omega)
  have HCH := hide hch
  have HK := hide hk
  have HP := hide hp
  have HC := hide hc
  have HL := hide hml
  have HR := hide hright
  have HG := hide hg
  have HCO := hide hcons
  have HSO := hide hsound
  have C2 := hide c2
  have HLH := hide hlH
  have HK0 := hide hk0
  clear hch hk hp hc hml hright hg hcons hsound c2 hlH hk0 hat
  go_enter Tryd.func7, Tryd.ntmps7
  go_wp2_with fail
  refine (heights_is p _ i H 0 _ (unhide HP) (unhide HK) (unhide HG)).mono ?_
  rintro e w1 ⟨u, rfl, ⟨ol, cl, rfl, _, hcl⟩, hk1⟩
  obtain ⟨bl, oo, rfl, q0⟩ := hcl 0 _ (getD_of_lt H 0 0 (by have := unhide HLH; omega))
  have hcell : ∀ j, j < m → w1.cell? ⟨bl, oo + j, none⟩ = some (.int .i64 (H.getD j 0)) := by
    intro j hjm
    obtain ⟨b', o', e, c⟩ := hcl j _ (getD_of_lt H j 0 (by have := unhide HLH; omega))
    obtain ⟨rfl, rfl⟩ := (by simpa using e : bl = b' ∧ oo = o')
    exact c
  rw [unhide HLH]
  rw [unhide HK0, Nat.add_zero] at q0
  have d2 := hk1.cell (unhide C2)
  have H1 := hide hk1
  have qk := hcell k hj
  have HCL := hide hcell
  clear hcl hk1 hcell
  generalize hzk : H.getD k 0 = z at *
  have ZK := hide hzk
  clear hzk
  have hxk := getD_of_lt g.code k (0, 0) (by rw [← unhide HL]; exact hj)
  generalize g.code.getD k (0, 0) = x at hxk
  have HXK := hide hxk
  clear hxk
  by_cases hneg : z < 0
  · have hz1 : z = -1 := by
      rcases (unhide HSO) k (by rw [← unhide HL]; exact hj) with a | a
      · rw [← unhide ZK, a]
      · rw [unhide ZK] at a; omega
    subst hz1
    have qk' := fun w' (h : Kept w1 w') => h.cell qk
    have QK := hide qk'
    clear qk'
    go_wp2_with (go_at_call 14; refine ((unhide HCH) _).mono ?_; rintro e w' ⟨rfl, rfl⟩)
    refine (flowBegun_any _ ((unhide HK).kept (unhide H1))).mono ?_
    rintro e w2 ⟨rfl, hk2⟩
    have qk2 := (unhide QK) w2 hk2
    have H2 := hide ((unhide H1).trans hk2)
    clear hk2
    go_wp2
    go_ret
    exact ⟨rfl, unhide H2⟩
  · have hmem := List.mem_of_getElem? (unhide HXK)
    have hop := (unhide HR) x hmem
    have hR : Right p g.code := ⟨g, rfl, unhide HR⟩
    have hkc : k < g.code.length := by rw [← unhide HL]; exact hj
    obtain ⟨x', mm, hx', hbeh, hnx⟩ := (unhide HCO).done k hkc (by rw [unhide ZK]; omega)
    obtain rfl : x = x' := by rw [unhide HXK] at hx'; exact Option.some.inj hx'
    rw [unhide ZK] at hbeh
    have hef : ∃ ta lb, effS p x.1 x.2 = (ta, lb, 0) ∧ 0 ≤ ta ∧ ta ≤ 4 ∧ 0 ≤ lb ∧ lb ≤ 1 := by
      by_cases h11 : x.1 = 11
      · obtain ⟨_, _, h3, h4⟩ := effS_call hop h11
        refine ⟨_, _, h4, h3, ?_, by decide, by decide⟩
        obtain ⟨_, _, hm⟩ := opS_kind hop
        rw [h11] at hm
        have := (mayB4 (show mayB p g 4 x.2 = true from hm)).2.2
        rw [roomB_iff] at this
        omega
      · obtain ⟨ta, lb, h1, h2, h3, h4, h5⟩ := effS_plain hop h11
        exact ⟨ta, lb, h1, h2, by omega, h4, h5⟩
    obtain ⟨ta, lb, he, t0, t4, l0, l1⟩ := hef
    have hb : ta ≤ z ∧ ¬ (x.1 = 12 ∧ 1 < z) ∧ z - ta + lb ≤ 8 ∧ mm = z - ta + lb := by
      unfold beh at hbeh
      rw [he] at hbeh
      split at hbeh
      · rename_i hh
        simp only [Option.some.injEq] at hbeh
        exact ⟨hh.2.1, hh.2.2.1, hh.2.2.2, hbeh.symm⟩
      · cases hbeh
    obtain ⟨b1, b2, b3, rfl⟩ := hb
    have h12 : x.1 = 12 → ta = 1 ∧ z = 1 := by
      intro h12
      have : effS p x.1 x.2 = (1, 0, 0) := by rw [h12]; rfl
      rw [he] at this
      simp at this
      omega
    have hjmp : x.1 = 9 ∨ x.1 = 10 → 0 ≤ x.2 := by
      intro hjz
      obtain ⟨_, _, hm⟩ := opS_kind hop
      have ho : opd x.1.toNat = 3 := by rcases hjz with hjz | hjz <;> rw [hjz] <;> rfl
      rw [ho] at hm
      exact (ixB_iff.1 (show ixB x.2 g.code.length = true from hm)).1
    obtain ⟨oc', cc', he', _, hcd⟩ := (unhide HC).kept (unhide H1)
    obtain ⟨b', o', e3, x0, x1⟩ := hcd k x (unhide HXK)
    simp only [Value.slice.injEq] at he'
    obtain ⟨rfl, -, -⟩ := he'
    obtain ⟨rfl, rfl⟩ := (by simpa using e3 : bc = b' ∧ oc = o')
    have g5 : decide (z < ta) = false := by simpa using b1
    have g6 : decide (8 < z - ta + lb) = false := by simpa using b3
    have hz8 : z ≤ 12 := by omega
    have H12 := hide h12
    have HJM := hide hjmp
    have HNX := hide hnx
    have HE := hide he
    have HRT := hide hR
    have HXC : Hid (∀ w', Kept w1 w' → w'.cell? ⟨bl, oo + k, none⟩ = some (.int .i64 z) ∧ w'.cell? ⟨bc, oc + k * 2, none⟩ = some (.int .i64 x.1) ∧ w'.cell? ⟨bc, oc + k * 2 + 1, none⟩ = some (.int .i64 x.2)) := fun w' h => ⟨h.cell qk, h.cell x0, h.cell x1⟩
    clear h12 hjmp hnx he hR hbeh hx' hcd e3 hop hmem b2
    go_wp2_with (go_at_call 14; refine ((unhide HCH) _).mono ?_; rintro e w' ⟨rfl, rfl⟩)
    refine (effect_is p _ x.1 x.2 ta lb 0 _ ((unhide HP).kept (unhide H1)) ((unhide HK).kept (unhide H1)) (unhide HE)).mono ?_
    rintro e w2 ⟨rfl, hk2⟩
    obtain ⟨y0, y1, y2⟩ := (unhide HXC) w2 hk2
    have K2 := hide hk2
    clear hk2 q0 d2 x0 x1 qk
    go_upto_region 11 with (fail)
    go_cut [126] from 91 to 126 (fun s wx => s = .bool false ∧ wx = w2)
    case first =>
      by_cases h12 : x.1 = 12
      · have g12 : (x.1 == 12) = true := beq_iff_eq.2 h12
        have gz : (z != 1) = false := by rw [((unhide H12) h12).2]; rfl
        have HH12 := hide h12
        clear h12
        go_wp2
        go_meet
        exact ⟨rfl, rfl⟩
      · have g12 : (x.1 == 12) = false := beq_eq_false_iff_ne.2 h12
        have HH12 := hide h12
        clear h12
        go_wp2
        go_meet
        exact ⟨rfl, rfl⟩
    case rest =>
      obtain ⟨rfl, rfl⟩ := hcut
      go_wp2_with fail
      refine (next_any x k _ (unhide HJM) (by omega)).mono ?_
      rintro e w3 ⟨v3, rfl, ⟨on, cn, rfl, hn3, hcn⟩, hk3⟩
      have hK13 : Kept w1 w3 := (unhide K2).trans hk3
      have K13 := hide hK13
      have HCN := hide hcn
      have hnl : (nextI x k).length = (nexts x k).length := by simp [nextI]
      rw [hnl]
      have hnlb : (nexts x k).length ≤ 2 := by
        unfold nexts
        split
        · simp
        · split
          · simp
          · split <;> simp
      clear hk3 hcn hK13 hn3 hnl y0 y1 y2
      go_wp2
      go_loopw [15] (fun s15 wr => ∃ j : Nat, j ≤ (nexts x k).length ∧ s15 = .int .i64 j ∧ Hid (Kept w3 wr)) (fun s15 _ => (nexts x k).length - (intOf s15).toNat)
      case atStart => exact ⟨0, Nat.zero_le _, rfl, Kept.refl _⟩
      case round =>
        obtain ⟨j, hjn, rfl, HKr⟩ := hrel
        by_cases hlt : j < (nexts x k).length
        · obtain ⟨nj, hnj⟩ : ∃ nj, (nexts x k)[j]? = some nj := ⟨_, List.getElem?_eq_getElem hlt⟩
          have hnI : (nextI x k)[j]? = some (nj : Int) := by simp [nextI, hnj]
          obtain ⟨bn, o3, rfl, cn0⟩ := (unhide HCN) j _ hnI
          have hkeep : Kept w1 wr := (unhide K13).trans (unhide HKr)
          have d0 := (unhide HKr).cell cn0
          obtain ⟨hn1, hn2⟩ := (unhide HNX) nj (List.mem_of_getElem? hnj)
          have hnm : nj < m := by rw [unhide HL]; exact hn1
          have d1 := hkeep.cell ((unhide HCL) nj hnm)
          rw [hn2] at d1
          obtain ⟨d3, _, _⟩ := (unhide HXC) wr hkeep
          have g7 : decide ((m : Int) ≤ (nj : Int)) = false := by simpa using hnm
          have g8 := wrap_small (z := z) (ta := ta) (lb := lb) (by omega) (by omega) t0 t4 l0 l1
          clear hkeep cn0 hnj hnI hn1 hn2
          go_wp2
          go_quiet (fail)
          go_wp2
          exact ⟨⟨j + 1, by omega, by go_num, hide ((unhide HKr).drewN _)⟩, by simp [intOf]; omega⟩
        · have hkeep := hide ((unhide K13).trans (unhide HKr))
          obtain ⟨wo, rfl⟩ : ∃ wo : World, wo = wr := ⟨_, rfl⟩
          go_wp2
          go_loopw [16, 17] (fun s16 s17 wr => ∃ (i' : Nat) (fb : Bool), i' ≤ m ∧ s16 = .bool fb ∧ s17 = .int .i64 i' ∧ Hid (PredB g.code H k i' → fb = true) ∧ Hid (Kept w1 wr)) (fun _ s17 _ => m - (intOf s17).toNat)
          case atStart => exact ⟨0, (k : Int) == 0, Nat.zero_le _, rfl, rfl, predB_zero, unhide hkeep⟩
          case round =>
            obtain ⟨i', fb, him, rfl, rfl, HPB, HKr2⟩ := hrel
            by_cases hlt2 : i' < m
            · have hxi := getD_of_lt g.code i' (0, 0) (by rw [← unhide HL]; exact hlt2)
              generalize g.code.getD i' (0, 0) = y at hxi
              have hopy := (unhide HR) y (List.mem_of_getElem? hxi)
              have hjmy : y.1 = 9 ∨ y.1 = 10 → 0 ≤ y.2 := by
                intro hjz
                obtain ⟨_, _, hm⟩ := opS_kind hopy
                have ho : opd y.1.toNat = 3 := by rcases hjz with hjz | hjz <;> rw [hjz] <;> rfl
                rw [ho] at hm
                exact (ixB_iff.1 (show ixB y.2 g.code.length = true from hm)).1
              obtain ⟨oc2, cc2, he2, _, hcd2⟩ := (unhide HC).kept ((unhide H1).trans (unhide HKr2))
              obtain ⟨b2, o2, e4, u0, u1⟩ := hcd2 i' y hxi
              simp only [Value.slice.injEq] at he2
              obtain ⟨rfl, -, -⟩ := he2
              obtain ⟨rfl, rfl⟩ := (by simpa using e4 : bc = b2 ∧ oc = o2)
              have HXI := hide hxi
              have HJY := hide hjmy
              clear hcd2 e4 hxi hjmy hopy
              go_wp2_with fail
              refine (next_any y i' _ (unhide HJY) (by omega)).mono ?_
              rintro e w4 ⟨v4, rfl, ⟨on2, cn2, rfl, _, hcn2⟩, hk4⟩
              have K14 := hide ((unhide HKr2).trans hk4)
              have HCN2 := hide hcn2
              have hnl2 : (nextI y i').length = (nexts y i').length := by simp [nextI]
              rw [hnl2]
              have ci := (unhide K14).cell ((unhide HCL) i' hlt2)
              have CI := hide ci
              have hnlb2 : (nexts y i').length ≤ 2 := by
                unfold nexts
                split
                · simp
                · split
                  · simp
                  · split <;> simp
              generalize hzi : H.getD i' 0 = zi at *
              have ZI := hide hzi
              clear hk4 hcn2 hnl2 hzi ci u0 u1
              go_wp2
              go_loopw [16, 19] (fun s16 s19 wr => ∃ (n : Nat) (fb2 : Bool), n ≤ (nexts y i').length ∧ s16 = .bool fb2 ∧ s19 = .int .i64 n ∧ Hid ((PredB g.code H k i' ∨ (0 ≤ zi ∧ k ∈ (nexts y i').take n)) → fb2 = true) ∧ Hid (Kept w4 wr)) (fun _ s19 _ => (nexts y i').length - (intOf s19).toNat)
              case atStart => exact ⟨0, fb, Nat.zero_le _, rfl, rfl, (fun h => by rcases h with h | ⟨_, h⟩; · exact (unhide HPB) h
                                                                                  · simp at h), Kept.refl _⟩
              case round =>
                obtain ⟨n, fb2, hnn, rfl, rfl, HPB2, HKr3⟩ := hrel
                by_cases hlt3 : n < (nexts y i').length
                · obtain ⟨nn, hnn2⟩ : ∃ nn, (nexts y i')[n]? = some nn := ⟨_, List.getElem?_eq_getElem hlt3⟩
                  have hnI2 : (nextI y i')[n]? = some (nn : Int) := by simp [nextI, hnn2]
                  obtain ⟨bn2, o4, rfl, cn4⟩ := (unhide HCN2) n _ hnI2
                  have f0 := (unhide HKr3).cell cn4
                  have f1 := (unhide HKr3).cell (unhide CI)
                  have hstep := predB_step (P := PredB g.code H k i') (zi := zi) (k := k) hnn2
                  have HST := hide hstep
                  clear cn4 hnn2 hnI2 hstep
                  cases fb2 with
                  | true =>
                    go_wp2
                    exact ⟨⟨n + 1, true, by omega, rfl, by go_num, (fun _ => rfl), unhide HKr3⟩, by simp [intOf]; omega⟩
                  | false =>
                    by_cases hz0 : 0 ≤ zi
                    · have gz0 : decide (0 ≤ zi) = true := by simpa using hz0
                      by_cases hnk : nn = k
                      · have gnk : ((nn : Int) == (k : Int)) = true := beq_iff_eq.2 (by omega)
                        go_wp2
                        exact ⟨⟨n + 1, true, by omega, rfl, by go_num, (fun _ => rfl), unhide HKr3⟩, by simp [intOf]; omega⟩
                      · have gnk : ((nn : Int) == (k : Int)) = false := beq_eq_false_iff_ne.2 (by omega)
                        have HNK := hide hnk
                        clear hnk
                        go_wp2
                        exact ⟨⟨n + 1, false, by omega, rfl, by go_num, (fun h => (unhide HPB2) ((unhide HST) h (fun _ e => (unhide HNK) e))), unhide HKr3⟩, by simp [intOf]; omega⟩
                    · have gz0 : decide (0 ≤ zi) = false := by simpa using hz0
                      have HZ0 := hide hz0
                      clear hz0
                      go_wp2
                      exact ⟨⟨n + 1, false, by omega, rfl, by go_num, (fun h => (unhide HPB2) ((unhide HST) h (fun hz _ => (unhide HZ0) hz))), unhide HKr3⟩, by simp [intOf]; omega⟩
                · have hfin := predB_succ (H := H) (k := k) (unhide HXI)
                  rw [unhide ZI] at hfin
                  have hnall : (nexts y i').take n = nexts y i' := List.take_of_length_le (by omega)
                  have hnew : PredB g.code H k (i' + 1) → fb2 = true := fun h => (unhide HPB2) (by rw [hnall]; exact hfin h)
                  have HNEW := hide hnew
                  clear hfin hnall hnew
                  go_wp2
                  exact ⟨⟨i' + 1, fb2, by omega, rfl, by go_num, unhide HNEW, (unhide K14).trans (unhide HKr3)⟩, by simp [intOf]; omega⟩
            · have hfb : fb = true := by
                refine (unhide HPB) ?_
                have hkc2 : k < g.code.length := by rw [← unhide HL]; exact hj
                rcases pred_of (unhide HRT) (unhide HCO) (unhide HSO) hkc2 (by rw [unhide ZK]; omega) with a | ⟨a, x', a1, a2, a3, a4⟩
                · exact .inl a
                · exact .inr ⟨a, x', by have := unhide HL; omega, a2, a3, a4⟩
              subst hfb
              go_wp2_with fail
              refine (flowBegun_any _ ((unhide HK).kept ((unhide H1).trans (unhide HKr2)))).mono ?_
              rintro e w5 ⟨rfl, hk5⟩
              have H5 := hide (((unhide H1).trans (unhide HKr2)).trans hk5)
              clear hk5
              go_wp2
              go_ret
              exact ⟨rfl, unhide H5⟩

theorem flowTrue_walk (p : List Fn) (v : Value) (f at_ : Int) (w : World) (hp : ProgAt w v p) (_hf : (Lit.int .i64 f).wf = true) (hat : (Lit.int .i64 at_).wf = true) (hk : KindsAt w) :
    Calls Tryd.prog 7 #[v, .int .i64 f, .int .i64 at_] w fun e w' => e = .returned (.bool true) ∧ Kept w w' := by
  by_cases hz : (hgtS p f).2 = 0
  · obtain ⟨i, H, rfl, hi, hck, hh, hg⟩ := hgtS_zero hz
    obtain ⟨i2, e2, _, hm, hr, hops⟩ := chkS_zero hck
    obtain rfl : i = i2 := by omega
    obtain ⟨oa, cap, rfl, hl, hcell⟩ := id hp
    obtain ⟨b, o, cv, rfl, c0, c1, c2, hc⟩ := hcell i _ (getD_of_lt p i Fn.zero hi)
    generalize p.getD i Fn.zero = g at *
    have hright : ∀ x, x ∈ g.code → opS p g x = 0 := fun x hx => opsS_all hops x hx
    obtain ⟨hcons, hsound⟩ := heightsS_ok ⟨g, rfl, hright⟩ hh
    obtain ⟨oc, cc, rfl, _, hcode⟩ := id hc
    obtain ⟨bc, oo, rfl, _, _⟩ := hcode 0 _ (getD_of_lt g.code 0 (0, 0) hcons.pos)
    exact flowTrue_go p g i b o cap at_ bc oo _ cc H w hk hp hi hat c2 hc rfl hcons.pos hm hright hg hcons hsound
  · exact flowTrue_err p v f at_ w hp hk hz

set_option maxRecDepth 100000 in
theorem flowTrue_contract (H : Type) (enc : TypeId × Value → H) (W : World) (base : Nat) (args : Array Value) (ds gs : List (DataW H)) (before : List MemPlace)
    (hval : ∀ (j : Nat) t v, Tryd.f7.params[j]? = some t → args[j]? = some v → Value.okWide Tryd.prog W .any base t v)
    (hW : DataW.Whole enc Tryd.prog Tryd.f7.params.toList Rows.flowTrueSpec.vars false W args.toList ds gs before)
    (hsz : (DataW.weightsEach Tryd.prog (Tryd.f7.params.toList ++ (OpenSpec.ofChange Rows.flowTrueSpec).bare.plain.varTypes Tryd.prog) (ds ++ gs)).all (· ≤ reachBytes) = true)
    (hL : laidMetH Tryd.prog Rows.flowTrueRow.laid W) :
    Calls Tryd.prog 7 args W fun e W' => ∃ v, e = .returned v ∧ Rows.flowTrueSpec.post enc Tryd.prog Tryd.f7 false true false false W args v W' := by
  have hW' := hW
  obtain ⟨p, q, hA0, hV, rfl, hfz, hnd⟩ := hW
  have hA : DataW.TrodAll enc Tryd.prog W 0 (fun _ => true) true Tryd.f7.params.toList args.toList ds p := hA0
  have hlt : ∀ x ∈ p, x.block < W.heap.size := fun x hx => by simpa using hW'.lt x (by simp [hx])
  have hA1 := hA
  rw [Tryd.params7] at hA hval hsz
  obtain ⟨v0, vs0, d0, ds0, p0, q0, hargs, rfl, rfl, h0, r0⟩ := trodAll_cons hA
  obtain ⟨v1, vs1, d1, ds1, p1, q1, rfl, rfl, rfl, h1, r1⟩ := trodAll_cons r0
  obtain ⟨v2, vs2, d2, ds2, p2, q2, rfl, rfl, rfl, h2, r2⟩ := trodAll_cons r1
  obtain ⟨rfl, rfl, rfl⟩ := trodAll_nil r2
  obtain rfl : args = #[v0, v1, v2] := by cases args; simp_all
  obtain ⟨rfl, rfl⟩ := trodVars_none hV
  obtain ⟨pl0, hpl0⟩ : ∃ pl, ProgAt W v0 pl := by
    obtain ⟨oa, len, cap, rfl⟩ := okWide_slice Tryd.underlying22 (hval 0 22 v0 rfl rfl)
    obtain ⟨fuel, hf⟩ := h0
    exact open_prog hf (fun n hn => of_decide_eq_true (List.all_eq_true.1 hsz n (DataW.weights_mem_each (j := 0) rfl rfl n hn)))
  obtain ⟨n1, rfl, rfl, rfl, wn1⟩ := open_int Tryd.underlying3 (hval 1 3 v1 rfl rfl) h1
  obtain ⟨n2, rfl, rfl, rfl, wn2⟩ := open_int Tryd.underlying3 (hval 2 3 v2 rfl rfl) h2
  refine (flowTrue_walk pl0 v0 n1 n2 W hpl0 wn1 wn2 (kinds_of_laid hL)).mono fun e W' ⟨he, hg⟩ => ?_
  subst he
  refine ⟨_, rfl, _, _, _, [], _, [], hW', trodAll_mk1 (shut_bool Tryd.underlying4 _), trodAll_below hg ?_ hA1 hlt, rfl, hg.frame _, fun h => by cases h⟩
  intro t ht
  rw [Tryd.params7] at ht
  simp only [List.mem_cons, List.not_mem_nil, or_false] at ht
  rcases ht with rfl | rfl | rfl
  · exact ⟨by kernel_rfl, of_decide_eq_true (by kernel_rfl)⟩
  · exact ⟨by kernel_rfl, of_decide_eq_true (by kernel_rfl)⟩
  · exact ⟨by kernel_rfl, of_decide_eq_true (by kernel_rfl)⟩

set_option maxRecDepth 100000 in
theorem flowTrue_laid_met (os : Os) : laidMet Tryd.prog Rows.flowTrueRow.laid ((({ World.holding Tryd.prog os ⟨#[], #[], []⟩ with heap := (World.holding Tryd.prog os ⟨#[], #[], []⟩).heap.modify 0 fun | .cells _ t frozen => .cells #[.int .i64 0, .int .i64 1, .int .i64 1, .int .i64 1, .int .i64 0, .int .i64 0, .int .i64 0, .int .i64 1, .int .i64 2, .int .i64 1, .int .i64 0, .int .i64 2, .int .i64 2, .int .i64 1, .int .i64 0, .int .i64 2, .int .i64 1, .int .i64 0, .int .i64 2, .int .i64 1, .int .i64 0, .int .i64 2, .int .i64 1, .int .i64 0, .int .i64 2, .int .i64 1, .int .i64 0, .int .i64 0, .int .i64 0, .int .i64 3, .int .i64 1, .int .i64 0, .int .i64 3, .int .i64 0, .int .i64 1, .int .i64 4, .int .i64 1, .int .i64 0, .int .i64 0, .int .i64 0, .int .i64 1, .int .i64 4, .int .i64 2, .int .i64 1, .int .i64 0, .int .i64 1, .int .i64 1, .int .i64 0, .int .i64 1, .int .i64 0, .int .i64 0] t frozen | o => o } : World)).forCall (fun _ _ => 0) ⟨#[], #[.slice none 0 0, .int .i64 0, .int .i64 0], []⟩).memory :=
  laidMet_of_run' 8 (by kernel_rfl) (by kernel_rfl)
set_option maxRecDepth 100000 in
theorem flowTrue_reads (os : Os) {H : Type} (enc : TypeId × Value → H) : ∃ places, DataW.whole enc Tryd.prog ((({ World.holding Tryd.prog os ⟨#[], #[], []⟩ with heap := (World.holding Tryd.prog os ⟨#[], #[], []⟩).heap.modify 0 fun | .cells _ t frozen => .cells #[.int .i64 0, .int .i64 1, .int .i64 1, .int .i64 1, .int .i64 0, .int .i64 0, .int .i64 0, .int .i64 1, .int .i64 2, .int .i64 1, .int .i64 0, .int .i64 2, .int .i64 2, .int .i64 1, .int .i64 0, .int .i64 2, .int .i64 1, .int .i64 0, .int .i64 2, .int .i64 1, .int .i64 0, .int .i64 2, .int .i64 1, .int .i64 0, .int .i64 2, .int .i64 1, .int .i64 0, .int .i64 0, .int .i64 0, .int .i64 3, .int .i64 1, .int .i64 0, .int .i64 3, .int .i64 0, .int .i64 1, .int .i64 4, .int .i64 1, .int .i64 0, .int .i64 0, .int .i64 0, .int .i64 1, .int .i64 4, .int .i64 2, .int .i64 1, .int .i64 0, .int .i64 1, .int .i64 1, .int .i64 0, .int .i64 1, .int .i64 0, .int .i64 0] t frozen | o => o } : World)).forCall (fun _ _ => 0) ⟨#[], #[.slice none 0 0, .int .i64 0, .int .i64 0], []⟩).memory Tryd.f7.params.toList Rows.flowTrueSpec.vars false (#[.slice none 0 0, .int .i64 0, .int .i64 0] : Array Value).toList 8 = some ([.nil, .lit (.int .i64 0), .lit (.int .i64 0)], [], places) :=
  ⟨[], by kernel_rfl⟩

set_option maxRecDepth 100000 in
theorem flowTrue_lifted (os : Os) (started : os.Started) (H : Type) (enc : TypeId × Value → H) (F : Stop.Interp) :
    ReturnsInHanded {} Tryd.checked os 7 .any ((OpenSpec.ofChange Rows.flowTrueSpec).preRow enc Tryd.prog Tryd.f7 Rows.flowTrueRow.domain false Rows.flowTrueRow.laid) (((OpenSpec.ofChange Rows.flowTrueSpec).at F).post enc Tryd.prog Tryd.f7 false true false false) := by
  obtain ⟨places, hx⟩ := flowTrue_reads os enc
  refine returnsInHanded_of_row (C := Tryd.checked) (s := OpenSpec.ofChange Rows.flowTrueSpec) own started (by kernel_rfl) Tryd.func7
    (witness_row_at (enc := enc) (C := Tryd.checked) false ({ World.holding Tryd.prog os ⟨#[], #[], []⟩ with heap := (World.holding Tryd.prog os ⟨#[], #[], []⟩).heap.modify 0 fun | .cells _ t frozen => .cells #[.int .i64 0, .int .i64 1, .int .i64 1, .int .i64 1, .int .i64 0, .int .i64 0, .int .i64 0, .int .i64 1, .int .i64 2, .int .i64 1, .int .i64 0, .int .i64 2, .int .i64 2, .int .i64 1, .int .i64 0, .int .i64 2, .int .i64 1, .int .i64 0, .int .i64 2, .int .i64 1, .int .i64 0, .int .i64 2, .int .i64 1, .int .i64 0, .int .i64 2, .int .i64 1, .int .i64 0, .int .i64 0, .int .i64 0, .int .i64 3, .int .i64 1, .int .i64 0, .int .i64 3, .int .i64 0, .int .i64 1, .int .i64 4, .int .i64 1, .int .i64 0, .int .i64 0, .int .i64 0, .int .i64 1, .int .i64 4, .int .i64 2, .int .i64 1, .int .i64 0, .int .i64 1, .int .i64 1, .int .i64 0, .int .i64 1, .int .i64 0, .int .i64 0] t frozen | o => o } : World) #[.slice none 0 0, .int .i64 0, .int .i64 0] rfl (by kernel_rfl) (by kernel_rfl) (by kernel_rfl)
      (OpenSpec.preRow_of_cond 8 hx (by kernel_rfl) (fun k hk => by cases hk) (by kernel_rfl) (flowTrue_laid_met os))) ?_
  intro W base args ds gs before hval hW _ _ hsz hL _ _
  exact flowTrue_contract H enc W base args ds gs before hval hW hsz hL

set_option maxRecDepth 100000 in
theorem flowTrue_said : Rows.FlowTrueSaid :=
  OpenClaim.holds_of_cond 7 Tryd.f7 rfl rfl rfl rfl rfl rfl rfl ⟨rfl, rfl, rfl, rfl, rfl⟩ rfl rfl rfl rfl rfl (by kernel_rfl) Tryd.func7 (by kernel_rfl)
    (of_decide_eq_true (by kernel_rfl)) (by unfold Func.isWrapper; first | (rw [if_pos (by decide +kernel)]; kernel_rfl) | (rw [if_neg (by decide +kernel)]; exact ⟨rfl, rfl⟩))
    (fun os started H enc _ F => by rw [OpenClaim.pre_eq_preRow]; exact flowTrue_lifted os started H enc F)

set_option maxRecDepth 100000 in
theorem flowTrue_plain (f : FuncId) (fn : Func) (hf : Tryd.pinned.checked.prog.funcNamed "glebe/glebelaw.FlowTrue" = some f) (hfn : Tryd.pinned.checked.prog.funcs[f]? = some fn) :
    false = Tryd.pinned.checked.prog.looks [] ∧ ∀ (j : Nat) t, fn.params[j]? = some t → Tryd.pinned.checked.prog.wantsStandIn t = false := by
  obtain rfl : f = 7 := Option.some.inj ((show Tryd.prog.funcNamed "glebe/glebelaw.FlowTrue" = some 7 by kernel_rfl).symm.trans hf) |>.symm
  obtain rfl : fn = Tryd.f7 := (Option.some.inj (Tryd.func7.symm.trans hfn)).symm
  refine ⟨by kernel_rfl, fun j t ht => ?_⟩
  rw [Tryd.params7] at ht
  have hm := Array.mem_of_getElem? ht
  simp only [List.mem_toArray, List.mem_cons, List.not_mem_nil, or_false] at hm
  rcases hm with rfl | rfl | rfl
  · exact (show Tryd.prog.wantsStandIn 22 = false by kernel_rfl)
  · exact (show Tryd.prog.wantsStandIn 3 = false by kernel_rfl)
  · exact (show Tryd.prog.wantsStandIn 3 = false by kernel_rfl)

set_option maxRecDepth 100000 in
/-- The card. -/
theorem flowTrue_card : Rows.FlowTrueCardSaid :=
  Claim7.holds_tied_plain_at .later [] _ _ _ _ flowTrue_said (fun _ h => by cases h) (by kernel_rfl) (fun _ h => by cases h) flowTrue_row_tie rfl ⟨rfl, rfl⟩ (by kernel_rfl) rfl flowTrue_plain (by kernel_rfl)
end Go.Proofs.YtkepbeeioalmbaaDoor

