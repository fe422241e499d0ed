/-
  The statement RunSplit: its walk, of the contracts of what it calls. (Printed by tools/genSplit.py.)
-/
import Derived.Test.YtlapliclhfpgkaaDoorStX
import Derived.Test.YtlapliclhfpgkaaDoorRB24
namespace Go.Proofs.YtlapliclhfpgkaaDoor
open Go.RowKit

set_option maxRecDepth 100000 in
set_option maxHeartbeats 8000000 in
theorem runSplit_w (vp : Value) (ca cb : Int) (w : World) (m n : Nat) (hmn : m + n ≤ 500) (er er3 : Int) (r1 r2 r3 : St) (i j k : Nat) (e f g : Int) (oa oo : Option Addr) (N M cap co : Nat) (nn : Int)
    (HC1 : Hid (∀ u, Calls Tryd.prog 11 #[.int .i64 ca, .int .i64 250] u fun e w' => e = .returned (.int .i64 m) ∧ w' = u))
    (HC2 : Hid (∀ u, Calls Tryd.prog 11 #[.int .i64 cb, .int .i64 250] u fun e w' => e = .returned (.int .i64 n) ∧ w' = u))
    (HR1 : Hid (∀ u, Kept w u → GivesSt 13 #[vp, .agg #[.slice oa N cap, .int .i64 nn, .slice oo M co], .int .i64 m] u r1 [.int .i64 i, .int .i64 e]))
    (HCK : Hid (∀ u, Kept w u → Calls Tryd.prog 14 #[vp, .agg #[.slice oa N cap, .int .i64 nn, .slice oo M co]] u fun e w' => e = .returned (.int .i64 er) ∧ Kept u w'))
    (HR2 : Hid (∀ u v, Kept w u → StAt u v r1 → GivesSt 13 #[vp, v, .int .i64 n] u r2 [.int .i64 j, .int .i64 f]))
    (HR3 : Hid (∀ u, Kept w u → GivesSt 13 #[vp, .agg #[.slice oa N cap, .int .i64 nn, .slice oo M co], .int .i64 ((m : Int) + (n : Int))] u r3 [.int .i64 k, .int .i64 g]))
    (HC3 : Hid (∀ u v, Kept w u → StAt u v r2 → Calls Tryd.prog 14 #[vp, v] u fun e w' => e = .returned (.int .i64 er3) ∧ Kept u w'))
    (HSS : Hid (∀ u v1 v2 s, StAt u v1 s → StAt u v2 s → Calls Tryd.prog 16 #[v1, v2] u fun e w' => e = .returned (.bool true) ∧ Kept u w'))
    (HRB : Hid (∀ u, Kept w u → Calls Tryd.prog 15 #[] u fun e w' => e = .returned (.bool true) ∧ Kept u w'))
    (hgood : er = 0 → (e ≠ 0 → g = e ∧ k = i ∧ r3 = r1 ∧ j = 0 ∧ ((n = 0 ∧ f = 0) ∨ (0 < n ∧ f = e))) ∧ (e = 0 → r2 = r3 ∧ k = i + j ∧ f = g ∧ er3 = 0 ∧ i ≤ m ∧ j ≤ 500 ∧ (i = m ∨ r1.now = -1))) :
    Calls Tryd.prog 4 #[vp, .agg #[.slice oa N cap, .int .i64 nn, .slice oo M co], .int .i64 ca, .int .i64 cb] w fun e w' => e = .returned (.bool true) ∧ Kept w w' := by
  have HG := hide hgood
  have hmn' : IntKind.i64.wrap ((m : Int) + (n : Int)) = (m : Int) + (n : Int) := wrap_tiny _ (by omega) (by omega)
  clear hgood
  go_enter Tryd.func4, Tryd.ntmps4
  go_wp2_with fail
  obtain ⟨k1, l1⟩ := box_st (Kept.refl w) #[.slice oa N cap, .int .i64 nn, .slice oo M co] 35
  generalize w.alloc (.cells #[.slice oa N cap, .int .i64 nn, .slice oo M co] 35) = w1 at *
  generalize w.heap.size = B0 at *
  have HL := hide l1
  have HK := hide k1
  clear l1 k1
  refine ((unhide HC1) _).mono ?_
  rintro _ w0 ⟨rfl, hw0⟩
  subst hw0
  go_wp2_with fail
  refine ((unhide HC2) _).mono ?_
  rintro _ w0 ⟨rfl, hw0⟩
  subst hw0
  clear HC1 HC2
  have a0 := cell_lays (unhide HL) 0
  have a1 := cell_lays (unhide HL) 1
  have a2 := cell_lays (unhide HL) 2
  go_wp2_with fail
  refine ((unhide HR1) _ (unhide HK)).mono ?_
  rintro _ wa ⟨oa, na, ca, za, qa, ma, da, rfl, hs, hk⟩
  replace HK := hide ((unhide HK).trans hk)
  replace HL := hide (lays_kept hk (unhide HL))
  have HSa := hide hs
  have HZa := hide (stAt_parts hs).1
  clear hs hk HR1 a0 a1 a2
  have a0 := cell_new (unhide HL) 0
  have a1 := cell_new (unhide HL) 1
  have a2 := cell_new (unhide HL) 2
  go_wp2_with fail
  obtain ⟨k9, l9⟩ := box_st (Kept.refl wa) #[.slice oa na ca, .int .i64 za, .slice qa ma da] 35
  generalize wa.alloc (.cells #[.slice oa na ca, .int .i64 za, .slice qa ma da] 35) = xa at *
  generalize wa.heap.size = Ba at *
  replace HK := hide ((unhide HK).trans k9)
  replace HL := hide (lays_kept k9 (unhide HL))
  replace HSa := hide ((unhide HSa).kept k9)
  have HTa := hide l9
  clear k9 l9 a0 a1 a2
  refine ((unhide HCK) _ (unhide HK)).mono ?_
  rintro _ w2 ⟨rfl, hk⟩
  replace HK := hide ((unhide HK).trans hk)
  replace HL := hide (lays_kept hk (unhide HL))
  replace HSa := hide ((unhide HSa).kept hk)
  replace HTa := hide (lays_kept hk (unhide HTa))
  clear hk HCK
  by_cases he : er = 0
  · subst he
    have HH := hide ((unhide HG) rfl)
    clear HG
    have a0 := cell_lays (unhide HTa) 0
    have a1 := cell_lays (unhide HTa) 1
    have a2 := cell_lays (unhide HTa) 2
    go_wp2_with fail
    refine ((unhide HR2) _ _ (unhide HK) (unhide HSa)).mono ?_
    rintro _ wb ⟨ob, nb, cb, zb, qb, mb, db, rfl, hs, hk⟩
    replace HK := hide ((unhide HK).trans hk)
    replace HL := hide (lays_kept hk (unhide HL))
    replace HSa := hide ((unhide HSa).kept hk)
    replace HTa := hide (lays_kept hk (unhide HTa))
    have HSb := hide hs
    have HZb := hide (stAt_parts hs).1
    clear hs hk HR2 a0 a1 a2
    have a0 := cell_new (unhide HL) 0
    have a1 := cell_new (unhide HL) 1
    have a2 := cell_new (unhide HL) 2
    go_wp2_with fail
    obtain ⟨k9, l9⟩ := box_st (Kept.refl wb) #[.slice ob nb cb, .int .i64 zb, .slice qb mb db] 35
    generalize wb.alloc (.cells #[.slice ob nb cb, .int .i64 zb, .slice qb mb db] 35) = xb at *
    generalize wb.heap.size = Bb at *
    replace HK := hide ((unhide HK).trans k9)
    replace HL := hide (lays_kept k9 (unhide HL))
    replace HSa := hide ((unhide HSa).kept k9)
    replace HTa := hide (lays_kept k9 (unhide HTa))
    replace HSb := hide ((unhide HSb).kept k9)
    have HTb := hide l9
    clear k9 l9 a0 a1 a2
    refine ((unhide HR3) _ (unhide HK)).mono ?_
    rintro _ wc ⟨oc, nc, cc, zc, qc, mc, dc, rfl, hs, hk⟩
    replace HK := hide ((unhide HK).trans hk)
    replace HL := hide (lays_kept hk (unhide HL))
    replace HSa := hide ((unhide HSa).kept hk)
    replace HTa := hide (lays_kept hk (unhide HTa))
    replace HSb := hide ((unhide HSb).kept hk)
    replace HTb := hide (lays_kept hk (unhide HTb))
    have HSc := hide hs
    clear hs hk HR3
    by_cases hz : e = 0
    · subst hz
      obtain ⟨h1, h2, h3, h4, h5, h6, h7⟩ := (unhide HH).2 rfl
      subst h1 h2 h3 h4
      clear HH
      go_wp2_with fail
      obtain ⟨k9, l9⟩ := box_st (Kept.refl wc) #[.slice oc nc cc, .int .i64 zc, .slice qc mc dc] 35
      generalize wc.alloc (.cells #[.slice oc nc cc, .int .i64 zc, .slice qc mc dc] 35) = xc at *
      generalize wc.heap.size = Bc at *
      replace HK := hide ((unhide HK).trans k9)
      replace HL := hide (lays_kept k9 (unhide HL))
      replace HSa := hide ((unhide HSa).kept k9)
      replace HTa := hide (lays_kept k9 (unhide HTa))
      replace HSb := hide ((unhide HSb).kept k9)
      replace HTb := hide (lays_kept k9 (unhide HTb))
      replace HSc := hide ((unhide HSc).kept k9)
      have HTc := hide l9
      clear k9 l9
      refine ((unhide HRB) _ (unhide HK)).mono ?_
      rintro _ w3 ⟨rfl, hk⟩
      replace HK := hide ((unhide HK).trans hk)
      replace HL := hide (lays_kept hk (unhide HL))
      replace HSa := hide ((unhide HSa).kept hk)
      replace HTa := hide (lays_kept hk (unhide HTa))
      replace HSb := hide ((unhide HSb).kept hk)
      replace HTb := hide (lays_kept hk (unhide HTb))
      replace HSc := hide ((unhide HSc).kept hk)
      replace HTc := hide (lays_kept hk (unhide HTc))
      clear hk HRB
      have a0 := cell_lays (unhide HTb) 0
      have a1 := cell_lays (unhide HTb) 1
      have a2 := cell_lays (unhide HTb) 2
      have b0 := cell_lays (unhide HTc) 0
      have b1 := cell_lays (unhide HTc) 1
      have b2 := cell_lays (unhide HTc) 2
      go_wp2_with fail
      refine ((unhide HSS) _ _ _ _ (unhide HSb) (unhide HSc)).mono ?_
      rintro _ w4 ⟨rfl, hk⟩
      replace HK := hide ((unhide HK).trans hk)
      replace HL := hide (lays_kept hk (unhide HL))
      replace HSa := hide ((unhide HSa).kept hk)
      replace HTa := hide (lays_kept hk (unhide HTa))
      replace HSb := hide ((unhide HSb).kept hk)
      replace HTb := hide (lays_kept hk (unhide HTb))
      replace HSc := hide ((unhide HSc).kept hk)
      replace HTc := hide (lays_kept hk (unhide HTc))
      clear hk HSS a0 a1 a2 b0 b1 b2
      have a0 := cell_lays (unhide HTb) 0
      have a1 := cell_lays (unhide HTb) 1
      have a2 := cell_lays (unhide HTb) 2
      have g1 : IntKind.i64.wrap ((i : Int) + (j : Int)) = (i : Int) + (j : Int) := wrap_tiny _ (by omega) (by omega)
      have g2 : (((i + j : Nat) : Int) == (i : Int) + (j : Int)) = true := by rw [beq_iff_eq]; omega
      go_wp2_with fail
      refine ((unhide HC3) _ _ (unhide HK) (unhide HSb)).mono ?_
      rintro _ w5 ⟨rfl, hk⟩
      replace HK := hide ((unhide HK).trans hk)
      replace HL := hide (lays_kept hk (unhide HL))
      replace HSa := hide ((unhide HSa).kept hk)
      replace HTa := hide (lays_kept hk (unhide HTa))
      replace HSb := hide ((unhide HSb).kept hk)
      replace HTb := hide (lays_kept hk (unhide HTb))
      replace HSc := hide ((unhide HSc).kept hk)
      replace HTc := hide (lays_kept hk (unhide HTc))
      clear hk HC3 a0 a1 a2
      have a1 := cell_lays (unhide HTa) 1
      have g3 : (i : Int) ≤ (m : Int) := by omega
      by_cases hi : i = m
      · subst hi
        go_wp2
        go_ret
        exact ⟨rfl, unhide HK⟩
      · have hza : za = -1 := (unhide HZa).trans (h7.resolve_left hi)
        have g4 : ((i : Int) == (m : Int)) = false := by rw [beq_eq_false_iff_ne]; omega
        subst hza
        go_wp2
        go_ret
        exact ⟨rfl, unhide HK⟩
    · obtain ⟨h1, h2, h3, h4, h5⟩ := (unhide HH).1 hz
      subst h1 h2 h3 h4
      clear HH
      have hz' : (g != 0) = true := by rw [bne_iff_ne]; exact hz
      go_wp2_with fail
      obtain ⟨k9, l9⟩ := box_st (Kept.refl wc) #[.slice oc nc cc, .int .i64 zc, .slice qc mc dc] 35
      generalize wc.alloc (.cells #[.slice oc nc cc, .int .i64 zc, .slice qc mc dc] 35) = xc at *
      generalize wc.heap.size = Bc at *
      replace HK := hide ((unhide HK).trans k9)
      replace HL := hide (lays_kept k9 (unhide HL))
      replace HSa := hide ((unhide HSa).kept k9)
      replace HTa := hide (lays_kept k9 (unhide HTa))
      replace HSb := hide ((unhide HSb).kept k9)
      replace HTb := hide (lays_kept k9 (unhide HTb))
      replace HSc := hide ((unhide HSc).kept k9)
      have HTc := hide l9
      clear k9 l9
      refine ((unhide HRB) _ (unhide HK)).mono ?_
      rintro _ w3 ⟨rfl, hk⟩
      replace HK := hide ((unhide HK).trans hk)
      replace HL := hide (lays_kept hk (unhide HL))
      replace HSa := hide ((unhide HSa).kept hk)
      replace HTa := hide (lays_kept hk (unhide HTa))
      replace HSb := hide ((unhide HSb).kept hk)
      replace HTb := hide (lays_kept hk (unhide HTb))
      replace HSc := hide ((unhide HSc).kept hk)
      replace HTc := hide (lays_kept hk (unhide HTc))
      clear hk HRB
      have a0 := cell_lays (unhide HTa) 0
      have a1 := cell_lays (unhide HTa) 1
      have a2 := cell_lays (unhide HTa) 2
      have b0 := cell_lays (unhide HTc) 0
      have b1 := cell_lays (unhide HTc) 1
      have b2 := cell_lays (unhide HTc) 2
      go_wp2_with fail
      refine ((unhide HSS) _ _ _ _ (unhide HSc) (unhide HSa)).mono ?_
      rintro _ w4 ⟨rfl, hk⟩
      replace HK := hide ((unhide HK).trans hk)
      replace HL := hide (lays_kept hk (unhide HL))
      replace HSa := hide ((unhide HSa).kept hk)
      replace HTa := hide (lays_kept hk (unhide HTa))
      replace HSb := hide ((unhide HSb).kept hk)
      replace HTb := hide (lays_kept hk (unhide HTb))
      replace HSc := hide ((unhide HSc).kept hk)
      replace HTc := hide (lays_kept hk (unhide HTc))
      clear hk HSS a0 a1 a2 b0 b1 b2
      rcases h5 with ⟨h6, h7⟩ | ⟨h6, h7⟩
      · subst h6 h7
        go_wp2
        go_ret
        exact ⟨rfl, unhide HK⟩
      · subst h7
        have g1 : ((n : Int) == 0) = false := by rw [beq_eq_false_iff_ne]; omega
        have g2 : (n : Int) > 0 := by omega
        go_wp2
        go_ret
        exact ⟨rfl, unhide HK⟩
  · have he' : (er != 0) = true := by rw [bne_iff_ne]; exact he
    go_wp2_with fail
    refine ((unhide HRB) _ (unhide HK)).mono ?_
    rintro _ w5 ⟨rfl, hk5⟩
    replace HK := hide ((unhide HK).trans hk5)
    clear hk5
    go_wp2
    go_ret
    exact ⟨rfl, unhide HK⟩
end Go.Proofs.YtlapliclhfpgkaaDoor
