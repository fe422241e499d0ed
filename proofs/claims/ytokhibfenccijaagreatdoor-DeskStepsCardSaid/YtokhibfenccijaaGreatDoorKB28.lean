/- EngL, EngM, EngN -/
import Derived.Test.YtokhibfenccijaaGreatDoorKB27
set_option maxRecDepth 100000
set_option maxHeartbeats 8000000
namespace Go.Proofs.YtokhibfenccijaaGreatDoor
open Go.RowKit
theorem goesOn_any (bs N capF gF m n cp : Nat) (oa : Option Addr) (c : Int) (w : World) (hm : m < N)
    (c0 : w.cell? ⟨bs, 0, none⟩ = some (.slice (some ⟨gF, 0, none⟩) N capF)) (c1 : w.cell? ⟨gF, m * 2 + 1, none⟩ = some (.int .i64 c)) :
    Calls Tryz.prog 196 #[eng bs (.slice oa n cp), .int .i64 m] w fun e w' => e = .returned (.bool (decide (m = 0) || !decide (c = -1))) ∧ Kept w w' := by
  have d0 : ∀ o, (w.alloc o).cell? ⟨bs, 0, none⟩ = some (.slice (some ⟨gF, 0, none⟩) N capF) := fun o => ((Kept.refl w).alloc o).cell c0
  have d1 : ∀ o, (w.alloc o).cell? ⟨gF, m * 2 + 1, none⟩ = some (.int .i64 c) := fun o => ((Kept.refl w).alloc o).cell c1
  by_cases h0 : m = 0
  · subst h0
    go_enter Tryz.func196, Tryz.ntmps196
    go_wp2
    go_ret
    exact ⟨rfl, (Kept.refl w).alloc _⟩
  · have hb : ((m : Int) == 0) = false := by rw [beq_eq_false_iff_ne]; omega
    have hm0 : (0 : Int) ≤ (m : Int) := by omega
    have hm1 : (m : Int) < (N : Int) := by omega
    rw [decide_eq_false h0, Bool.false_or]
    have hbb : (c != -1) = !decide (c = -1) := by by_cases e : c = -1 <;> simp [e]
    generalize hB : (!decide (c = -1)) = B at *
    clear hB h0
    go_enter Tryz.func196, Tryz.ntmps196
    go_wp2
    go_ret
    exact ⟨rfl, (Kept.refl w).alloc _⟩
theorem resume_bad (base bs : Nat) (V : Key → Value) (s : St) (i n cp : Nat) (oa : Option Addr) (x z : Int) (w : World) (h : OwnVar base w bs V s) (hN : s.fibers.length ≤ 5) (hx : x < 0 ∨ (s.fibers.length : Int) ≤ x) :
    Calls Tryz.prog 176 #[eng bs (.slice oa n cp), .int .i64 x, .int .i64 z] w (EngPost base bs V s (resumeS s i x z) w) := by
  have hR : resumeS s i x z = (St.zero, 5) := by unfold resumeS; rw [if_pos hx]
  rw [hR]
  obtain ⟨c0, _, _, _⟩ := h.cells
  obtain ⟨xs, hrow, _⟩ := h.own.piece .fibers trivial
  obtain ⟨oF, capF, eF, _⟩ := row_slice hrow
  rw [eF] at c0
  have d0 : ∀ o, (w.alloc o).cell? ⟨bs, 0, none⟩ = some (.slice oF s.fibers.length capF) := fun o => ((Kept.refl w).alloc o).cell c0
  have hbw := lt_of_block h.var
  have hlow := h.low
  generalize s.fibers.length = N at *
  clear hrow h eF hR c0
  rcases hx with hx | hx
  · go_enter Tryz.func176, Tryz.ntmps176
    go_wp2
    exact ⟨rfl, Or.inr ⟨by decide, rfl, Past.of_kept ((Kept.refl w).alloc _)⟩⟩
  · have hx0 : ¬ x < 0 := by omega
    go_enter Tryz.func176, Tryz.ntmps176
    go_wp2
    exact ⟨rfl, Or.inr ⟨by decide, rfl, Past.of_kept ((Kept.refl w).alloc _)⟩⟩
theorem resume_busy (base bs : Nat) (V : Key → Value) (s : St) (i n cp m : Nat) (oa : Option Addr) (z : Int) (w : World) (h : OwnVar base w bs V s) (hm : m < s.fibers.length)
    (hb : m = 0 ∨ (fibAt s m).caller ≠ -1 ∨ (fibAt s m).frames.length = 0) :
    Calls Tryz.prog 176 #[eng bs (.slice oa n cp), .int .i64 m, .int .i64 z] w (EngPost base bs V s (resumeS s i m z) w) := by
  have hR : resumeS s i m z = (St.zero, 6) := by unfold resumeS; rw [if_neg (by omega), Int.toNat_natCast, if_pos hb]
  rw [hR]
  obtain ⟨gF, capF, eF, _, k0, k1, _, _⟩ := h.own.fib hm
  obtain ⟨c0, _, _, _⟩ := h.cells
  rw [eF] at c0
  obtain ⟨ys, hrow, _⟩ := h.own.piece (.frames m) hm
  obtain ⟨of, cf, ef, _⟩ := row_slice hrow
  rw [ef] at k0
  have hm0 : ¬ (m : Int) < 0 := by omega
  have hm1 : (0 : Int) ≤ (m : Int) := by omega
  have hm2 : (m : Int) < (s.fibers.length : Int) := by omega
  have hm3 : ¬ (s.fibers.length : Int) ≤ (m : Int) := by omega
  have hk1 : ∀ o, Kept w (w.alloc o) := fun o => (Kept.refl w).alloc o
  have HG := hide (fun o => goesOn_any bs s.fibers.length capF gF m n cp oa (fibAt s m).caller (w.alloc o) hm ((hk1 o).cell c0) ((hk1 o).cell k1))
  have d0 : ∀ o, (w.alloc o).cell? ⟨bs, 0, none⟩ = some (.slice (some ⟨gF, 0, none⟩) s.fibers.length capF) := fun o => (hk1 o).cell c0
  have HK := hide hk1
  have hbase : base ≤ w.heap.size := by have := h.low; have := lt_of_block h.var; omega
  have HO := hide h
  generalize hon : (decide (m = 0) || !decide ((fibAt s m).caller = -1)) = on at *
  generalize hq : (fibAt s m).frames.length = q at *
  have hcase : on = true ∨ q = 0 := by
    rcases hb with h1 | h1 | h1
    · left; rw [← hon, decide_eq_true h1]; rfl
    · left; rw [← hon, decide_eq_false h1]; simp
    · exact .inr h1
  generalize s.fibers.length = N at *
  clear hR eF hrow ef hon hq hb hk1 h
  go_enter Tryz.func176, Tryz.ntmps176
  go_wp2_with fail
  refine ((unhide HG) _).mono ?_
  rintro e w1 ⟨rfl, hk2⟩
  have hk02 := ((unhide HK) _).trans hk2
  have l1 : w1.heap[w.heap.size]? = some (.cells #[.pointer (some ⟨bs, 0, none⟩), .slice oa n cp] 170) := lays_kept hk2 (lays_new rfl)
  have b0 : w1.cell? ⟨w.heap.size, 0, none⟩ = some (.pointer (some ⟨bs, 0, none⟩)) := cell_lays l1 0
  have e0 := hk02.cell c0
  have e1 := hk02.cell k0
  have HB : Hid (Past bs V s w w1) := hide (Past.of_kept hk02)
  clear hk2 hk02 l1 k1
  cases on with
  | true =>
    go_wp2
    exact ⟨rfl, Or.inr ⟨by decide, rfl, unhide HB⟩⟩
  | false =>
    obtain rfl : q = 0 := by simpa using hcase
    go_wp2
    exact ⟨rfl, Or.inr ⟨by decide, rfl, unhide HB⟩⟩
theorem resume_go (base bs : Nat) (V : Key → Value) (s : St) (i n cp m : Nat) (oa : Option Addr) (z : Int) (w : World) (h : OwnVar base w bs V s) (hn : s.now = i) (hr : Runs s m)
    (hb : ¬ (m = 0 ∨ (fibAt s m).caller ≠ -1 ∨ (fibAt s m).frames.length = 0)) (hloc : (frAt s m ((fibAt s m).frames.length - 1)).at_ = 0 → 0 < (frAt s m ((fibAt s m).frames.length - 1)).locals.length) :
    Calls Tryz.prog 176 #[eng bs (.slice oa n cp), .int .i64 m, .int .i64 z] w (EngPost base bs V s (resumeS s i m z) w) := by
  have hm := hr.lt
  have hfr := hr.fr
  have hfrs := hr.frs
  have hcm : (fibAt s m).caller = -1 := by
    rcases Decidable.em ((fibAt s m).caller = -1) with h1 | h1
    · exact h1
    · exact absurd (.inr (.inl h1)) hb
  have hmz : m ≠ 0 := fun e => hb (.inl e)
  obtain ⟨gF, capF, eF, _, k0, k1, kz, _⟩ := h.own.fib hm
  obtain ⟨g, cap, eg, _, _⟩ := h.own.fr hm (j := 0) hr.fr
  obtain ⟨c0, c1, _, cz⟩ := h.cells
  rw [eF] at c0
  rw [eg] at k0
  rw [hn] at c1
  rw [hcm] at k1
  have hm0 : ¬ (m : Int) < 0 := by omega
  have hm1 : (0 : Int) ≤ (m : Int) := by omega
  have hm2 : (m : Int) < (s.fibers.length : Int) := by omega
  have hm3 : ¬ (s.fibers.length : Int) ≤ (m : Int) := by omega
  have hk1 : ∀ o, Kept w (w.alloc o) := fun o => (Kept.refl w).alloc o
  have hgo : (decide (m = 0) || !decide ((-1 : Int) = -1)) = false := by rw [decide_eq_false hmz]; rfl
  have HG : Hid (∀ o, Calls Tryz.prog 196 #[eng bs (.slice oa n cp), .int .i64 m] (w.alloc o) fun e w' => e = .returned (.bool false) ∧ Kept (w.alloc o) w') := hide (fun o => by
    have := goesOn_any bs s.fibers.length capF gF m n cp oa (-1) (w.alloc o) hm ((hk1 o).cell c0) ((hk1 o).cell k1)
    rw [hgo] at this
    exact this)
  have d0 : ∀ o, (w.alloc o).cell? ⟨bs, 0, none⟩ = some (.slice (some ⟨gF, 0, none⟩) s.fibers.length capF) := fun o => (hk1 o).cell c0
  have hq0 : (((fibAt s m).frames.length : Int) == 0) = false := by rw [beq_eq_false_iff_ne]; omega
  have hne : bs ≠ gF := fun e => h.off .fibers trivial (by rw [eF, e]; rfl)
  have HK := hide hk1
  have HO := hide h
  have HEF := hide eF
  have HEG := hide eg
  have HR0 := hide hr
  generalize hs1 : setFib s m { fibAt s m with caller := (i : Int) } = s1
  generalize hs2 : ({ s1 with now := (m : Int) } : St) = s2
  have hf2 : fibAt s2 m = { fibAt s m with caller := (i : Int) } := by rw [← hs2, ← hs1]; exact fibAt_same _ hm
  have hfr2 : ∀ j, frAt s2 m j = frAt s m j := fun j => by unfold frAt; rw [hf2]
  have hl2 : s2.fibers.length = s.fibers.length := by rw [← hs2, ← hs1]; exact setFib_len _ _ _
  have hr2 : Runs s2 m := ⟨by rw [hl2]; exact hm, by rw [hf2]; exact hfr, by rw [hf2]; exact hfrs, by rw [hfr2, hf2]; exact hr.st⟩
  have hn2 : s2.now = m := by rw [← hs2]
  have HMS : Hid (∀ u, OwnVar base u bs V s → Moved base bs V s u V s2 ((u.setCell ⟨gF, m * 2 + 1, none⟩ (.int .i64 i)).setCell ⟨bs, 1, none⟩ (.int .i64 m))) := hide (fun u hu => by
    have h1 := Moved.setCaller hu hm eF (i : Int)
    rw [hs1] at h1
    have h2 := Moved.setNow h1.own (m : Int)
    rw [hs2] at h2
    exact h1.trans h2)
  have HTP : Hid (∀ u, OwnVar base u bs V s2 → Calls Tryz.prog 165 #[eng bs (.slice oa n cp)] u fun e w' => e = .returned (.pointer (some ⟨g, ((fibAt s m).frames.length - 1) * 4, none⟩)) ∧ Kept u w') := hide (fun u hu => by
    obtain ⟨g', cap', eg', ht⟩ := engTop_own hu hn2 hr2 oa n cp
    rw [eg, hf2] at eg'
    obtain ⟨rfl, -⟩ := (by simpa using eg' : (g = g') ∧ True ∧ cap = cap')
    have := ht u hu
    rw [hf2] at this
    exact this)
  have hR : resumeS s i m z = if (frAt s m ((fibAt s m).frames.length - 1)).at_ = 0 then (setFr s2 m ((fibAt s m).frames.length - 1) { frAt s m ((fibAt s m).frames.length - 1) with locals := (frAt s m ((fibAt s m).frames.length - 1)).locals.set 0 z }, 0) else (pushV s2 m z, 0) := by
    unfold resumeS; rw [if_neg (by omega), Int.toNat_natCast, if_neg hb, ← hs2, ← hs1]
  generalize resumeS s i m z = R at hR ⊢
  have HPUT : Hid (∀ V2 u, OwnVar base u bs V2 s2 → Calls Tryz.prog 163 #[eng bs (.slice oa n cp), .slice (some ⟨u.heap.size, 0, none⟩) 1 1] (u.alloc (.cells #[.int .i64 z] 3)) (OnePost base bs V2 s2 (pushV s2 m z) (.tuple #[]) (u.alloc (.cells #[.int .i64 z] 3)))) := hide (fun V2 u hu =>
    engPut_any base bs V2 s2 m n cp u.heap.size oa z _ (hu.alloc _) hn2 hr2 (cell_lays (lays_new rfl) 0))
  have HFR : Hid (∀ u, OwnVar base u bs V s2 → u.cell? ⟨g, ((fibAt s m).frames.length - 1) * 4 + 1, none⟩ = some (.int .i64 (frAt s m ((fibAt s m).frames.length - 1)).at_) ∧ u.cell? ⟨g, ((fibAt s m).frames.length - 1) * 4 + 2, none⟩ = some (V (.locals m ((fibAt s m).frames.length - 1)))) := hide (fun u hu => by
    obtain ⟨g', cap', eg', _, f0, f1, f2, f3, ffz, _⟩ := hu.own.fr hr2.lt (j := (fibAt s m).frames.length - 1) (by rw [hf2]; show _ < (fibAt s m).frames.length; omega)
    rw [eg, hf2] at eg'
    obtain ⟨rfl, -⟩ := (by simpa using eg' : (g = g') ∧ True ∧ cap = cap')
    rw [hfr2] at f1
    exact ⟨f1, f2⟩)
  have HLOC : Hid ((frAt s m ((fibAt s m).frames.length - 1)).at_ = 0 → ∃ gl cl, 0 < (frAt s m ((fibAt s m).frames.length - 1)).locals.length ∧ V (.locals m ((fibAt s m).frames.length - 1)) = .slice (some ⟨gl, 0, none⟩) (frAt s m ((fibAt s m).frames.length - 1)).locals.length cl ∧ ∀ u, OwnVar base u bs V s2 → (∃ y, u.cell? ⟨gl, 0, none⟩ = some y) ∧ u.frozen? ⟨gl, 0, none⟩ = false ∧ Moved base bs V s2 u V (setFr s2 m ((fibAt s m).frames.length - 1) { frAt s m ((fibAt s m).frames.length - 1) with locals := (frAt s m ((fibAt s m).frames.length - 1)).locals.set 0 z }) (u.setCell ⟨gl, 0, none⟩ (.int .i64 z))) := hide (fun hat => by
    have hl := hloc hat
    have hj2 : (fibAt s m).frames.length - 1 < (fibAt s2 m).frames.length := by rw [hf2]; show _ < (fibAt s m).frames.length; omega
    obtain ⟨gl, cl, el, _, _⟩ := row_some (h.own.loc hm (j := (fibAt s m).frames.length - 1) (by omega)) hl
    refine ⟨gl, cl, hl, el, fun u hu => ?_⟩
    have hlc := hu.own.loc hr2.lt hj2
    rw [hfr2] at hlc
    obtain ⟨gl', cl', el', _, hx, hz, _⟩ := row_some hlc hl
    rw [el] at el'
    obtain ⟨rfl, -⟩ := (by simpa using el' : (gl = gl') ∧ True ∧ cl = cl')
    refine ⟨⟨_, hx 0 _ (ints_at (getD_of_lt _ 0 0 hl))⟩, hz 0, ?_⟩
    have := Moved.setLocal hu hr2.lt hj2 (q := 0) (by rw [hfr2]; exact el) z
    rw [hfr2] at this
    exact this)
  generalize hjj : (fibAt s m).frames.length - 1 = j at *
  generalize hq : (fibAt s m).frames.length = q at *
  generalize hat : (frAt s m j).at_ = at_ at *
  generalize (frAt s m j).locals.length = lo at *
  generalize setFr s2 m j { frAt s m j with locals := (frAt s m j).locals.set 0 z } = s3 at *
  generalize V (.locals m j) = vl at *
  have HR : Hid ((at_ = 0 → R = (s3, 0)) ∧ (at_ ≠ 0 → R = (pushV s2 m z, 0))) := hide ⟨fun h => by rw [hR, if_pos h], fun h => by rw [hR, if_neg h]⟩
  clear hs1 hs2 hf2 hfr2 hl2 hr2 hn2 hR eF eg hb hloc hgo hcm hr
  go_enter Tryz.func176, Tryz.ntmps176
  go_wp2_with fail
  refine ((unhide HG) _).mono ?_
  rintro e w1 ⟨rfl, hk2⟩
  have hk02 := ((unhide HK) _).trans hk2
  have l1 : w1.heap[w.heap.size]? = some (.cells #[.pointer (some ⟨bs, 0, none⟩), .slice oa n cp] 170) := lays_kept hk2 (lays_new rfl)
  have b0 : w1.cell? ⟨w.heap.size, 0, none⟩ = some (.pointer (some ⟨bs, 0, none⟩)) := cell_lays l1 0
  have e0 := hk02.cell c0
  have e1 := hk02.cell k0
  have e2 := hk02.cell c1
  have e3 := hk02.cell k1
  have ho1 := (unhide HO).kept hk02
  have z1 : w1.frozen? ⟨gF, m * 2 + 1, none⟩ = false := by
    obtain ⟨gF', capF', eF', _, _, _, kz', _⟩ := ho1.own.fib hm
    rw [unhide HEF] at eF'
    obtain ⟨⟨rfl⟩, -, rfl⟩ := (by simpa using eF' : (gF = gF') ∧ True ∧ capF = capF')
    exact kz' _
  have z2 := ho1.cells.2.2.2 1
  have hBn := (unhide HO).new (b := w.heap.size) (by omega)
  have hms := (unhide HMS) w1 ho1
  have HM2 := hide ((Moved.of_kept (unhide HO) hk02).trans hms)
  have HL2 := hide (hms.lays l1 hBn.1 hBn.2)
  have HB2 := hide (hms.off _ (Array.getElem?_eq_some_iff.1 l1).1 hBn.2)
  have hBg : gF ≠ w.heap.size := fun e => hBn.2 .fibers trivial (by rw [unhide HEF, e]; rfl)
  have hBs : bs ≠ w.heap.size := fun e => hBn.1 e.symm
  clear hk2 hk02 l1 ho1 hms kz cz
  go_upto_region 5 with fail
  go_region
  go_upto_region 7 with fail
  generalize hw2 : ((w1.setCell ⟨gF, m * 2 + 1, none⟩ (.int .i64 i)).setCell ⟨bs, 1, none⟩ (.int .i64 m)).drew = w2
  have hm2' : Moved base bs V s w V s2 w2 := by rw [← hw2]; exact (unhide HM2).drew
  have l2 : w2.heap[w.heap.size]? = some (.cells #[.pointer (some ⟨bs, 0, none⟩), .slice oa n cp] 170) := by rw [← hw2]; exact lays_drew (unhide HL2)
  have q0 : w2.cell? ⟨w.heap.size, 0, none⟩ = some (.pointer (some ⟨bs, 0, none⟩)) := cell_lays l2 0
  have q1 : w2.cell? ⟨w.heap.size, 1, none⟩ = some (.slice oa n cp) := cell_lays l2 1
  have HM3 := hide hm2'
  have HL3 := hide l2
  clear hw2 hm2' l2 b0 e0 e1 e2 e3 z1 z2
  go_wp2_with fail
  refine ((unhide HTP) w2 (unhide HM3).own).mono ?_
  rintro e w3 ⟨rfl, hk3⟩
  have l3 := lays_kept hk3 (unhide HL3)
  have r0 : w3.cell? ⟨w.heap.size, 0, none⟩ = some (.pointer (some ⟨bs, 0, none⟩)) := cell_lays l3 0
  have r1 : w3.cell? ⟨w.heap.size, 1, none⟩ = some (.slice oa n cp) := cell_lays l3 1
  have hm3 := (unhide HM3).kept hk3
  obtain ⟨f1, f2⟩ := (unhide HFR) w3 hm3.own
  have HM4 := hide hm3
  clear hk3 l3 hm3 q0 q1
  by_cases ha : at_ = 0
  · have hRR := hide ((unhide HR).1 ha)
    obtain ⟨gl, cl, hlo, rfl, hall⟩ := (unhide HLOC) ha
    obtain ⟨⟨y, hy⟩, hz, hm5⟩ := hall w3 (unhide HM4).own
    have HM5 := hide ((unhide HM4).trans hm5)
    subst ha
    have hl0 : (0 : Int) < (lo : Int) := by omega
    clear hall hm5
    go_wp2
    go_end0
    rw [unhide hRR]
    exact Or.inl ⟨rfl, rfl, V, unhide HM5⟩
  · have hRR := hide ((unhide HR).2 ha)
    have hba : (at_ == 0) = false := by rw [beq_eq_false_iff_ne]; exact ha
    clear ha
    go_wp2_with fail
    refine ((unhide HPUT) V w3 (unhide HM4).own).mono ?_
    rintro e w4 ⟨rfl, V4, hm4⟩
    have HM5 := hide ((unhide HM4).trans (hm4.pre (unhide HM4).own ((Kept.refl _).alloc _)))
    clear hm4
    go_wp2
    go_end0
    rw [unhide hRR]
    exact Or.inl ⟨rfl, rfl, V4, unhide HM5⟩
theorem do_push (base bs : Nat) (V : Key → Value) (s : St) (i n cp bp op : Nat) (a : Int) (w : World) (h : OwnVar base w bs V s) (hn : s.now = i) (hr : Runs s i) :
    Calls Tryz.prog 132 #[eng bs (.slice (some ⟨bp, op, none⟩) n cp), .agg #[.int .i64 0, .int .i64 a]] w (EngPost base bs V s (pushV s i a, 0) w) := by
  have HP : Hid (∀ u V', OwnVar base u bs V' s → Calls Tryz.prog 163 #[eng bs (.slice (some ⟨bp, op, none⟩) n cp), .slice (some ⟨u.heap.size, 0, none⟩) 1 1] (u.alloc (.cells #[.int .i64 a] 3)) (OnePost base bs V' s (pushV s i a) (.tuple #[]) (u.alloc (.cells #[.int .i64 a] 3)))) := hide (fun u V' hu => engPut_any base bs V' s i n cp u.heap.size (some ⟨bp, op, none⟩) a _ (hu.alloc _) hn hr (cell_lays (lays_new rfl) 0))
  have HO := hide h
  clear h hr
  go_enter Tryz.func132, Tryz.ntmps132
  go_upto_region 3 with fail
  generalize hwb : (w.alloc (.cells #[.pointer (some ⟨bs, 0, none⟩), .slice (some ⟨bp, op, none⟩) n cp] 170)).alloc (.cells #[.int .i64 0, .int .i64 a] 72) = wb
  have hkb : Kept w wb := by rw [← hwb]; exact ((Kept.refl w).alloc _).alloc _
  have lB : wb.heap[w.heap.size]? = some (.cells #[.pointer (some ⟨bs, 0, none⟩), .slice (some ⟨bp, op, none⟩) n cp] 170) := by rw [← hwb]; exact lays_alloc (lays_new rfl) _
  have lX : wb.heap[w.heap.size + 1]? = some (.cells #[.int .i64 0, .int .i64 a] 72) := by rw [← hwb]; exact lays_new (by simp)
  have b0 : wb.cell? ⟨w.heap.size, 0, none⟩ = some (.pointer (some ⟨bs, 0, none⟩)) := cell_lays lB 0
  have b1 : wb.cell? ⟨w.heap.size, 1, none⟩ = some (.slice (some ⟨bp, op, none⟩) n cp) := cell_lays lB 1
  have b2 : wb.cell? ⟨w.heap.size + 1, 1, none⟩ = some (.int .i64 a) := cell_lays lX 1
  have HKB := hide hkb
  have HLB := hide lB
  have HLX := hide lX
  clear hwb hkb lB lX
  go_wp2_with fail
  refine ((unhide HP) _ V ((unhide HO).kept (unhide HKB))).mono ?_
  rintro e w1 ⟨rfl, V1, hm⟩
  have HM := hide (hm.pre (unhide HO) ((unhide HKB).alloc _))
  clear hm
  go_wp2
  go_end0
  exact Or.inl ⟨rfl, rfl, V1, unhide HM⟩
theorem do_pop (base bs : Nat) (V : Key → Value) (s : St) (i n cp bp op : Nat) (a : Int) (w : World) (h : OwnVar base w bs V s) (hn : s.now = i) (hr : Runs s i) (hst : 0 < (frAt s i ((fibAt s i).frames.length - 1)).stack.length) :
    Calls Tryz.prog 132 #[eng bs (.slice (some ⟨bp, op, none⟩) n cp), .agg #[.int .i64 1, .int .i64 a]] w (EngPost base bs V s (pullV s, 0) w) := by
  have HT : Hid (∀ u V', OwnVar base u bs V' s → Calls Tryz.prog 164 #[eng bs (.slice (some ⟨bp, op, none⟩) n cp)] u (OnePost base bs V' s (pullV s) (.int .i64 (lastV s)) u)) := hide (fun u V' hu => take_any base bs V' s i n cp (some ⟨bp, op, none⟩) u hu hn hr hst)
  have HO := hide h
  clear h hr
  go_enter Tryz.func132, Tryz.ntmps132
  go_upto_region 5 with fail
  generalize hwb : (w.alloc (.cells #[.pointer (some ⟨bs, 0, none⟩), .slice (some ⟨bp, op, none⟩) n cp] 170)).alloc (.cells #[.int .i64 1, .int .i64 a] 72) = wb
  have hkb : Kept w wb := by rw [← hwb]; exact ((Kept.refl w).alloc _).alloc _
  have lB : wb.heap[w.heap.size]? = some (.cells #[.pointer (some ⟨bs, 0, none⟩), .slice (some ⟨bp, op, none⟩) n cp] 170) := by rw [← hwb]; exact lays_alloc (lays_new rfl) _
  have lX : wb.heap[w.heap.size + 1]? = some (.cells #[.int .i64 1, .int .i64 a] 72) := by rw [← hwb]; exact lays_new (by simp)
  have b0 : wb.cell? ⟨w.heap.size, 0, none⟩ = some (.pointer (some ⟨bs, 0, none⟩)) := cell_lays lB 0
  have b1 : wb.cell? ⟨w.heap.size, 1, none⟩ = some (.slice (some ⟨bp, op, none⟩) n cp) := cell_lays lB 1
  have b2 : wb.cell? ⟨w.heap.size + 1, 1, none⟩ = some (.int .i64 a) := cell_lays lX 1
  have HKB := hide hkb
  have HLB := hide lB
  have HLX := hide lX
  clear hwb hkb lB lX
  go_wp2_with fail
  refine ((unhide HT) _ V ((unhide HO).kept (unhide HKB))).mono ?_
  rintro e w1 ⟨rfl, V1, hm⟩
  have HM := hide (hm.pre (unhide HO) (unhide HKB))
  clear hm
  go_wp2
  go_end0
  exact Or.inl ⟨rfl, rfl, V1, unhide HM⟩
theorem do_two4 (base bs : Nat) (V : Key → Value) (s : St) (i n cp bp op : Nat) (a : Int) (w : World) (h : OwnVar base w bs V s) (hn : s.now = i) (hr : Runs s i) (hst : 2 ≤ (frAt s i ((fibAt s i).frames.length - 1)).stack.length) :
    Calls Tryz.prog 132 #[eng bs (.slice (some ⟨bp, op, none⟩) n cp), .agg #[.int .i64 4, .int .i64 a]] w (EngPost base bs V s (pushV (pullV (pullV s)) i (reckonS 4 (lastV (pullV s)) (lastV s)), 0) w) := by
  have HT := hide (fun u V' (hu : OwnVar base u bs V' s) => reckon_any 167 4 (by decide) reckons4 base bs V' s i n cp (some ⟨bp, op, none⟩) u hu hn hr hst)
  have HO := hide h
  generalize pushV (pullV (pullV s)) i (reckonS 4 (lastV (pullV s)) (lastV s)) = s1 at *
  clear h hr
  go_enter Tryz.func132, Tryz.ntmps132
  go_upto_region 11 with fail
  generalize hwb : (w.alloc (.cells #[.pointer (some ⟨bs, 0, none⟩), .slice (some ⟨bp, op, none⟩) n cp] 170)).alloc (.cells #[.int .i64 4, .int .i64 a] 72) = wb
  have hkb : Kept w wb := by rw [← hwb]; exact ((Kept.refl w).alloc _).alloc _
  have lB : wb.heap[w.heap.size]? = some (.cells #[.pointer (some ⟨bs, 0, none⟩), .slice (some ⟨bp, op, none⟩) n cp] 170) := by rw [← hwb]; exact lays_alloc (lays_new rfl) _
  have lX : wb.heap[w.heap.size + 1]? = some (.cells #[.int .i64 4, .int .i64 a] 72) := by rw [← hwb]; exact lays_new (by simp)
  have b0 : wb.cell? ⟨w.heap.size, 0, none⟩ = some (.pointer (some ⟨bs, 0, none⟩)) := cell_lays lB 0
  have b1 : wb.cell? ⟨w.heap.size, 1, none⟩ = some (.slice (some ⟨bp, op, none⟩) n cp) := cell_lays lB 1
  have b2 : wb.cell? ⟨w.heap.size + 1, 1, none⟩ = some (.int .i64 a) := cell_lays lX 1
  have HKB := hide hkb
  have HLB := hide lB
  have HLX := hide lX
  clear hwb hkb lB lX
  go_wp2_with fail
  refine ((unhide HT) _ V ((unhide HO).kept (unhide HKB))).mono ?_
  rintro e w1 ⟨rfl, V1, hm⟩
  have HM := hide (hm.pre (unhide HO) (unhide HKB))
  clear hm
  go_wp2
  go_end0
  exact Or.inl ⟨rfl, rfl, V1, unhide HM⟩
theorem do_two5 (base bs : Nat) (V : Key → Value) (s : St) (i n cp bp op : Nat) (a : Int) (w : World) (h : OwnVar base w bs V s) (hn : s.now = i) (hr : Runs s i) (hst : 2 ≤ (frAt s i ((fibAt s i).frames.length - 1)).stack.length) :
    Calls Tryz.prog 132 #[eng bs (.slice (some ⟨bp, op, none⟩) n cp), .agg #[.int .i64 5, .int .i64 a]] w (EngPost base bs V s (pushV (pullV (pullV s)) i (reckonS 5 (lastV (pullV s)) (lastV s)), 0) w) := by
  have HT := hide (fun u V' (hu : OwnVar base u bs V' s) => reckon_any 168 5 (by decide) reckons5 base bs V' s i n cp (some ⟨bp, op, none⟩) u hu hn hr hst)
  have HO := hide h
  generalize pushV (pullV (pullV s)) i (reckonS 5 (lastV (pullV s)) (lastV s)) = s1 at *
  clear h hr
  go_enter Tryz.func132, Tryz.ntmps132
  go_upto_region 13 with fail
  generalize hwb : (w.alloc (.cells #[.pointer (some ⟨bs, 0, none⟩), .slice (some ⟨bp, op, none⟩) n cp] 170)).alloc (.cells #[.int .i64 5, .int .i64 a] 72) = wb
  have hkb : Kept w wb := by rw [← hwb]; exact ((Kept.refl w).alloc _).alloc _
  have lB : wb.heap[w.heap.size]? = some (.cells #[.pointer (some ⟨bs, 0, none⟩), .slice (some ⟨bp, op, none⟩) n cp] 170) := by rw [← hwb]; exact lays_alloc (lays_new rfl) _
  have lX : wb.heap[w.heap.size + 1]? = some (.cells #[.int .i64 5, .int .i64 a] 72) := by rw [← hwb]; exact lays_new (by simp)
  have b0 : wb.cell? ⟨w.heap.size, 0, none⟩ = some (.pointer (some ⟨bs, 0, none⟩)) := cell_lays lB 0
  have b1 : wb.cell? ⟨w.heap.size, 1, none⟩ = some (.slice (some ⟨bp, op, none⟩) n cp) := cell_lays lB 1
  have b2 : wb.cell? ⟨w.heap.size + 1, 1, none⟩ = some (.int .i64 a) := cell_lays lX 1
  have HKB := hide hkb
  have HLB := hide lB
  have HLX := hide lX
  clear hwb hkb lB lX
  go_wp2_with fail
  refine ((unhide HT) _ V ((unhide HO).kept (unhide HKB))).mono ?_
  rintro e w1 ⟨rfl, V1, hm⟩
  have HM := hide (hm.pre (unhide HO) (unhide HKB))
  clear hm
  go_wp2
  go_end0
  exact Or.inl ⟨rfl, rfl, V1, unhide HM⟩
theorem do_two6 (base bs : Nat) (V : Key → Value) (s : St) (i n cp bp op : Nat) (a : Int) (w : World) (h : OwnVar base w bs V s) (hn : s.now = i) (hr : Runs s i) (hst : 2 ≤ (frAt s i ((fibAt s i).frames.length - 1)).stack.length) :
    Calls Tryz.prog 132 #[eng bs (.slice (some ⟨bp, op, none⟩) n cp), .agg #[.int .i64 6, .int .i64 a]] w (EngPost base bs V s (pushV (pullV (pullV s)) i (reckonS 6 (lastV (pullV s)) (lastV s)), 0) w) := by
  have HT := hide (fun u V' (hu : OwnVar base u bs V' s) => reckon_any 169 6 (by decide) reckons6 base bs V' s i n cp (some ⟨bp, op, none⟩) u hu hn hr hst)
  have HO := hide h
  generalize pushV (pullV (pullV s)) i (reckonS 6 (lastV (pullV s)) (lastV s)) = s1 at *
  clear h hr
  go_enter Tryz.func132, Tryz.ntmps132
  go_upto_region 15 with fail
  generalize hwb : (w.alloc (.cells #[.pointer (some ⟨bs, 0, none⟩), .slice (some ⟨bp, op, none⟩) n cp] 170)).alloc (.cells #[.int .i64 6, .int .i64 a] 72) = wb
  have hkb : Kept w wb := by rw [← hwb]; exact ((Kept.refl w).alloc _).alloc _
  have lB : wb.heap[w.heap.size]? = some (.cells #[.pointer (some ⟨bs, 0, none⟩), .slice (some ⟨bp, op, none⟩) n cp] 170) := by rw [← hwb]; exact lays_alloc (lays_new rfl) _
  have lX : wb.heap[w.heap.size + 1]? = some (.cells #[.int .i64 6, .int .i64 a] 72) := by rw [← hwb]; exact lays_new (by simp)
  have b0 : wb.cell? ⟨w.heap.size, 0, none⟩ = some (.pointer (some ⟨bs, 0, none⟩)) := cell_lays lB 0
  have b1 : wb.cell? ⟨w.heap.size, 1, none⟩ = some (.slice (some ⟨bp, op, none⟩) n cp) := cell_lays lB 1
  have b2 : wb.cell? ⟨w.heap.size + 1, 1, none⟩ = some (.int .i64 a) := cell_lays lX 1
  have HKB := hide hkb
  have HLB := hide lB
  have HLX := hide lX
  clear hwb hkb lB lX
  go_wp2_with fail
  refine ((unhide HT) _ V ((unhide HO).kept (unhide HKB))).mono ?_
  rintro e w1 ⟨rfl, V1, hm⟩
  have HM := hide (hm.pre (unhide HO) (unhide HKB))
  clear hm
  go_wp2
  go_end0
  exact Or.inl ⟨rfl, rfl, V1, unhide HM⟩
theorem do_two7 (base bs : Nat) (V : Key → Value) (s : St) (i n cp bp op : Nat) (a : Int) (w : World) (h : OwnVar base w bs V s) (hn : s.now = i) (hr : Runs s i) (hst : 2 ≤ (frAt s i ((fibAt s i).frames.length - 1)).stack.length) :
    Calls Tryz.prog 132 #[eng bs (.slice (some ⟨bp, op, none⟩) n cp), .agg #[.int .i64 7, .int .i64 a]] w (EngPost base bs V s (pushV (pullV (pullV s)) i (reckonS 7 (lastV (pullV s)) (lastV s)), 0) w) := by
  have HT := hide (fun u V' (hu : OwnVar base u bs V' s) => reckon_any 170 7 (by decide) reckons7 base bs V' s i n cp (some ⟨bp, op, none⟩) u hu hn hr hst)
  have HO := hide h
  generalize pushV (pullV (pullV s)) i (reckonS 7 (lastV (pullV s)) (lastV s)) = s1 at *
  clear h hr
  go_enter Tryz.func132, Tryz.ntmps132
  go_upto_region 17 with fail
  generalize hwb : (w.alloc (.cells #[.pointer (some ⟨bs, 0, none⟩), .slice (some ⟨bp, op, none⟩) n cp] 170)).alloc (.cells #[.int .i64 7, .int .i64 a] 72) = wb
  have hkb : Kept w wb := by rw [← hwb]; exact ((Kept.refl w).alloc _).alloc _
  have lB : wb.heap[w.heap.size]? = some (.cells #[.pointer (some ⟨bs, 0, none⟩), .slice (some ⟨bp, op, none⟩) n cp] 170) := by rw [← hwb]; exact lays_alloc (lays_new rfl) _
  have lX : wb.heap[w.heap.size + 1]? = some (.cells #[.int .i64 7, .int .i64 a] 72) := by rw [← hwb]; exact lays_new (by simp)
  have b0 : wb.cell? ⟨w.heap.size, 0, none⟩ = some (.pointer (some ⟨bs, 0, none⟩)) := cell_lays lB 0
  have b1 : wb.cell? ⟨w.heap.size, 1, none⟩ = some (.slice (some ⟨bp, op, none⟩) n cp) := cell_lays lB 1
  have b2 : wb.cell? ⟨w.heap.size + 1, 1, none⟩ = some (.int .i64 a) := cell_lays lX 1
  have HKB := hide hkb
  have HLB := hide lB
  have HLX := hide lX
  clear hwb hkb lB lX
  go_wp2_with fail
  refine ((unhide HT) _ V ((unhide HO).kept (unhide HKB))).mono ?_
  rintro e w1 ⟨rfl, V1, hm⟩
  have HM := hide (hm.pre (unhide HO) (unhide HKB))
  clear hm
  go_wp2
  go_end0
  exact Or.inl ⟨rfl, rfl, V1, unhide HM⟩
theorem do_two8 (base bs : Nat) (V : Key → Value) (s : St) (i n cp bp op : Nat) (a : Int) (w : World) (h : OwnVar base w bs V s) (hn : s.now = i) (hr : Runs s i) (hst : 2 ≤ (frAt s i ((fibAt s i).frames.length - 1)).stack.length) :
    Calls Tryz.prog 132 #[eng bs (.slice (some ⟨bp, op, none⟩) n cp), .agg #[.int .i64 8, .int .i64 a]] w (EngPost base bs V s (pushV (pullV (pullV s)) i (reckonS 8 (lastV (pullV s)) (lastV s)), 0) w) := by
  have HT := hide (fun u V' (hu : OwnVar base u bs V' s) => reckon_any 172 8 (by decide) reckons8 base bs V' s i n cp (some ⟨bp, op, none⟩) u hu hn hr hst)
  have HO := hide h
  generalize pushV (pullV (pullV s)) i (reckonS 8 (lastV (pullV s)) (lastV s)) = s1 at *
  clear h hr
  go_enter Tryz.func132, Tryz.ntmps132
  go_upto_region 19 with fail
  generalize hwb : (w.alloc (.cells #[.pointer (some ⟨bs, 0, none⟩), .slice (some ⟨bp, op, none⟩) n cp] 170)).alloc (.cells #[.int .i64 8, .int .i64 a] 72) = wb
  have hkb : Kept w wb := by rw [← hwb]; exact ((Kept.refl w).alloc _).alloc _
  have lB : wb.heap[w.heap.size]? = some (.cells #[.pointer (some ⟨bs, 0, none⟩), .slice (some ⟨bp, op, none⟩) n cp] 170) := by rw [← hwb]; exact lays_alloc (lays_new rfl) _
  have lX : wb.heap[w.heap.size + 1]? = some (.cells #[.int .i64 8, .int .i64 a] 72) := by rw [← hwb]; exact lays_new (by simp)
  have b0 : wb.cell? ⟨w.heap.size, 0, none⟩ = some (.pointer (some ⟨bs, 0, none⟩)) := cell_lays lB 0
  have b1 : wb.cell? ⟨w.heap.size, 1, none⟩ = some (.slice (some ⟨bp, op, none⟩) n cp) := cell_lays lB 1
  have b2 : wb.cell? ⟨w.heap.size + 1, 1, none⟩ = some (.int .i64 a) := cell_lays lX 1
  have HKB := hide hkb
  have HLB := hide lB
  have HLX := hide lX
  clear hwb hkb lB lX
  go_wp2_with fail
  refine ((unhide HT) _ V ((unhide HO).kept (unhide HKB))).mono ?_
  rintro e w1 ⟨rfl, V1, hm⟩
  have HM := hide (hm.pre (unhide HO) (unhide HKB))
  clear hm
  go_wp2
  go_end0
  exact Or.inl ⟨rfl, rfl, V1, unhide HM⟩
theorem do_call (base bs : Nat) (V : Key → Value) (s : St) (i n cp bp op : Nat) (a : Int) (w : World) (h : OwnVar base w bs V s) (hn : s.now = i) (hr : Runs s i) (f a2 lo : Nat) (haf : a = f) (h6 : (fibAt s i).frames.length ≤ 6) (hf : f < n) (hlo : lo ≤ 1000) (hal : a2 ≤ lo) (ha : a2 ≤ (frAt s i ((fibAt s i).frames.length - 1)).stack.length)
    (hp : ∀ u, Below base w u → u.cell? ⟨bp, op + f * 3, none⟩ = some (.int .i64 a2) ∧ u.cell? ⟨bp, op + f * 3 + 1, none⟩ = some (.int .i64 lo)) :
    Calls Tryz.prog 132 #[eng bs (.slice (some ⟨bp, op, none⟩) n cp), .agg #[.int .i64 11, .int .i64 a]] w (EngPost base bs V s (callS s i f a2 lo) w) := by
  have HT := hide (fun u (hu : Kept w u) => call_any base bs V s i n cp bp op f a2 lo u (h.kept hu) hn hr h6 hf hlo hal ha (fun u' hb => hp u' (Below.trans (h.below hu) hb)))
  have HO := hide h
  generalize callS s i f a2 lo = R at *
  subst haf
  clear h hr hp
  go_enter Tryz.func132, Tryz.ntmps132
  go_upto_region 26 with fail
  generalize hwb : (w.alloc (.cells #[.pointer (some ⟨bs, 0, none⟩), .slice (some ⟨bp, op, none⟩) n cp] 170)).alloc (.cells #[.int .i64 11, .int .i64 f] 72) = wb
  have hkb : Kept w wb := by rw [← hwb]; exact ((Kept.refl w).alloc _).alloc _
  have lB : wb.heap[w.heap.size]? = some (.cells #[.pointer (some ⟨bs, 0, none⟩), .slice (some ⟨bp, op, none⟩) n cp] 170) := by rw [← hwb]; exact lays_alloc (lays_new rfl) _
  have lX : wb.heap[w.heap.size + 1]? = some (.cells #[.int .i64 11, .int .i64 f] 72) := by rw [← hwb]; exact lays_new (by simp)
  have b0 : wb.cell? ⟨w.heap.size, 0, none⟩ = some (.pointer (some ⟨bs, 0, none⟩)) := cell_lays lB 0
  have b1 : wb.cell? ⟨w.heap.size, 1, none⟩ = some (.slice (some ⟨bp, op, none⟩) n cp) := cell_lays lB 1
  have b2 : wb.cell? ⟨w.heap.size + 1, 1, none⟩ = some (.int .i64 f) := cell_lays lX 1
  have HKB := hide hkb
  have HLB := hide lB
  have HLX := hide lX
  clear hwb hkb lB lX
  go_wp2_with fail
  refine ((unhide HT) _ (unhide HKB)).mono ?_
  intro e w1 hp
  have hp' := hp.pre (unhide HO) (Moved.of_kept (unhide HO) (unhide HKB))
  have HP := hide hp'
  rcases hp with ⟨_, rfl, _⟩ | ⟨_, rfl, _⟩
  · clear hp'
    go_wp2
    go_end0
    exact unhide HP
  · clear hp'
    dsimp only [left]
    go_wp2
    exact ⟨rfl, unhide HP⟩
theorem do_make (base bs : Nat) (V : Key → Value) (s : St) (i n cp bp op : Nat) (a : Int) (w : World) (h : OwnVar base w bs V s) (hn : s.now = i) (hr : Runs s i) (f lo : Nat) (haf : a = f) (h5 : s.fibers.length ≤ 5) (hf : f < n) (hlo : lo ≤ 1000) (hp : ∀ u, Below base w u → u.cell? ⟨bp, op + f * 3 + 1, none⟩ = some (.int .i64 lo)) :
    Calls Tryz.prog 132 #[eng bs (.slice (some ⟨bp, op, none⟩) n cp), .agg #[.int .i64 13, .int .i64 a]] w (EngPost base bs V s (makeS s i f lo) w) := by
  have HT := hide (fun u (hu : Kept w u) => makeFiber_any base bs V s i n cp bp op f lo u (h.kept hu) hn hr h5 hf hlo (fun u' hb => hp u' (Below.trans (h.below hu) hb)))
  have HO := hide h
  generalize makeS s i f lo = R at *
  subst haf
  clear h hr hp
  go_enter Tryz.func132, Tryz.ntmps132
  go_upto_region 30 with fail
  generalize hwb : (w.alloc (.cells #[.pointer (some ⟨bs, 0, none⟩), .slice (some ⟨bp, op, none⟩) n cp] 170)).alloc (.cells #[.int .i64 13, .int .i64 f] 72) = wb
  have hkb : Kept w wb := by rw [← hwb]; exact ((Kept.refl w).alloc _).alloc _
  have lB : wb.heap[w.heap.size]? = some (.cells #[.pointer (some ⟨bs, 0, none⟩), .slice (some ⟨bp, op, none⟩) n cp] 170) := by rw [← hwb]; exact lays_alloc (lays_new rfl) _
  have lX : wb.heap[w.heap.size + 1]? = some (.cells #[.int .i64 13, .int .i64 f] 72) := by rw [← hwb]; exact lays_new (by simp)
  have b0 : wb.cell? ⟨w.heap.size, 0, none⟩ = some (.pointer (some ⟨bs, 0, none⟩)) := cell_lays lB 0
  have b1 : wb.cell? ⟨w.heap.size, 1, none⟩ = some (.slice (some ⟨bp, op, none⟩) n cp) := cell_lays lB 1
  have b2 : wb.cell? ⟨w.heap.size + 1, 1, none⟩ = some (.int .i64 f) := cell_lays lX 1
  have HKB := hide hkb
  have HLB := hide lB
  have HLX := hide lX
  clear hwb hkb lB lX
  go_wp2_with fail
  refine ((unhide HT) _ (unhide HKB)).mono ?_
  intro e w1 hp
  have hp' := hp.pre (unhide HO) (Moved.of_kept (unhide HO) (unhide HKB))
  have HP := hide hp'
  rcases hp with ⟨_, rfl, _⟩ | ⟨_, rfl, _⟩
  · clear hp'
    go_wp2
    go_end0
    exact unhide HP
  · clear hp'
    dsimp only [left]
    go_wp2
    exact ⟨rfl, unhide HP⟩
end Go.Proofs.YtokhibfenccijaaGreatDoor
