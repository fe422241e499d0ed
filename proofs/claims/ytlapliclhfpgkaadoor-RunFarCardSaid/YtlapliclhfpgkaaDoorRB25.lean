/- EngI, OwnJ, Takes, TakesT -/
import Derived.Test.YtlapliclhfpgkaaDoorRB24
import Derived.Test.YtlapliclhfpgkaaDoorRB22
import Derived.Test.YtlapliclhfpgkaaDoorRB01
import Derived.Test.YtlapliclhfpgkaaDoorChecked
import Derived.Deep.RegionHeld3
namespace Go.Proofs.YtlapliclhfpgkaaDoor
open Go.RowKit
theorem EngPost.pre {base bs : Nat} {V V1 : Key → Value} {s s1 : St} {r : St × Int} {w w1 : World} {e : Ending} {w' : World} (h : EngPost base bs V1 s1 r w1 e w') (_ : OwnVar base w bs V s) (hm : Moved base bs V s w V1 s1 w1) : EngPost base bs V s r w e w' := by
  rcases h with ⟨h1, h2, V', h3⟩ | ⟨h1, h2, h3⟩
  · exact .inl ⟨h1, h2, V', hm.trans h3⟩
  · exact .inr ⟨h1, h2, hm.past h3⟩
set_option maxHeartbeats 4000000 in
set_option maxRecDepth 100000 in
theorem giveBack_any (base bs : Nat) (V : Key → Value) (s : St) (i n cp : Nat) (oa : Option Addr) (z : Int) (w : World) (h : OwnVar base w bs V s) (hn : s.now = i) (hr : Runs s i) (hout : s.out.length ≤ 30)
    (hc1 : (fibAt s i).frames.length = 1 → (fibAt s i).caller ≠ -1 → ∃ m : Nat, (fibAt s i).caller = m ∧ m ≠ i ∧ Runs s m) (hc2 : (fibAt s i).frames.length ≠ 1 → Runs (dropped s i) i) :
    Calls Tryd.prog 77 #[eng bs (.slice oa n cp), .int .i64 z] w (EngPost base bs V s (gaveBack s i z) w) := by
  have hi := hr.lt
  obtain ⟨gF, capF, eF, hrun⟩ := running_own h hn hi oa n cp
  obtain ⟨g, cap, eg, hqc, _⟩ := h.own.fr hi (j := 0) hr.fr
  have HMD : Hid (∀ u, OwnVar base u bs V s → Moved base bs V s u (upd V (.frames i) (.slice (some ⟨g, 0, none⟩) ((fibAt s i).frames.length - 1) cap)) (dropped s i) (u.setCell ⟨gF, i * 2, none⟩ (.slice (some ⟨g, 0, none⟩) ((fibAt s i).frames.length - 1) cap))) := hide (fun u hu => Moved.dropFrame hu hi eF eg)
  have hfr := hr.fr
  have hfrs := hr.frs
  have hout1 : (gaveWay (dropped s i) i).out.length ≤ 30 := hout
  have hfd := dropped_fib hi
  have hnd : (dropped s i).now = i := hn
  have hid : i < (dropped s i).fibers.length := by rw [dropped_len]; exact hi
  have HWS : Hid (∀ u V', OwnVar base u bs V' (dropped s i) → Calls Tryd.prog 88 #[eng bs (.slice oa n cp)] u (OnePost base bs V' (dropped s i) (gaveWay (dropped s i) i) (.tuple #[]) u)) := hide (fun u V' hu => giveWay_any base bs V' (dropped s i) i n cp oa u hu hnd hid)
  have HPO : Hid (∀ u V', OwnVar base u bs V' (gaveWay (dropped s i) i) → Calls Tryd.prog 81 #[eng bs (.slice oa n cp), .int .i64 z] u (EngPost base bs V' (gaveWay (dropped s i) i) (putS (gaveWay (dropped s i) i) z) u)) := hide (fun u V' hu => putOut_any base bs V' _ n cp oa z u hu hout1)
  have HPI : Hid ((fibAt s i).frames.length ≠ 1 → ∀ u V', OwnVar base u bs V' (dropped s i) → Calls Tryd.prog 66 #[eng bs (.slice oa n cp), .slice (some ⟨u.heap.size, 0, none⟩) 1 1] (u.alloc (.cells #[.int .i64 z] 3)) (OnePost base bs V' (dropped s i) (pushV (dropped s i) i z) (.tuple #[]) (u.alloc (.cells #[.int .i64 z] 3)))) := hide (fun hq u V' hu =>
    engPut_any base bs V' _ i n cp u.heap.size oa z _ (hu.alloc _) hnd (hc2 hq) (cell_lays (lays_new rfl) 0))
  have HPW : Hid ((fibAt s i).frames.length = 1 → ∀ m : Nat, (fibAt s i).caller = m → m ≠ i → Runs s m → ∀ u V', OwnVar base u bs V' (gaveWay (dropped s i) i) → Calls Tryd.prog 66 #[eng bs (.slice oa n cp), .slice (some ⟨u.heap.size, 0, none⟩) 1 1] (u.alloc (.cells #[.int .i64 z] 3)) (OnePost base bs V' (gaveWay (dropped s i) i) (pushV (gaveWay (dropped s i) i) m z) (.tuple #[]) (u.alloc (.cells #[.int .i64 z] 3)))) := hide (fun hq m hm hmi hrm u V' hu =>
    engPut_any base bs V' _ m n cp u.heap.size oa z _ (hu.alloc _) (by show (fibAt (dropped s i) i).caller = m; rw [hfd]; exact hm) (way_runs hmi (hrm.other (dropped_len s i) (fibAt_ne _ (fun e => hmi e.symm)))) (cell_lays (lays_new rfl) 0))
  have HNW : Hid ((gaveWay (dropped s i) i).now = (fibAt s i).caller) := hide (by show (fibAt (dropped s i) i).caller = _; rw [hfd])
  have HGB : Hid (((fibAt s i).frames.length = 1 → (fibAt s i).caller = -1 → gaveBack s i z = putS (gaveWay (dropped s i) i) z) ∧ (∀ m : Nat, (fibAt s i).frames.length = 1 → (fibAt s i).caller = m → gaveBack s i z = (pushV (gaveWay (dropped s i) i) m z, 0)) ∧ ((fibAt s i).frames.length ≠ 1 → gaveBack s i z = (pushV (dropped s i) i z, 0))) := hide ⟨fun h1 h2 => by unfold gaveBack; rw [if_pos h1, if_pos h2], fun m h1 h2 => by unfold gaveBack; rw [if_pos h1, if_neg (by omega), h2], fun h1 => by unfold gaveBack; rw [if_neg h1]⟩
  have HC1 := hide hc1
  generalize hqq : (fibAt s i).frames.length = q at *
  have HQ := hide hqq
  obtain ⟨t, rfl⟩ : ∃ t, q = t + 1 := ⟨q - 1, by omega⟩
  have hw1 : IntKind.i64.wrap ((t : Int) + 1 - 1) = (t : Int) := by rw [IntKind.wrap_i64]; omega
  have hw2 : IntKind.i64.wrap (t : Int) = (t : Int) := by rw [IntKind.wrap_i64]; omega
  have ht0 : (0 : Int) ≤ (t : Int) := by omega
  have ht1 : (t : Int) ≤ (cap : Int) := by omega
  have HT := hide hrun
  have HO := hide h
  have HEF := hide eF
  have HEG := hide eg
  have HND : Hid ((dropped s i).now = i) := hide hnd
  generalize hcc : (fibAt s i).caller = c at *
  generalize hR : gaveBack s i z = R at *
  have HCC := hide hcc
  have HNOW := hide hn
  generalize hsd : dropped s i = sd at *
  generalize hsw : gaveWay sd i = sw at *
  rw [Nat.add_sub_cancel] at HMD
  generalize hVd : upd V (.frames i) (.slice (some ⟨g, 0, none⟩) t cap) = Vd at *
  have hVdF : Vd .fibers = .slice (some ⟨gF, 0, none⟩) s.fibers.length capF := by rw [← hVd, upd_ne V _ (by simp)]; exact unhide HEF
  have hVdf : Vd (.frames i) = .slice (some ⟨g, 0, none⟩) t cap := by rw [← hVd, upd_same]
  have HVF := hide hVdF
  have HVf := hide hVdf
  have HLD : Hid (sd.fibers.length = s.fibers.length) := by rw [← hsd]; exact hide (dropped_len s i)
  clear hrun h eF eg hqq hcc hn hnd hR hsd hsw hVd hVdF hVdf hfd hc1 hc2 hr hout1 hid hqc
  go_enter Tryd.func77, Tryd.ntmps77
  go_wp2_with fail
  generalize hwb : w.alloc (.cells #[.pointer (some ⟨bs, 0, none⟩), .slice oa n cp] 87) = wb
  have hkb : Kept w wb := by rw [← hwb]; exact (Kept.refl w).alloc _
  have lB : wb.heap[w.heap.size]? = some (.cells #[.pointer (some ⟨bs, 0, none⟩), .slice oa n cp] 87) := by rw [← hwb]; exact lays_new rfl
  have hob : OwnVar base wb bs V s := (unhide HO).kept hkb
  refine ((unhide HT) wb hob).mono ?_
  rintro e w1 ⟨rfl, hk1⟩
  have ho1 := hob.kept hk1
  have hk01 := hkb.trans hk1
  have l1 := lays_kept hk1 lB
  obtain ⟨gF', capF', eF', _, k0, k1, kz, _⟩ := ho1.own.fib hi
  rw [unhide HEF] at eF'
  obtain ⟨⟨rfl⟩, -, rfl⟩ := (by simpa using eF' : (gF = gF') ∧ True ∧ capF = capF')
  rw [unhide HEG] at k0
  have kz0 := kz (i * 2)
  obtain ⟨hBn, hBo⟩ := (unhide HO).new (b := w.heap.size) (by omega)
  have hmd := (unhide HMD) w1 ho1
  have l2 := hmd.lays l1 hBn hBo
  have HBO := hide (hmd.off _ (Array.getElem?_eq_some_iff.1 l1).1 hBo)
  have HM2 := hide (((Moved.of_kept (unhide HO) hk01).trans hmd).drew)
  have HL2 := hide l2
  clear hwb hob hkb hk1 ho1 kz k1 eF' hk01 lB l1 hBo HT hmd l2
  go_upto_region 2 with fail
  go_region
  go_upto_region 3 with fail
  generalize hw2 : (w1.setCell ⟨gF, i * 2, none⟩ (.slice (some ⟨g, 0, none⟩) t cap)).drew = w2 at *
  have ho2 := (unhide HM2).own
  obtain ⟨gF2, capF2, eF2, _, j0, j1, _, _⟩ := ho2.own.fib (i := i) (by rw [unhide HLD]; exact hi)
  rw [unhide HVF, unhide HLD] at eF2
  obtain ⟨⟨rfl⟩, -, rfl⟩ := (by simpa using eF2 : (gF = gF2) ∧ True ∧ capF = capF2)
  rw [unhide HVf] at j0
  obtain ⟨_, n1, _, _⟩ := ho2.cells
  rw [unhide HND] at n1
  have L2 : w2.heap[w.heap.size]? = some (.cells #[.pointer (some ⟨bs, 0, none⟩), .slice oa n cp] 87) := by rw [← hw2]; exact lays_drew (unhide HL2)
  have b0 : w2.cell? ⟨w.heap.size, 0, none⟩ = some (.pointer (some ⟨bs, 0, none⟩)) := cell_lays L2 0
  have b1 : w2.cell? ⟨w.heap.size, 1, none⟩ = some (.slice oa n cp) := cell_lays L2 1
  have HLL := hide L2
  have HO2 := hide ho2
  clear hw2 ho2 eF2 L2 k0 kz0 j1
  by_cases hq1 : t = 0
  · subst hq1
    clear n1
    have hq : 0 + 1 = 1 := rfl
    go_wp2_with fail
    refine ((unhide HWS) w2 Vd (unhide HO2)).mono ?_
    rintro e w3 ⟨rfl, V3, hm3⟩
    have l3 := hm3.lays (unhide HLL) hBn (unhide HBO)
    have HBO3 := hide (hm3.off _ (Array.getElem?_eq_some_iff.1 (unhide HLL)).1 (unhide HBO))
    have q0 : w3.cell? ⟨w.heap.size, 0, none⟩ = some (.pointer (some ⟨bs, 0, none⟩)) := cell_lays l3 0
    have q1 : w3.cell? ⟨w.heap.size, 1, none⟩ = some (.slice oa n cp) := cell_lays l3 1
    obtain ⟨_, n3, _, _⟩ := hm3.own.cells
    rw [unhide HNW] at n3
    have HM3 := hide ((unhide HM2).trans hm3)
    clear hm3 l3 b0 b1 j0
    by_cases hm1 : c = -1
    · have HR := hide ((unhide HGB).1 hq hm1)
      subst hm1
      go_wp2_with fail
      refine ((unhide HPO) w3 V3 (unhide HM3).own).mono ?_
      intro e w4 hp
      have hp' := hp.pre (unhide HO) (unhide HM3)
      rw [← unhide HR] at hp'
      rcases hp with ⟨_, rfl, _⟩ | ⟨_, rfl, _⟩
      · have HP := hide hp'
        clear hp'
        go_wp2
        go_end0
        exact unhide HP
      · have HP := hide hp'
        clear hp'
        dsimp only [left]
        go_wp2
        exact ⟨rfl, unhide HP⟩
    · obtain ⟨m, hcm, hmi, hrm⟩ := (unhide HC1) hq hm1
      have HR := hide ((unhide HGB).2.1 m hq hcm)
      have hb1 : ((m : Int) == -1) = false := by rw [beq_eq_false_iff_ne]; omega
      have HPM := hide ((unhide HPW) hq m hcm hmi hrm)
      subst hcm
      clear hrm hm1
      go_wp2_with fail
      refine ((unhide HPM) w3 V3 (unhide HM3).own).mono ?_
      rintro e w4 ⟨rfl, V4, hm4⟩
      have HM4 := hide ((unhide HM3).trans (hm4.pre (unhide HM3).own ((Kept.refl _).alloc _)))
      clear hm4
      go_wp2
      go_end0
      rw [unhide HR]
      exact Or.inl ⟨rfl, rfl, V4, unhide HM4⟩
  · have hb0 : ((t : Int) == 0) = false := by rw [beq_eq_false_iff_ne]; omega
    have hbi : ((i : Int) == -1) = false := by rw [beq_eq_false_iff_ne]; omega
    have HR := hide ((unhide HGB).2.2 (by omega))
    have HPM := hide ((unhide HPI) (by omega))
    go_wp2_with fail
    refine ((unhide HPM) w2 Vd (unhide HO2)).mono ?_
    rintro e w4 ⟨rfl, V4, hm4⟩
    have HM4 := hide ((unhide HM2).trans (hm4.pre (unhide HO2) ((Kept.refl _).alloc _)))
    clear hm4
    go_wp2
    go_end0
    rw [unhide HR]
    exact Or.inl ⟨rfl, rfl, V4, unhide HM4⟩
end Go.Proofs.YtlapliclhfpgkaaDoor
namespace Go.Proofs.YtlapliclhfpgkaaDoor
open Go.RowKit
theorem infoFrame : (Tryd.prog.info? 64).map (fun i => (i.zero, i.size, i.bytes)) = some (some (.agg #[.int .i64 0, .int .i64 0, .slice none 0 0, .slice none 0 0]), 4, 64) := by kernel_rfl
theorem infoFiber : (Tryd.prog.info? 62).map (fun i => (i.zero, i.size, i.bytes)) = some (some (.agg #[.slice none 0 0, .int .i64 0]), 2, 32) := by kernel_rfl
theorem at_block (B j : Nat) : (⟨B, 0, none⟩ : Addr).add j = ⟨B, j, none⟩ := by unfold Addr.add; split <;> simp_all
theorem row_block {w : World} {base B : Nat} {l : List Int} (hb : base ≤ B) (hB : w.heap[B]? = some (.cells (ints l).toArray 3)) (hl : l.length ≤ 1000) : w.ownsRow base 3 1 (.slice (some ⟨B, 0, none⟩) l.length l.length) l.length (ints l) :=
  ⟨by simp [ints_len], .inr ⟨B, l.length, (ints l).toArray, rfl, hb, hB, Nat.le_refl _, by unfold maxLen; omega, by simp [ints_len], List.take_of_length_le (by simp [ints_len])⟩⟩
theorem frame_comes {base bs : Nat} {V : Key → Value} {s : St} {u : World} (h : OwnVar base u bs V s) {i gF capF BL B : Nat} (hi : i < s.fibers.length) (hF : V .fibers = .slice (some ⟨gF, 0, none⟩) s.fibers.length capF)
    (hfr : (fibAt s i).frames.length ≤ 1000) (f : Fr) (hst : f.stack = []) (hlo : f.locals.length ≤ 1000) (hBL : u.heap[BL]? = some (.cells (ints f.locals).toArray 3)) (hoff : Own.off V s BL) (hlow : base ≤ BL) (hbsL : bs ≠ BL)
    (hB : u.heap[B]? = some (.cells #[.int .i64 f.fn, .int .i64 f.at_, .slice (some ⟨BL, 0, none⟩) f.locals.length f.locals.length, .slice none 0 0] 64)) :
    ∃ v' w' V', (Builtin.append_ #[60, 60] 60 #[V (.frames i), .slice (some ⟨B, 0, none⟩) 1 1]).run Tryd.prog u = .ok v' w' ∧
      (∃ o c, v' = .slice o ((fibAt s i).frames.length + 1) c) ∧ OwnVar base (w'.setCell ⟨gF, i * 2, none⟩ v') bs V' (setFib s i { fibAt s i with frames := (fibAt s i).frames ++ [f] }) ∧ u.grownBy w' (V (.frames i)).ownBlock ∧
      ∀ k b, live (setFib s i { fibAt s i with frames := (fibAt s i).frames ++ [f] }) k → (V' k).ownBlock = some b → (∃ k', live s k' ∧ (V k').ownBlock = some b) ∨ b = BL ∨ b = u.heap.size := by
  obtain ⟨i0, hi0, hz0, hz1, hz2⟩ := info_parts infoFrame
  have hbw : bs < u.heap.size := lt_of_block h.var
  have hbase : base ≤ u.heap.size := by have := h.low; omega
  have hlB : BL < u.heap.size := (Array.getElem?_eq_some_iff.1 hBL).1
  obtain ⟨xs, hrow, _⟩ := h.own.piece (.frames i) hi
  obtain ⟨v', w', hrun, hown', hgrow, _, hat⟩ := run_append_own_at (P := Tryd.prog) u base 60 60 64 i0 _ 4 64 Tryd.underlying60 hi0 hz0 hz1 hz2 rfl (by decide) _ _ xs hrow ⟨B, 0, none⟩ 1 1
    [.int .i64 f.fn, .int .i64 f.at_, .slice (some ⟨BL, 0, none⟩) f.locals.length f.locals.length, .slice none 0 0] rfl (fun j x hj => by
      rw [at_block, cell_lays hB]
      simpa using hj) (by intro x hx; simp only [List.mem_cons, List.not_mem_nil, or_false] at hx; rcases hx with rfl | rfl | rfl | rfl <;> rfl) (by unfold maxLen; omega) (by omega) (by omega)
  have hFb : (V .fibers).ownBlock = some gF := by rw [hF]; rfl
  have hloc : w'.ownsRow base 3 1 (.slice (some ⟨BL, 0, none⟩) f.locals.length f.locals.length) f.locals.length (ints f.locals) :=
    row_block hlow ((hgrow.block BL hlB (fun e => hoff (.frames i) hi e.symm)).trans hBL) hlo
  have hadd := h.own.addFrame hi hF f (.slice (some ⟨BL, 0, none⟩) f.locals.length f.locals.length) v' hst (gl := BL) (.inr rfl) hoff hlB hloc (fun b hb hne => hgrow.block b hb (fun e => hne e.symm)) (fun ys hy => by
    rw [row_unique hy hrow]; exact hown') hat
  have hblk : ∀ k b, live (setFib s i { fibAt s i with frames := (fibAt s i).frames ++ [f] }) k → (upd (upd (upd V (.frames i) v') (.locals i (fibAt s i).frames.length) (.slice (some ⟨BL, 0, none⟩) f.locals.length f.locals.length)) (.stack i (fibAt s i).frames.length) (.slice none 0 0) k).ownBlock = some b → (∃ k', live s k' ∧ (V k').ownBlock = some b) ∨ b = BL ∨ b = u.heap.size := by
    intro k b hk e
    by_cases e1 : k = .stack i (fibAt s i).frames.length
    · rw [e1, upd_same] at e; cases e
    rw [upd_ne _ _ e1] at e
    by_cases e2 : k = .locals i (fibAt s i).frames.length
    · rw [e2, upd_same] at e; exact .inr (.inl (Option.some.inj e).symm)
    rw [upd_ne _ _ e2] at e
    by_cases e3 : k = .frames i
    · rw [e3, upd_same] at e
      rcases hat with h1 | h1
      · rw [h1] at e; exact .inl ⟨.frames i, hi, e⟩
      · rw [h1] at e; exact .inr (.inr (Option.some.inj e).symm)
    rw [upd_ne _ _ e3] at e
    refine .inl ⟨k, ?_, e⟩
    have hl := setFib_len s i { fibAt s i with frames := (fibAt s i).frames ++ [f] }
    have hfs : fibAt (setFib s i { fibAt s i with frames := (fibAt s i).frames ++ [f] }) i = { fibAt s i with frames := (fibAt s i).frames ++ [f] } := fibAt_same _ hi
    have hq : ∀ t q, q ≠ (fibAt s i).frames.length ∨ t ≠ i → t < s.fibers.length → q < (fibAt (setFib s i { fibAt s i with frames := (fibAt s i).frames ++ [f] }) t).frames.length → q < (fibAt s t).frames.length := fun t q hne _ hq => by
      by_cases e : i = t
      · subst e
        rw [hfs] at hq
        simp only [List.length_append, List.length_cons, List.length_nil] at hq
        rcases hne with h1 | h1 <;> omega
      · rwa [fibAt_ne _ e] at hq
    cases k using Key.by with
    | fibers => trivial
    | out => trivial
    | frames t => simpa only [live, hl] using hk
    | locals t q =>
      simp only [live, hl] at hk
      refine ⟨hk.1, hq t q ?_ hk.1 hk.2⟩
      by_cases et : t = i
      · subst et; exact .inl fun e => e2 (by rw [e])
      · exact .inr et
    | stack t q =>
      simp only [live, hl] at hk
      refine ⟨hk.1, hq t q ?_ hk.1 hk.2⟩
      by_cases et : t = i
      · subst et; exact .inl fun e => e1 (by rw [e])
      · exact .inr et
  refine ⟨v', w', _, hrun, ?_, h.turn hadd ?_ ?_ ?_ rfl ?_, hgrow, hblk⟩
  · obtain ⟨o, c, e, _⟩ := row_slice hown'
    exact ⟨o, c, e⟩
  · rw [Below.heap_setCell _ _ _ _ (fun e => h.off .fibers trivial (by rw [hFb, e]))]
    exact hgrow.block bs hbw (fun e => h.off (.frames i) hi e.symm)
  · rw [upd_ne _ _ (by simp), upd_ne _ _ (by simp), upd_ne _ _ (by simp)]
  · rw [upd_ne _ _ (by simp), upd_ne _ _ (by simp), upd_ne _ _ (by simp)]
  · intro k hk e
    rcases hblk k bs hk e with ⟨k', hk', e'⟩ | e' | e'
    · exact h.off k' hk' e'
    · exact hbsL e'
    · omega
theorem fiber_comes {base bs : Nat} {V : Key → Value} {s : St} {u : World} (h : OwnVar base u bs V s) {BL BF B : Nat} (hfr : s.fibers.length ≤ 1000) (f : Fr) (c : Int) (hst : f.stack = []) (hlo : f.locals.length ≤ 1000)
    (hBL : u.heap[BL]? = some (.cells (ints f.locals).toArray 3)) (hoff : Own.off V s BL) (hlow : base ≤ BL) (hbsL : bs ≠ BL)
    (hBF : u.heap[BF]? = some (.cells #[.int .i64 f.fn, .int .i64 f.at_, .slice (some ⟨BL, 0, none⟩) f.locals.length f.locals.length, .slice none 0 0] 64)) (hoffF : Own.off V s BF) (hlowF : base ≤ BF) (hbsF : bs ≠ BF) (hne : BL ≠ BF)
    (hB : u.heap[B]? = some (.cells #[.slice (some ⟨BF, 0, none⟩) 1 1, .int .i64 c] 62)) :
    ∃ v' w' V', (Builtin.append_ #[33, 33] 33 #[V .fibers, .slice (some ⟨B, 0, none⟩) 1 1]).run Tryd.prog u = .ok v' w' ∧
      (∃ o q, v' = .slice o (s.fibers.length + 1) q) ∧ OwnVar base (w'.setCell ⟨bs, 0, none⟩ v') bs V' { s with fibers := s.fibers ++ [⟨[f], c⟩] } ∧ u.grownBy w' (V .fibers).ownBlock ∧
      ∀ k b, live { s with fibers := s.fibers ++ [⟨[f], c⟩] } k → (V' k).ownBlock = some b → (∃ k', live s k' ∧ (V k').ownBlock = some b) ∨ b = BL ∨ b = BF ∨ b = u.heap.size := by
  obtain ⟨i0, hi0, hz0, hz1, hz2⟩ := info_parts infoFiber
  have hbw : bs < u.heap.size := lt_of_block h.var
  have hbase : base ≤ u.heap.size := by have := h.low; omega
  have hlB : BL < u.heap.size := (Array.getElem?_eq_some_iff.1 hBL).1
  have hlF : BF < u.heap.size := (Array.getElem?_eq_some_iff.1 hBF).1
  obtain ⟨xs, hrow, _⟩ := h.own.piece .fibers trivial
  obtain ⟨v', w', hrun, hown', hgrow, _, hat⟩ := run_append_own_at (P := Tryd.prog) u base 33 33 62 i0 _ 2 32 Tryd.underlying33 hi0 hz0 hz1 hz2 rfl (by decide) _ _ xs hrow ⟨B, 0, none⟩ 1 1
    [.slice (some ⟨BF, 0, none⟩) 1 1, .int .i64 c] rfl (fun j x hj => by
      rw [at_block, cell_lays hB]
      simpa using hj) (by intro x hx; simp only [List.mem_cons, List.not_mem_nil, or_false] at hx; rcases hx with rfl | rfl <;> rfl) (by unfold maxLen; omega) (by omega) (by omega)
  have hloc : w'.ownsRow base 3 1 (.slice (some ⟨BL, 0, none⟩) f.locals.length f.locals.length) f.locals.length (ints f.locals) :=
    row_block hlow ((hgrow.block BL hlB (fun e => hoff .fibers trivial e.symm)).trans hBL) hlo
  have hfrw : w'.ownsRow base 64 4 (.slice (some ⟨BF, 0, none⟩) 1 1) 1 [.int .i64 f.fn, .int .i64 f.at_, .slice (some ⟨BL, 0, none⟩) f.locals.length f.locals.length, .slice none 0 0] :=
    ⟨rfl, .inr ⟨BF, 1, #[.int .i64 f.fn, .int .i64 f.at_, .slice (some ⟨BL, 0, none⟩) f.locals.length f.locals.length, .slice none 0 0], rfl, hlowF, (hgrow.block BF hlF (fun e => hoffF .fibers trivial e.symm)).trans hBF, by omega, by decide, rfl, rfl⟩⟩
  have hadd := h.own.addFiber f c (.slice (some ⟨BL, 0, none⟩) f.locals.length f.locals.length) (.slice (some ⟨BF, 0, none⟩) 1 1) v' hst (gl := BL) (gf := BF) (.inr rfl) rfl hne hoff hoffF hlB hlF hloc hfrw
    (fun b hb hne => hgrow.block b hb (fun e => hne e.symm)) (fun ys hy => by rw [row_unique hy hrow]; exact hown') hat
  have hblk : ∀ k b, live { s with fibers := s.fibers ++ [⟨[f], c⟩] } k → (upd (upd (upd (upd V .fibers v') (.frames s.fibers.length) (.slice (some ⟨BF, 0, none⟩) 1 1)) (.locals s.fibers.length 0) (.slice (some ⟨BL, 0, none⟩) f.locals.length f.locals.length)) (.stack s.fibers.length 0) (.slice none 0 0) k).ownBlock = some b → (∃ k', live s k' ∧ (V k').ownBlock = some b) ∨ b = BL ∨ b = BF ∨ b = u.heap.size := by
    intro k b hk e
    by_cases e1 : k = .stack s.fibers.length 0
    · rw [e1, upd_same] at e; cases e
    rw [upd_ne _ _ e1] at e
    by_cases e2 : k = .locals s.fibers.length 0
    · rw [e2, upd_same] at e; exact .inr (.inl (Option.some.inj e).symm)
    rw [upd_ne _ _ e2] at e
    by_cases e3 : k = .frames s.fibers.length
    · rw [e3, upd_same] at e; exact .inr (.inr (.inl (Option.some.inj e).symm))
    rw [upd_ne _ _ e3] at e
    by_cases e4 : k = .fibers
    · rw [e4, upd_same] at e
      rcases hat with h1 | h1
      · rw [h1] at e; exact .inl ⟨.fibers, trivial, e⟩
      · rw [h1] at e; exact .inr (.inr (.inr (Option.some.inj e).symm))
    rw [upd_ne _ _ e4] at e
    refine .inl ⟨k, ?_, e⟩
    have hfo : ∀ t, t < s.fibers.length → fibAt { s with fibers := s.fibers ++ [⟨[f], c⟩] } t = fibAt s t := fun t ht => getD_append_left _ _ _ _ ht
    have hfn : fibAt { s with fibers := s.fibers ++ [⟨[f], c⟩] } s.fibers.length = ⟨[f], c⟩ := getD_append_len _ _ _
    have hq : ∀ t q, ¬ (t = s.fibers.length ∧ q = 0) → t < s.fibers.length + 1 → q < (fibAt { s with fibers := s.fibers ++ [⟨[f], c⟩] } t).frames.length → t < s.fibers.length ∧ q < (fibAt s t).frames.length := fun t q hn ht hq => by
      by_cases et : t = s.fibers.length
      · rw [et, hfn] at hq
        simp only [List.length_cons, List.length_nil] at hq
        exact absurd ⟨et, by omega⟩ hn
      · rw [hfo t (by omega)] at hq; exact ⟨by omega, hq⟩
    cases k using Key.by with
    | fibers => trivial
    | out => trivial
    | frames t =>
      simp only [live, List.length_append, List.length_cons, List.length_nil] at hk ⊢
      have : t ≠ s.fibers.length := fun e => e3 (by rw [e])
      omega
    | locals t q =>
      simp only [live, List.length_append, List.length_cons, List.length_nil] at hk ⊢
      exact hq t q (fun ⟨h1, h2⟩ => e2 (by rw [h1, h2])) hk.1 hk.2
    | stack t q =>
      simp only [live, List.length_append, List.length_cons, List.length_nil] at hk ⊢
      exact hq t q (fun ⟨h1, h2⟩ => e1 (by rw [h1, h2])) hk.1 hk.2
  have hoff' : Own.off (upd (upd (upd (upd V .fibers v') (.frames s.fibers.length) (.slice (some ⟨BF, 0, none⟩) 1 1)) (.locals s.fibers.length 0) (.slice (some ⟨BL, 0, none⟩) f.locals.length f.locals.length)) (.stack s.fibers.length 0) (.slice none 0 0)) { s with fibers := s.fibers ++ [⟨[f], c⟩] } bs := by
    intro k hk e
    rcases hblk k bs hk e with ⟨k', hk', e'⟩ | e' | e' | e'
    · exact h.off k' hk' e'
    · exact hbsL e'
    · exact hbsF e'
    · omega
  have hv : w'.heap[bs]? = some (.cells #[V .fibers, .int .i64 s.now, V .out] 35) := (hgrow.block bs hbw (fun e => h.off .fibers trivial e.symm)).trans h.var
  refine ⟨v', w', _, hrun, ?_, ⟨?_, hadd.setOff (a := ⟨bs, 0, none⟩) hoff' v', hoff', h.low⟩, hgrow, hblk⟩
  · obtain ⟨o, q, e, _⟩ := row_slice hown'
    exact ⟨o, q, e⟩
  · rw [lays_set hv 0 v', upd_ne _ _ (by simp), upd_ne _ _ (by simp), upd_ne _ _ (by simp), upd_same, upd_ne _ _ (by simp), upd_ne _ _ (by simp), upd_ne _ _ (by simp), upd_ne _ _ (by simp)]
    rfl
end Go.Proofs.YtlapliclhfpgkaaDoor
namespace Go.Proofs.YtlapliclhfpgkaaDoor
open Go.RowKit
theorem at_drop {L tl : List Oper} {i : Nat} {oi : Oper} (hd : L.drop i = oi :: tl) : L.toArray[i]? = some oi := by
  have h : (L.drop i)[0]? = some oi := by rw [hd]; rfl
  rw [List.getElem?_drop] at h
  simpa using h
theorem take_yes {P : Program} {md : Region.Mode} {Q : Exit → Act → World → Prop} {S : World → Prop} {L tl : List Oper} {i : Nat} {oi : Oper} {v : Value} {fuel : Nat} {listed : Array Bool} {a : Act} {w : World} (hd : L.drop i = oi :: tl)
    (hs : Region.noSelect L.toArray = true) (hf : Region.free md L.toArray listed i = true) (hr : (Region.ready md L.toArray listed).contains i = true)
    (hQ : ∀ c a w, Q (.panic c) (a.put oi.dst v) w → Q (.panic c) a w) (hw : Region.wanted oi (yielded L.toArray a.tmps) = true) (hy : ∀ u, S u → (execOp a.eval oi).run P u = .ok (.value v) u) (hS : S w)
    (h : wpAnyH P md L.toArray Q S fuel (listed.setIfInBounds i true) (a.put oi.dst v) w) : wpAnyH P md L.toArray Q S (fuel + 1) listed a w :=
  wpAnyH_take (at_drop hd) hs hf hr hQ (.inl ⟨hw, hy⟩) hS h
theorem take_no {P : Program} {md : Region.Mode} {Q : Exit → Act → World → Prop} {S : World → Prop} {L tl : List Oper} {i : Nat} {oi : Oper} {fuel : Nat} {listed : Array Bool} {a : Act} {w : World} (hd : L.drop i = oi :: tl)
    (hs : Region.noSelect L.toArray = true) (hf : Region.free md L.toArray listed i = true) (hr : (Region.ready md L.toArray listed).contains i = true)
    (hQ : ∀ c a w, Q (.panic c) (a.put oi.dst undef) w → Q (.panic c) a w) (hw : Region.wanted oi (yielded L.toArray a.tmps) = false) (hS : S w)
    (h : wpAnyH P md L.toArray Q S fuel (listed.setIfInBounds i true) (a.put oi.dst undef) w) : wpAnyH P md L.toArray Q S (fuel + 1) listed a w :=
  wpAnyH_take (at_drop hd) hs hf hr hQ (.inr ⟨hw, rfl⟩) hS h
theorem take_one {P : Program} {md : Region.Mode} {Q : Exit → Act → World → Prop} {S : World → Prop} {L tl : List Oper} {i : Nat} {oi : Oper} {fuel : Nat} {listed : Array Bool} {a : Act} {w : World} (hd : L.drop i = oi :: tl)
    (hr : Region.ready md L.toArray listed = [i])
    (h : ∀ K' : Act → World → Prop, Shut (∀ a w, S w → (S w → wpAnyH P md L.toArray Q S fuel (listed.setIfInBounds i true) a w) → K' a w) → if Region.wanted oi (yielded L.toArray a.tmps) = true then Oper.wp P oi a w K' Q else K' (a.put oi.dst undef) w) :
    wpAnyH P md L.toArray Q S (fuel + 1) listed a w :=
  wpAnyH_ready hr (by simp) (AllReadyH.cons (at_drop hd) h AllReadyH.nil)
end Go.Proofs.YtlapliclhfpgkaaDoor
namespace Go.Proofs.YtlapliclhfpgkaaDoor
open Go.RowKit
def AnyT (P : Program) (md : Region.Mode) (ops : Array Oper) (Q : Exit → Act → World → Prop) (S : World → Prop) (T : Nat) : Nat → Array Bool → Act → World → Prop
  | 0, listed, a, w => Region.ready md ops listed = [] ∧ Q .normal a w
  | n + 1, listed, a, w => (Region.ready md ops listed = [] → Q .normal a w) ∧
      ∀ i ∈ Region.ready md ops listed, wpOp P ops Q i (fun a' w' => (i ≠ T → S w') ∧ AnyT P md ops Q S T n (listed.setIfInBounds i true) a' w') a w
variable {P : Program} {md : Region.Mode} {ops : Array Oper} {Q : Exit → Act → World → Prop} {S : World → Prop} {T : Nat}
theorem AnyT.any : ∀ (n : Nat) (listed : Array Bool) (a : Act) (w : World), AnyT P md ops Q S T n listed a w → wpAny P md ops Q n listed a w
  | 0, _, _, _, h => h
  | n + 1, _, _, _, h => ⟨h.1, fun i hi => wpOp_mono (fun _ _ h' => AnyT.any n _ _ _ h'.2) (h.2 i hi)⟩
def waitsFor (md : Region.Mode) (ops : Array Oper) (T i : Nat) : Bool := match ops[T]? with | none => true | some o => o.after.any fun e => Region.binds md e && e.on == i
theorem AnyT.first {i : Nat} {oi : Oper} {v : Value} (hi : ops[i]? = some oi) (hsel : ∀ (j : Nat) (o : Oper) cs b, ops[j]? = some o → o.op ≠ .select cs b)
    (hQ : ∀ c a w, Q (.panic c) (a.put oi.dst v) w → Q (.panic c) a w) (hT : waitsFor md ops T i = true) :
    ∀ (n : Nat) (listed : Array Bool) (a : Act) (w : World),
      (∀ j oj, ops[j]? = some oj → j ≠ i → listed.getD j true = false → (∀ e ∈ oj.after, Region.binds md e = true → e.on ≠ i) → oi.apart ops oj = true) →
      i ∈ Region.ready md ops listed → YieldsIf P ops S oi v a → S w →
      AnyT P md ops Q S T n (listed.setIfInBounds i true) (a.put oi.dst v) w → AnyT P md ops Q S T (n + 1) listed a w := by
  intro n
  induction n with
  | zero =>
    intro listed a w _ hr hy hS H
    refine ⟨fun h => (by rw [h] at hr; cases hr), fun j hj => ?_⟩
    by_cases hji : j = i
    · subst hji
      exact hy.wpOp hi hS ⟨fun _ => hS, H⟩
    · have := ready_mono hj hji
      rw [H.1] at this
      cases this
  | succ n ih =>
    intro listed a w hfree hr hy hS H
    refine ⟨fun h => (by rw [h] at hr; cases hr), fun j hj => ?_⟩
    by_cases hji : j = i
    · subst hji
      exact hy.wpOp hi hS ⟨fun _ => hS, H⟩
    · have h1 := H.2 j (ready_mono hj hji)
      obtain ⟨hjun, oj, hoj, hall⟩ := mem_ready.1 hj
      have hun := (mem_ready.1 hr).1
      have hnl : listed.getD i false ≠ true := by
        intro hc
        rcases Nat.lt_or_ge i listed.size with h' | h'
        · simp [h'] at hun hc
          rw [hun] at hc
          cases hc
        · simp [Array.getElem?_eq_none h'] at hc
      have hnot : ∀ e ∈ oj.after, Region.binds md e = true → e.on ≠ i := fun e he hb heq => hnl (by have := hall e he hb; rwa [heq] at this)
      have hjT : j ≠ T := by
        intro e
        subst e
        unfold waitsFor at hT
        rw [hoj] at hT
        simp only [Array.any_eq_true, Bool.and_eq_true, beq_iff_eq] at hT
        obtain ⟨q, hq, hb, hon⟩ := hT
        exact hnot _ (Array.getElem_mem hq) hb hon
      have h2 := wpOp_putIf hoj (hfree j oj hoj hji hjun hnot) (fun cs b => hsel i oi cs b hi) (fun cs b => hsel j oj cs b hoj) hQ hy h1
      refine wpOp_mono (fun a' w' h3 => ⟨fun _ => h3.2.1 hjT, ih (listed.setIfInBounds j true) a' w' ?_ (ready_mono hr (Ne.symm hji)) h3.1 (h3.2.1 hjT) ?_⟩) h2
      · intro k ok hk hki hku hno
        refine hfree k ok hk hki ?_ hno
        by_cases hjk : j = k
        · subst hjk; exact hjun
        · rw [Go.getD_set_ne true hjk] at hku; exact hku
      · rw [Array.setIfInBounds_comm _ _ hji]
        exact h3.2.2
theorem takeT {L tl : List Oper} {i : Nat} {oi : Oper} {v : Value} {fuel : Nat} {listed : Array Bool} {a : Act} {w : World} (hd : L.drop i = oi :: tl)
    (hs : Region.noSelect L.toArray = true) (hf : Region.free md L.toArray listed i = true) (hr : (Region.ready md L.toArray listed).contains i = true) (hT : waitsFor md L.toArray T i = true)
    (hQ : ∀ c a w, Q (.panic c) (a.put oi.dst v) w → Q (.panic c) a w) (hw : Region.wanted oi (yielded L.toArray a.tmps) = true) (hy : ∀ u, S u → (execOp a.eval oi).run P u = .ok (.value v) u) (hS : S w)
    (h : AnyT P md L.toArray Q S T fuel (listed.setIfInBounds i true) (a.put oi.dst v) w) : AnyT P md L.toArray Q S T (fuel + 1) listed a w :=
  AnyT.first (at_drop hd) (Region.noSelect_spec hs) hQ hT fuel listed a w (Region.free_spec (at_drop hd) hf) (by simpa using hr) (.inl ⟨hw, hy⟩) hS h
theorem takeT_one {L tl : List Oper} {i : Nat} {oi : Oper} {fuel : Nat} {listed : Array Bool} {a : Act} {w : World} (hd : L.drop i = oi :: tl)
    (hr : Region.ready md L.toArray listed = [i])
    (h : ∀ K' : Act → World → Prop, Shut (∀ a w, (i ≠ T → S w) → AnyT P md L.toArray Q S T fuel (listed.setIfInBounds i true) a w → K' a w) → if Region.wanted oi (yielded L.toArray a.tmps) = true then Oper.wp P oi a w K' Q else K' (a.put oi.dst undef) w) :
    AnyT P md L.toArray Q S T (fuel + 1) listed a w :=
  ⟨fun h0 => absurd (hr ▸ h0) (by simp), fun j hj => by
    rw [hr] at hj
    obtain rfl : j = i := by simpa using hj
    exact wpOp_step (at_drop hd) (fun K' hK => h K' (fun a w hS hW => hK a w ⟨hS, hW⟩))⟩
theorem takeT_done {listed : Array Bool} {a : Act} {w : World} (hr : Region.ready md ops listed = []) (h : Q .normal a w) : ∀ n, AnyT P md ops Q S T n listed a w
  | 0 => ⟨hr, h⟩
  | _ + 1 => ⟨fun _ => h, by rw [hr]; simp⟩
theorem wp_regionT {id : Nat} {a : Act} {w : World} (T : Nat) (S : World → Prop) (hm : P.follows .mixedOrders = true)
    (h : AnyT P .any ops Q S T ops.size (Array.replicate ops.size false) a w.drew) : (Code.region id ops true).wp P Q a w :=
  wp_region_any hm (AnyT.any _ _ _ _ h)
end Go.Proofs.YtlapliclhfpgkaaDoor
