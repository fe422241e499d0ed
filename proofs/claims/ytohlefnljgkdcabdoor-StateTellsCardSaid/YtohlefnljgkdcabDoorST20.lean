/- StepM2, StepM3 -/
import Derived.Test.YtohlefnljgkdcabDoorST19
import Derived.Deep.RegionHeld3
import Derived.Test.YtohlefnljgkdcabDoorST17
namespace Go.Proofs.YtohlefnljgkdcabDoor
open Go.RowKit
set_option maxRecDepth 100000 in
set_option maxHeartbeats 4000000 in
theorem done_return (base bs : Nat) (V : Key → Value) (s : St) (i cp bp op n fi ai cb co cl cc : Nat) (a : Int) (w : World) (h : OwnVar base w bs V s) (hd : DoAt base w s i bp op n fi ai cb co cl cc 12 a) (hst0 : 0 < (frAt s i ((fibAt s i).frames.length - 1)).stack.length) (ho : s.out.length ≤ 30) (hbel : 1 < (fibAt s i).frames.length → (frAt s i ((fibAt s i).frames.length - 2)).stack.length ≤ 1000) (hc : ∀ c : Int, (fibAt s i).caller = c → 0 ≤ c → ∃ k : Nat, c = k ∧ k ≠ i ∧ Runs s k) :
    Calls Tryd.prog 117 #[.slice (some ⟨bp, op, none⟩) n cp, .pointer (some ⟨bs, 0, none⟩)] w fun e w' => EndPost base bs (givenS (nextS s i ai)) w e w' := by
  obtain ⟨hn, hr, hfn, hat, hfin, hain, hcl, hpc⟩ := hd
  have hj : (fibAt s i).frames.length - 1 < (fibAt s i).frames.length := by have := hr.fr; omega
  obtain ⟨g, cap, eg, htop⟩ := top_own h hr.lt hr.fr hr.frs
  obtain ⟨b0, b1, _, _⟩ := h.cells
  rw [hn] at b1
  have HTOP := hide htop
  have HO := hide h
  have HPC := hide hpc
  have HRU := hide hr
  have HNX := hide (next_facts hn hr ai)
  have HEG := hide eg
  have hf1 : (fi : Int) < (n : Int) := by omega
  have hf0 : (0 : Int) ≤ (fi : Int) := by omega
  have ha1 : (ai : Int) < (cl : Int) := by omega
  have ha0 : (0 : Int) ≤ (ai : Int) := by omega
  have hwa : IntKind.i64.wrap ((ai : Int) + 1) = (ai : Int) + 1 := by rw [IntKind.wrap_i64]; omega
  generalize hjj : (fibAt s i).frames.length - 1 = j at *
  have HJJ := hide hjj
  clear htop h hpc hr eg hjj
  go_enter Tryd.func117, Tryd.ntmps117
  go_wp2_with fail
  refine (unhide HTOP).mono ?_
  rintro _ _ ⟨rfl, m0, rfl⟩
  have ho1 : OwnVar base (w.drewN m0) bs V s := (unhide HO).same rfl
  have hb1 : Below base w (w.drewN m0) := below_drewN (Below.refl _ _) m0
  generalize w.drewN m0 = w1 at ho1 hb1 ⊢
  obtain ⟨g', cap', eg', hcap, k0, k1, k2, k3, fz, hbg⟩ := ho1.own.fr (i := i) (j := j) (unhide HRU).lt hj
  have hVg : V (.frames i) = .slice (some ⟨g, 0, none⟩) (fibAt s i).frames.length cap := unhide HEG
  obtain ⟨rfl, rfl⟩ : g = g' ∧ cap = cap' := by rw [hVg] at eg'; simpa using eg'
  rw [hfn] at k0
  rw [hat] at k1
  obtain ⟨x0, x1, x2⟩ := (unhide HPC) w1 hb1
  have HY : Hid (∀ u, Kept w1 u → u.cell? ⟨g, j * 4, none⟩ = some (.int .i64 fi) ∧ u.cell? ⟨g, j * 4 + 1, none⟩ = some (.int .i64 ai) ∧ u.cell? ⟨bp, op + fi * 3 + 2, none⟩ = some (.slice (some ⟨cb, co, none⟩) cl cc) ∧ u.cell? ⟨cb, co + ai * 2, none⟩ = some (.int .i64 12) ∧ u.cell? ⟨cb, co + ai * 2 + 1, none⟩ = some (.int .i64 a)) := hide (fun u hu => ⟨hu.cell k0, hu.cell k1, hu.cell x0, hu.cell x1, hu.cell x2⟩)
  have HO1 := hide ho1
  have HB1 := hide hb1
  have hgl := cell_lt k0
  simp only at hgl
  have HGL := hide hgl
  have hlow := ho1.low
  have hbw := lt_of_block ho1.var
  clear ho1 hb1 k0 k1 k2 k3 x0 x1 x2 fz eg' hgl HTOP
  go_wp2_with fail
  go_region_held3 (fun u => u.cell? ⟨g, j * 4, none⟩ = some (.int .i64 fi) ∧ u.cell? ⟨g, j * 4 + 1, none⟩ = some (.int .i64 ai) ∧ u.cell? ⟨bp, op + fi * 3 + 2, none⟩ = some (.slice (some ⟨cb, co, none⟩) cl cc) ∧ u.cell? ⟨cb, co + ai * 2, none⟩ = some (.int .i64 12) ∧ u.cell? ⟨cb, co + ai * 2 + 1, none⟩ = some (.int .i64 a)) (exact (unhide HY) _ (by repeat (first | exact Kept.refl _ | refine Kept.drew ?_ | refine Kept.alloc ?_ _ | refine Kept.setCell ?_ (by simp) _))) (fail)
  rename_i hheld
  clear hheld HY
  have LX : (w1.alloc (.cells #[.int .i64 12, .int .i64 a] 38)).drew.heap[w1.heap.size]? = some (.cells #[.int .i64 12, .int .i64 a] 38) := lays_drew (lays_new rfl)
  have ho2 : OwnVar base (w1.alloc (.cells #[.int .i64 12, .int .i64 a] 38)).drew bs V s := ((unhide HO1).alloc _).same rfl
  have hb2 : Below base w (w1.alloc (.cells #[.int .i64 12, .int .i64 a] 38)).drew := (Below.alloc (unhide HB1) (by omega) _).drew
  have hoffX : Own.off V s w1.heap.size := (unhide HO1).own.new_off (.inl (Nat.le_refl _))
  have hXb : base ≤ w1.heap.size := by omega
  have hXs : bs ≠ w1.heap.size := by omega
  have hXg : w1.heap.size ≠ g := by have := unhide HGL; omega
  generalize (w1.alloc (.cells #[.int .i64 12, .int .i64 a] 38)).drew = w2 at LX ho2 hb2 ⊢
  generalize w1.heap.size = X at LX hoffX hXb hXs hXg ⊢
  obtain ⟨_, _, eg2, _, _, k1, k2, _, fz, hbg2⟩ := ho2.own.fr (i := i) (j := j) (unhide HRU).lt hj
  obtain ⟨rfl, rfl⟩ := (by rw [hVg] at eg2; simpa using eg2 : g = _ ∧ cap = _)
  rw [hat] at k1
  have fz1 := fz (j * 4 + 1)
  obtain ⟨ho3, hb3⟩ := ho2.setAt (unhide HRU).lt hj hVg ((ai : Int) + 1)
  have ho3' : OwnVar base (w2.setCell ⟨g, j * 4 + 1, none⟩ (.int .i64 ((ai : Int) + 1))) bs V (nextS s i ai) := by unfold nextS; rw [unhide HJJ]; exact ho3
  have LX3 := lays_other LX (a := ⟨g, j * 4 + 1, none⟩) hXg (.int .i64 ((ai : Int) + 1))
  have y0 := cell_lays LX3 0
  have y1 := cell_lays LX3 1
  have HO3 := hide ho3'
  have HB3 := hide (Below.trans hb2 hb3)
  have HLX := hide LX3
  have HOX := hide hoffX
  clear ho2 hb2 ho3 ho3' hb3 LX LX3 fz eg2 HO1 HB1 HO hoffX
  go_wp2_with fail
  generalize w2.setCell ⟨g, j * 4 + 1, none⟩ (.int .i64 ((ai : Int) + 1)) = w3 at HO3 HB3 y0 y1 HLX ⊢
  obtain ⟨n1, n2, n3, n4, n5, n6, n7, n8⟩ := unhide HNX
  have hjn : (fibAt (nextS s i ai) i).frames.length - 1 = j := by rw [n5]; exact unhide HJJ
  have hcn : ∀ c : Int, (fibAt (nextS s i ai) i).caller = c → 0 ≤ c → ∃ k : Nat, c = k ∧ k ≠ i ∧ Runs (nextS s i ai) k := fun c h1 h2 => by
    rw [n4] at h1
    obtain ⟨k, h3, h4, h5⟩ := hc c h1 h2
    exact ⟨k, h3, h4, next_other ai k h4 h5⟩
  have HC := hide (given_any base bs V (nextS s i ai) i w3 (unhide HO3) n1 n8 (by rw [hjn, n6]; exact hst0) (by rw [n3]; exact ho) (fun h => by rw [n5] at h ⊢; rw [(next_fr (unhide HRU) ai i _).1]; exact hbel h) hcn)
  clear n1 n2 n3 n4 n5 n6 n7 n8 y0 y1
  refine (unhide HC).mono ?_
  rintro _ w4 ⟨rfl, hb4, ho4⟩
  have HB4 := hide hb4
  have HO4 := hide ho4
  clear hb4 ho4 HC
  generalize hRR : (givenS (nextS s i ai)) = RR at HO4 ⊢
  have HRR := hide hRR
  clear hRR
  go_wp2
  go_ret
  unfold EndPost
  rw [unhide HRR]
  exact ⟨rfl, Below.trans (unhide HB3) (unhide HB4), unhide HO4⟩
set_option maxRecDepth 100000 in
set_option maxHeartbeats 4000000 in
theorem done_resume (base bs : Nat) (V : Key → Value) (s : St) (i cp bp op n fi ai cb co cl cc : Nat) (a : Int) (w : World) (h : OwnVar base w bs V s) (hd : DoAt base w s i bp op n fi ai cb co cl cc 14 a) (hst2 : 1 < (frAt s i ((fibAt s i).frames.length - 1)).stack.length) (l : List Int) (hft : Fits s) (hcal : ∀ b, b ∈ s.fibers → -1 ≤ b.caller ∧ b.caller < s.fibers.length) (hl : lineS s = some l) (hil : (i : Int) ∈ l) (hloc : ∀ k : Nat, k < s.fibers.length → (k : Int) ∉ l → 0 < (fibAt s k).frames.length → (frAt s k ((fibAt s k).frames.length - 1)).at_ = 0 → 0 < (frAt s k ((fibAt s k).frames.length - 1)).locals.length) :
    Calls Tryd.prog 117 #[.slice (some ⟨bp, op, none⟩) n cp, .pointer (some ⟨bs, 0, none⟩)] w fun e w' => EndPost base bs (resumedS (nextS s i ai)) w e w' := by
  obtain ⟨hn, hr, hfn, hat, hfin, hain, hcl, hpc⟩ := hd
  have hj : (fibAt s i).frames.length - 1 < (fibAt s i).frames.length := by have := hr.fr; omega
  obtain ⟨g, cap, eg, htop⟩ := top_own h hr.lt hr.fr hr.frs
  obtain ⟨b0, b1, _, _⟩ := h.cells
  rw [hn] at b1
  have HTOP := hide htop
  have HO := hide h
  have HPC := hide hpc
  have HRU := hide hr
  have HNX := hide (next_facts hn hr ai)
  have HEG := hide eg
  have hf1 : (fi : Int) < (n : Int) := by omega
  have hf0 : (0 : Int) ≤ (fi : Int) := by omega
  have ha1 : (ai : Int) < (cl : Int) := by omega
  have ha0 : (0 : Int) ≤ (ai : Int) := by omega
  have hwa : IntKind.i64.wrap ((ai : Int) + 1) = (ai : Int) + 1 := by rw [IntKind.wrap_i64]; omega
  generalize hjj : (fibAt s i).frames.length - 1 = j at *
  have HJJ := hide hjj
  clear htop h hpc hr eg hjj
  go_enter Tryd.func117, Tryd.ntmps117
  go_wp2_with fail
  refine (unhide HTOP).mono ?_
  rintro _ _ ⟨rfl, m0, rfl⟩
  have ho1 : OwnVar base (w.drewN m0) bs V s := (unhide HO).same rfl
  have hb1 : Below base w (w.drewN m0) := below_drewN (Below.refl _ _) m0
  generalize w.drewN m0 = w1 at ho1 hb1 ⊢
  obtain ⟨g', cap', eg', hcap, k0, k1, k2, k3, fz, hbg⟩ := ho1.own.fr (i := i) (j := j) (unhide HRU).lt hj
  have hVg : V (.frames i) = .slice (some ⟨g, 0, none⟩) (fibAt s i).frames.length cap := unhide HEG
  obtain ⟨rfl, rfl⟩ : g = g' ∧ cap = cap' := by rw [hVg] at eg'; simpa using eg'
  rw [hfn] at k0
  rw [hat] at k1
  obtain ⟨x0, x1, x2⟩ := (unhide HPC) w1 hb1
  have HY : Hid (∀ u, Kept w1 u → u.cell? ⟨g, j * 4, none⟩ = some (.int .i64 fi) ∧ u.cell? ⟨g, j * 4 + 1, none⟩ = some (.int .i64 ai) ∧ u.cell? ⟨bp, op + fi * 3 + 2, none⟩ = some (.slice (some ⟨cb, co, none⟩) cl cc) ∧ u.cell? ⟨cb, co + ai * 2, none⟩ = some (.int .i64 14) ∧ u.cell? ⟨cb, co + ai * 2 + 1, none⟩ = some (.int .i64 a)) := hide (fun u hu => ⟨hu.cell k0, hu.cell k1, hu.cell x0, hu.cell x1, hu.cell x2⟩)
  have HO1 := hide ho1
  have HB1 := hide hb1
  have hgl := cell_lt k0
  simp only at hgl
  have HGL := hide hgl
  have hlow := ho1.low
  have hbw := lt_of_block ho1.var
  clear ho1 hb1 k0 k1 k2 k3 x0 x1 x2 fz eg' hgl HTOP
  go_wp2_with fail
  go_region_held3 (fun u => u.cell? ⟨g, j * 4, none⟩ = some (.int .i64 fi) ∧ u.cell? ⟨g, j * 4 + 1, none⟩ = some (.int .i64 ai) ∧ u.cell? ⟨bp, op + fi * 3 + 2, none⟩ = some (.slice (some ⟨cb, co, none⟩) cl cc) ∧ u.cell? ⟨cb, co + ai * 2, none⟩ = some (.int .i64 14) ∧ u.cell? ⟨cb, co + ai * 2 + 1, none⟩ = some (.int .i64 a)) (exact (unhide HY) _ (by repeat (first | exact Kept.refl _ | refine Kept.drew ?_ | refine Kept.alloc ?_ _ | refine Kept.setCell ?_ (by simp) _))) (fail)
  rename_i hheld
  clear hheld HY
  have LX : (w1.alloc (.cells #[.int .i64 14, .int .i64 a] 38)).drew.heap[w1.heap.size]? = some (.cells #[.int .i64 14, .int .i64 a] 38) := lays_drew (lays_new rfl)
  have ho2 : OwnVar base (w1.alloc (.cells #[.int .i64 14, .int .i64 a] 38)).drew bs V s := ((unhide HO1).alloc _).same rfl
  have hb2 : Below base w (w1.alloc (.cells #[.int .i64 14, .int .i64 a] 38)).drew := (Below.alloc (unhide HB1) (by omega) _).drew
  have hoffX : Own.off V s w1.heap.size := (unhide HO1).own.new_off (.inl (Nat.le_refl _))
  have hXb : base ≤ w1.heap.size := by omega
  have hXs : bs ≠ w1.heap.size := by omega
  have hXg : w1.heap.size ≠ g := by have := unhide HGL; omega
  generalize (w1.alloc (.cells #[.int .i64 14, .int .i64 a] 38)).drew = w2 at LX ho2 hb2 ⊢
  generalize w1.heap.size = X at LX hoffX hXb hXs hXg ⊢
  obtain ⟨_, _, eg2, _, _, k1, k2, _, fz, hbg2⟩ := ho2.own.fr (i := i) (j := j) (unhide HRU).lt hj
  obtain ⟨rfl, rfl⟩ := (by rw [hVg] at eg2; simpa using eg2 : g = _ ∧ cap = _)
  rw [hat] at k1
  have fz1 := fz (j * 4 + 1)
  obtain ⟨ho3, hb3⟩ := ho2.setAt (unhide HRU).lt hj hVg ((ai : Int) + 1)
  have ho3' : OwnVar base (w2.setCell ⟨g, j * 4 + 1, none⟩ (.int .i64 ((ai : Int) + 1))) bs V (nextS s i ai) := by unfold nextS; rw [unhide HJJ]; exact ho3
  have LX3 := lays_other LX (a := ⟨g, j * 4 + 1, none⟩) hXg (.int .i64 ((ai : Int) + 1))
  have y0 := cell_lays LX3 0
  have y1 := cell_lays LX3 1
  have HO3 := hide ho3'
  have HB3 := hide (Below.trans hb2 hb3)
  have HLX := hide LX3
  have HOX := hide hoffX
  clear ho2 hb2 ho3 ho3' hb3 LX LX3 fz eg2 HO1 HB1 HO hoffX
  go_wp2_with fail
  generalize w2.setCell ⟨g, j * 4 + 1, none⟩ (.int .i64 ((ai : Int) + 1)) = w3 at HO3 HB3 y0 y1 HLX ⊢
  obtain ⟨n1, n2, n3, n4, n5, n6, n7, n8⟩ := unhide HNX
  have hjn : (fibAt (nextS s i ai) i).frames.length - 1 = j := by rw [n5]; exact unhide HJJ
  have hlon : ∀ k : Nat, k < (nextS s i ai).fibers.length → (k : Int) ∉ l → 0 < (fibAt (nextS s i ai) k).frames.length → (frAt (nextS s i ai) k ((fibAt (nextS s i ai) k).frames.length - 1)).at_ = 0 → 0 < (frAt (nextS s i ai) k ((fibAt (nextS s i ai) k).frames.length - 1)).locals.length := fun k hk hkl hf hat0 => by
    have hki : k ≠ i := fun e => hkl (by rw [e]; exact hil)
    have hfk : ∀ t, frAt (nextS s i ai) k t = frAt s k t := fun t => by unfold frAt; rw [n7 k hki]
    rw [hfk, n5] at hat0
    rw [n5] at hf
    rw [hfk, n5]
    exact hloc k (by rw [← n2]; exact hk) hkl hf hat0
  have HC := hide (resumed_any base bs V (nextS s i ai) i w3 l (unhide HO3) n1 n8 (by rw [hjn, n6]; exact hst2) (next_fits hn (unhide HRU) ai hft) (next_callers hn (unhide HRU) ai hcal) (by rw [next_line hn (unhide HRU) ai]; exact hl) hil hlon)
  clear n1 n2 n3 n4 n5 n6 n7 n8 y0 y1
  refine (unhide HC).mono ?_
  rintro _ w4 ⟨rfl, hb4, ho4⟩
  have HB4 := hide hb4
  have HO4 := hide ho4
  clear hb4 ho4 HC
  generalize hRR : (resumedS (nextS s i ai)) = RR at HO4 ⊢
  have HRR := hide hRR
  clear hRR
  go_wp2
  go_ret
  unfold EndPost
  rw [unhide HRR]
  exact ⟨rfl, Below.trans (unhide HB3) (unhide HB4), unhide HO4⟩
set_option maxRecDepth 100000 in
set_option maxHeartbeats 4000000 in
theorem done_put (base bs : Nat) (V : Key → Value) (s : St) (i cp bp op n fi ai cb co cl cc : Nat) (a : Int) (w : World) (h : OwnVar base w bs V s) (hd : DoAt base w s i bp op n fi ai cb co cl cc 16 a) (hst0 : 0 < (frAt s i ((fibAt s i).frames.length - 1)).stack.length) (ho : s.out.length ≤ 30) :
    Calls Tryd.prog 117 #[.slice (some ⟨bp, op, none⟩) n cp, .pointer (some ⟨bs, 0, none⟩)] w fun e w' => EndPost base bs (putS (pullV (nextS s i ai)) (lastV (nextS s i ai))) w e w' := by
  obtain ⟨hn, hr, hfn, hat, hfin, hain, hcl, hpc⟩ := hd
  have hj : (fibAt s i).frames.length - 1 < (fibAt s i).frames.length := by have := hr.fr; omega
  obtain ⟨g, cap, eg, htop⟩ := top_own h hr.lt hr.fr hr.frs
  obtain ⟨b0, b1, _, _⟩ := h.cells
  rw [hn] at b1
  have HTOP := hide htop
  have HO := hide h
  have HPC := hide hpc
  have HRU := hide hr
  have HNX := hide (next_facts hn hr ai)
  have HEG := hide eg
  have hf1 : (fi : Int) < (n : Int) := by omega
  have hf0 : (0 : Int) ≤ (fi : Int) := by omega
  have ha1 : (ai : Int) < (cl : Int) := by omega
  have ha0 : (0 : Int) ≤ (ai : Int) := by omega
  have hwa : IntKind.i64.wrap ((ai : Int) + 1) = (ai : Int) + 1 := by rw [IntKind.wrap_i64]; omega
  generalize hjj : (fibAt s i).frames.length - 1 = j at *
  have HJJ := hide hjj
  clear htop h hpc hr eg hjj
  go_enter Tryd.func117, Tryd.ntmps117
  go_wp2_with fail
  refine (unhide HTOP).mono ?_
  rintro _ _ ⟨rfl, m0, rfl⟩
  have ho1 : OwnVar base (w.drewN m0) bs V s := (unhide HO).same rfl
  have hb1 : Below base w (w.drewN m0) := below_drewN (Below.refl _ _) m0
  generalize w.drewN m0 = w1 at ho1 hb1 ⊢
  obtain ⟨g', cap', eg', hcap, k0, k1, k2, k3, fz, hbg⟩ := ho1.own.fr (i := i) (j := j) (unhide HRU).lt hj
  have hVg : V (.frames i) = .slice (some ⟨g, 0, none⟩) (fibAt s i).frames.length cap := unhide HEG
  obtain ⟨rfl, rfl⟩ : g = g' ∧ cap = cap' := by rw [hVg] at eg'; simpa using eg'
  rw [hfn] at k0
  rw [hat] at k1
  obtain ⟨x0, x1, x2⟩ := (unhide HPC) w1 hb1
  have HY : Hid (∀ u, Kept w1 u → u.cell? ⟨g, j * 4, none⟩ = some (.int .i64 fi) ∧ u.cell? ⟨g, j * 4 + 1, none⟩ = some (.int .i64 ai) ∧ u.cell? ⟨bp, op + fi * 3 + 2, none⟩ = some (.slice (some ⟨cb, co, none⟩) cl cc) ∧ u.cell? ⟨cb, co + ai * 2, none⟩ = some (.int .i64 16) ∧ u.cell? ⟨cb, co + ai * 2 + 1, none⟩ = some (.int .i64 a)) := hide (fun u hu => ⟨hu.cell k0, hu.cell k1, hu.cell x0, hu.cell x1, hu.cell x2⟩)
  have HO1 := hide ho1
  have HB1 := hide hb1
  have hgl := cell_lt k0
  simp only at hgl
  have HGL := hide hgl
  have hlow := ho1.low
  have hbw := lt_of_block ho1.var
  clear ho1 hb1 k0 k1 k2 k3 x0 x1 x2 fz eg' hgl HTOP
  go_wp2_with fail
  go_region_held3 (fun u => u.cell? ⟨g, j * 4, none⟩ = some (.int .i64 fi) ∧ u.cell? ⟨g, j * 4 + 1, none⟩ = some (.int .i64 ai) ∧ u.cell? ⟨bp, op + fi * 3 + 2, none⟩ = some (.slice (some ⟨cb, co, none⟩) cl cc) ∧ u.cell? ⟨cb, co + ai * 2, none⟩ = some (.int .i64 16) ∧ u.cell? ⟨cb, co + ai * 2 + 1, none⟩ = some (.int .i64 a)) (exact (unhide HY) _ (by repeat (first | exact Kept.refl _ | refine Kept.drew ?_ | refine Kept.alloc ?_ _ | refine Kept.setCell ?_ (by simp) _))) (fail)
  rename_i hheld
  clear hheld HY
  have LX : (w1.alloc (.cells #[.int .i64 16, .int .i64 a] 38)).drew.heap[w1.heap.size]? = some (.cells #[.int .i64 16, .int .i64 a] 38) := lays_drew (lays_new rfl)
  have ho2 : OwnVar base (w1.alloc (.cells #[.int .i64 16, .int .i64 a] 38)).drew bs V s := ((unhide HO1).alloc _).same rfl
  have hb2 : Below base w (w1.alloc (.cells #[.int .i64 16, .int .i64 a] 38)).drew := (Below.alloc (unhide HB1) (by omega) _).drew
  have hoffX : Own.off V s w1.heap.size := (unhide HO1).own.new_off (.inl (Nat.le_refl _))
  have hXb : base ≤ w1.heap.size := by omega
  have hXs : bs ≠ w1.heap.size := by omega
  have hXg : w1.heap.size ≠ g := by have := unhide HGL; omega
  generalize (w1.alloc (.cells #[.int .i64 16, .int .i64 a] 38)).drew = w2 at LX ho2 hb2 ⊢
  generalize w1.heap.size = X at LX hoffX hXb hXs hXg ⊢
  obtain ⟨_, _, eg2, _, _, k1, k2, _, fz, hbg2⟩ := ho2.own.fr (i := i) (j := j) (unhide HRU).lt hj
  obtain ⟨rfl, rfl⟩ := (by rw [hVg] at eg2; simpa using eg2 : g = _ ∧ cap = _)
  rw [hat] at k1
  have fz1 := fz (j * 4 + 1)
  obtain ⟨ho3, hb3⟩ := ho2.setAt (unhide HRU).lt hj hVg ((ai : Int) + 1)
  have ho3' : OwnVar base (w2.setCell ⟨g, j * 4 + 1, none⟩ (.int .i64 ((ai : Int) + 1))) bs V (nextS s i ai) := by unfold nextS; rw [unhide HJJ]; exact ho3
  have LX3 := lays_other LX (a := ⟨g, j * 4 + 1, none⟩) hXg (.int .i64 ((ai : Int) + 1))
  have y0 := cell_lays LX3 0
  have y1 := cell_lays LX3 1
  have HO3 := hide ho3'
  have HB3 := hide (Below.trans hb2 hb3)
  have HLX := hide LX3
  have HOX := hide hoffX
  clear ho2 hb2 ho3 ho3' hb3 LX LX3 fz eg2 HO1 HB1 HO hoffX
  go_wp2_with fail
  generalize w2.setCell ⟨g, j * 4 + 1, none⟩ (.int .i64 ((ai : Int) + 1)) = w3 at HO3 HB3 y0 y1 HLX ⊢
  obtain ⟨n1, n2, n3, n4, n5, n6, n7, n8⟩ := unhide HNX
  have hjn : (fibAt (nextS s i ai) i).frames.length - 1 = j := by rw [n5]; exact unhide HJJ
  have HPL := hide (pull_sharp base bs V (nextS s i ai) i w3 (unhide HO3) n1 n8.lt n8.fr n8.frs n8.st (by rw [hjn, n6]; exact hst0))
  have hout : (pullV (nextS s i ai)).out.length ≤ 30 := by rw [(pull_facts n1 n8.lt n8.fr).2.2.1, n3]; exact ho
  clear n1 n2 n3 n4 n5 n6 n7 n8 y0 y1
  refine (unhide HPL).mono ?_
  rintro _ w4 ⟨rfl, V4, ho4, hb4, _, _, _⟩
  have HP := hide (put_any base bs V4 (pullV (nextS s i ai)) (lastV (nextS s i ai)) w4 ho4 hout)
  have HB4 := hide (Below.trans (unhide HB3) hb4)
  clear ho4 hb4 HPL
  go_wp2_with fail
  refine (unhide HP).mono ?_
  rintro _ w5 ⟨rfl, hb5, ho5⟩
  have HB5 := hide (Below.trans (unhide HB4) hb5)
  have HO5 := hide ho5
  clear hb5 ho5 HP
  generalize hRR : putS (pullV (nextS s i ai)) (lastV (nextS s i ai)) = RR at HO5 ⊢
  have HRR := hide hRR
  clear hRR
  go_wp2
  go_ret
  unfold EndPost
  rw [unhide HRR]
  exact ⟨rfl, unhide HB5, unhide HO5⟩
end Go.Proofs.YtohlefnljgkdcabDoor
namespace Go.Proofs.YtohlefnljgkdcabDoor
open Go.RowKit
set_option maxRecDepth 100000 in
set_option maxHeartbeats 4000000 in
theorem done_two (base bs : Nat) (V : Key → Value) (s : St) (i cp bp op n fi ai cb co cl cc : Nat) (KD : Int) (a : Int) (w : World) (h : OwnVar base w bs V s) (hd : DoAt base w s i bp op n fi ai cb co cl cc KD a) (hk0 : KD ≠ 0) (hk1 : KD ≠ 1) (hk2 : KD ≠ 2) (hk3 : KD ≠ 3) (hk9 : KD ≠ 9) (hk10 : KD ≠ 10) (hk11 : KD ≠ 11) (hk12 : KD ≠ 12) (hk13 : KD ≠ 13) (hk14 : KD ≠ 14) (hk15 : KD ≠ 15) (hk16 : KD ≠ 16) (hst2 : 1 < (frAt s i ((fibAt s i).frames.length - 1)).stack.length) :
    Calls Tryd.prog 117 #[.slice (some ⟨bp, op, none⟩) n cp, .pointer (some ⟨bs, 0, none⟩)] w fun e w' => EndPost base bs (pushV (pullV (pullV (nextS s i ai))) i (reckonS KD (lastV (pullV (nextS s i ai))) (lastV (nextS s i ai))), 0) w e w' := by
  generalize hR : (pushV (pullV (pullV (nextS s i ai))) i (reckonS KD (lastV (pullV (nextS s i ai))) (lastV (nextS s i ai))), (0 : Int)) = R
  have HR := hide hR
  clear hR
  obtain ⟨hn, hr, hfn, hat, hfin, hain, hcl, hpc⟩ := hd
  have hj : (fibAt s i).frames.length - 1 < (fibAt s i).frames.length := by have := hr.fr; omega
  obtain ⟨g, cap, eg, htop⟩ := top_own h hr.lt hr.fr hr.frs
  obtain ⟨b0, b1, _, _⟩ := h.cells
  rw [hn] at b1
  have HTOP := hide htop
  have HO := hide h
  have HPC := hide hpc
  have HRU := hide hr
  have HNX := hide (next_facts hn hr ai)
  have HEG := hide eg
  have hf1 : (fi : Int) < (n : Int) := by omega
  have hf0 : (0 : Int) ≤ (fi : Int) := by omega
  have ha1 : (ai : Int) < (cl : Int) := by omega
  have ha0 : (0 : Int) ≤ (ai : Int) := by omega
  have hwa : IntKind.i64.wrap ((ai : Int) + 1) = (ai : Int) + 1 := by rw [IntKind.wrap_i64]; omega
  generalize hjj : (fibAt s i).frames.length - 1 = j at *
  have HJJ := hide hjj
  clear htop h hpc hr eg hjj
  go_enter Tryd.func117, Tryd.ntmps117
  go_wp2_with fail
  refine (unhide HTOP).mono ?_
  rintro _ _ ⟨rfl, m0, rfl⟩
  have ho1 : OwnVar base (w.drewN m0) bs V s := (unhide HO).same rfl
  have hb1 : Below base w (w.drewN m0) := below_drewN (Below.refl _ _) m0
  generalize w.drewN m0 = w1 at ho1 hb1 ⊢
  obtain ⟨g', cap', eg', hcap, k0, k1, k2, k3, fz, hbg⟩ := ho1.own.fr (i := i) (j := j) (unhide HRU).lt hj
  have hVg : V (.frames i) = .slice (some ⟨g, 0, none⟩) (fibAt s i).frames.length cap := unhide HEG
  obtain ⟨rfl, rfl⟩ : g = g' ∧ cap = cap' := by rw [hVg] at eg'; simpa using eg'
  rw [hfn] at k0
  rw [hat] at k1
  obtain ⟨x0, x1, x2⟩ := (unhide HPC) w1 hb1
  have HY : Hid (∀ u, Kept w1 u → u.cell? ⟨g, j * 4, none⟩ = some (.int .i64 fi) ∧ u.cell? ⟨g, j * 4 + 1, none⟩ = some (.int .i64 ai) ∧ u.cell? ⟨bp, op + fi * 3 + 2, none⟩ = some (.slice (some ⟨cb, co, none⟩) cl cc) ∧ u.cell? ⟨cb, co + ai * 2, none⟩ = some (.int .i64 KD) ∧ u.cell? ⟨cb, co + ai * 2 + 1, none⟩ = some (.int .i64 a)) := hide (fun u hu => ⟨hu.cell k0, hu.cell k1, hu.cell x0, hu.cell x1, hu.cell x2⟩)
  have HO1 := hide ho1
  have HB1 := hide hb1
  have hgl := cell_lt k0
  simp only at hgl
  have HGL := hide hgl
  have hlow := ho1.low
  have hbw := lt_of_block ho1.var
  clear ho1 hb1 k0 k1 k2 k3 x0 x1 x2 fz eg' hgl HTOP
  go_wp2_with fail
  go_region_held3 (fun u => u.cell? ⟨g, j * 4, none⟩ = some (.int .i64 fi) ∧ u.cell? ⟨g, j * 4 + 1, none⟩ = some (.int .i64 ai) ∧ u.cell? ⟨bp, op + fi * 3 + 2, none⟩ = some (.slice (some ⟨cb, co, none⟩) cl cc) ∧ u.cell? ⟨cb, co + ai * 2, none⟩ = some (.int .i64 KD) ∧ u.cell? ⟨cb, co + ai * 2 + 1, none⟩ = some (.int .i64 a)) (exact (unhide HY) _ (by repeat (first | exact Kept.refl _ | refine Kept.drew ?_ | refine Kept.alloc ?_ _ | refine Kept.setCell ?_ (by simp) _))) (fail)
  rename_i hheld
  clear hheld HY
  have LX : (w1.alloc (.cells #[.int .i64 KD, .int .i64 a] 38)).drew.heap[w1.heap.size]? = some (.cells #[.int .i64 KD, .int .i64 a] 38) := lays_drew (lays_new rfl)
  have ho2 : OwnVar base (w1.alloc (.cells #[.int .i64 KD, .int .i64 a] 38)).drew bs V s := ((unhide HO1).alloc _).same rfl
  have hb2 : Below base w (w1.alloc (.cells #[.int .i64 KD, .int .i64 a] 38)).drew := (Below.alloc (unhide HB1) (by omega) _).drew
  have hoffX : Own.off V s w1.heap.size := (unhide HO1).own.new_off (.inl (Nat.le_refl _))
  have hXb : base ≤ w1.heap.size := by omega
  have hXs : bs ≠ w1.heap.size := by omega
  have hXg : w1.heap.size ≠ g := by have := unhide HGL; omega
  generalize (w1.alloc (.cells #[.int .i64 KD, .int .i64 a] 38)).drew = w2 at LX ho2 hb2 ⊢
  generalize w1.heap.size = X at LX hoffX hXb hXs hXg ⊢
  obtain ⟨_, _, eg2, _, _, k1, k2, _, fz, hbg2⟩ := ho2.own.fr (i := i) (j := j) (unhide HRU).lt hj
  obtain ⟨rfl, rfl⟩ := (by rw [hVg] at eg2; simpa using eg2 : g = _ ∧ cap = _)
  rw [hat] at k1
  have fz1 := fz (j * 4 + 1)
  obtain ⟨ho3, hb3⟩ := ho2.setAt (unhide HRU).lt hj hVg ((ai : Int) + 1)
  have ho3' : OwnVar base (w2.setCell ⟨g, j * 4 + 1, none⟩ (.int .i64 ((ai : Int) + 1))) bs V (nextS s i ai) := by unfold nextS; rw [unhide HJJ]; exact ho3
  have LX3 := lays_other LX (a := ⟨g, j * 4 + 1, none⟩) hXg (.int .i64 ((ai : Int) + 1))
  have y0 := cell_lays LX3 0
  have y1 := cell_lays LX3 1
  have HO3 := hide ho3'
  have HB3 := hide (Below.trans hb2 hb3)
  have HLX := hide LX3
  have HOX := hide hoffX
  clear ho2 hb2 ho3 ho3' hb3 LX LX3 fz eg2 HO1 HB1 HO hoffX
  have bk0 : (KD == 0) = false := beq_eq_false_iff_ne.2 hk0
  have bk1 : (KD == 1) = false := beq_eq_false_iff_ne.2 hk1
  have bk2 : (KD == 2) = false := beq_eq_false_iff_ne.2 hk2
  have bk3 : (KD == 3) = false := beq_eq_false_iff_ne.2 hk3
  have bk9 : (KD == 9) = false := beq_eq_false_iff_ne.2 hk9
  have bk10 : (KD == 10) = false := beq_eq_false_iff_ne.2 hk10
  have bk11 : (KD == 11) = false := beq_eq_false_iff_ne.2 hk11
  have bk12 : (KD == 12) = false := beq_eq_false_iff_ne.2 hk12
  have bk13 : (KD == 13) = false := beq_eq_false_iff_ne.2 hk13
  have bk14 : (KD == 14) = false := beq_eq_false_iff_ne.2 hk14
  have bk15 : (KD == 15) = false := beq_eq_false_iff_ne.2 hk15
  have bk16 : (KD == 16) = false := beq_eq_false_iff_ne.2 hk16
  clear hk0 hk1 hk2 hk3 hk9 hk10 hk11 hk12 hk13 hk14 hk15 hk16
  go_wp2_with fail
  generalize w2.setCell ⟨g, j * 4 + 1, none⟩ (.int .i64 ((ai : Int) + 1)) = w3 at HO3 HB3 y0 y1 HLX ⊢
  have hgb : (V (.frames i)).ownBlock = some g := by rw [hVg]; rfl
  have HGB := hide hgb
  clear hgb
  obtain ⟨n1, n2, n3, n4, n5, n6, n7, n8⟩ := unhide HNX
  have hjn : (fibAt (nextS s i ai) i).frames.length - 1 = j := by rw [n5]; exact unhide HJJ
  have hsl : 1 < (frAt (nextS s i ai) i ((fibAt (nextS s i ai) i).frames.length - 1)).stack.length := by rw [hjn, n6]; exact hst2
  have HPL := hide (pull_sharp base bs V (nextS s i ai) i w3 (unhide HO3) n1 n8.lt n8.fr n8.frs n8.st (by omega))
  obtain ⟨p1, p2, p3, p4, p5, p6, p7⟩ := pull_facts n1 n8.lt n8.fr
  have r1 := n8.pull n1
  have hsl1 : 0 < (frAt (pullV (nextS s i ai)) i ((fibAt (pullV (nextS s i ai)) i).frames.length - 1)).stack.length := by rw [p5, p6, List.length_dropLast]; omega
  obtain ⟨q1, q2, q3, q4, q5, q6, q7⟩ := pull_facts p2 r1.lt r1.fr
  have r2 := r1.pull p2
  have HP2 := hide (fun (V4 : Key → Value) (w4 : World) (h4 : OwnVar base w4 bs V4 (pullV (nextS s i ai))) => pull_sharp base bs V4 (pullV (nextS s i ai)) i w4 h4 p2 r1.lt r1.fr r1.frs r1.st hsl1)
  have HPU := hide (fun (V5 : Key → Value) (w5 : World) (z : Int) (h5 : OwnVar base w5 bs V5 (pullV (pullV (nextS s i ai)))) => push_any base bs V5 (pullV (pullV (nextS s i ai))) i z w5 h5 r2.lt r2.fr r2.frs r2.st)
  have hq2 : (pullV (pullV (nextS s i ai))).now = i := q2
  generalize lastV (pullV (nextS s i ai)) = va at HP2 HR
  generalize lastV (nextS s i ai) = vb at HPL HR
  generalize pullV (pullV (nextS s i ai)) = s2 at HP2 HPU hq2 HR
  generalize pullV (nextS s i ai) = s1 at HPL HP2
  clear n1 n2 n3 n4 n5 n6 n7 n8 p1 p2 p3 p4 p5 p6 p7 q1 q2 q3 q4 q5 q6 q7 r1 r2 hsl hsl1 y0 y1
  refine (unhide HPL).mono ?_
  rintro _ w4 ⟨rfl, V4, ho4, hb4, hf4, _, hh4⟩
  have LX4 : w4.heap[X]? = _ := (hh4 X (by rw [unhide HGB]; intro e; exact hXg (Option.some.inj e).symm)).trans (unhide HLX)
  have HLX4 := hide LX4
  have HB4 := hide (Below.trans (unhide HB3) hb4)
  have HC2 := hide ((unhide HP2) V4 w4 ho4)
  have HG4 : Hid ((V4 (.frames i)).ownBlock = some g) := hide (by rw [hf4]; exact unhide HGB)
  clear ho4 hb4 hf4 hh4 LX4 HP2 HPL
  go_wp2_with fail
  refine (unhide HC2).mono ?_
  rintro _ w5 ⟨rfl, V5, ho5, hb5, hf5, _, hh5⟩
  have LX5 : w5.heap[X]? = _ := (hh5 X (by rw [unhide HG4]; intro e; exact hXg (Option.some.inj e).symm)).trans (unhide HLX4)
  have z0 := cell_lays LX5 0
  obtain ⟨_, c1, _, _⟩ := ho5.cells
  rw [hq2] at c1
  have HPU5 := hide (fun (u : World) (hu : u.heap = w5.heap) (z : Int) => (unhide HPU) V5 u z (ho5.same hu))
  have HB5 := hide (Below.trans (unhide HB4) hb5)
  have HYS : Hid (∀ u, Kept w5 u → u.cell? ⟨bs, 1, none⟩ = some (.int .i64 i) ∧ u.cell? ⟨X, 0, none⟩ = some (.int .i64 KD)) := hide (fun u hu => ⟨hu.cell c1, hu.cell z0⟩)
  clear ho5 hb5 hf5 hh5 LX5 HC2 z0 c1 HPU
  go_wp2_with fail
  refine wp_regionT 10 (fun u => u.cell? ⟨bs, 1, none⟩ = some (.int .i64 i) ∧ u.cell? ⟨X, 0, none⟩ = some (.int .i64 KD)) (by kernel_rfl) ?_
  have hHeld := (unhide HYS) _ (Kept.refl w5).drew
  refine takeU (i := 0) (v := ?_) rfl (by kernel_rfl) (by kernel_rfl) (by kernel_rfl) (by kernel_rfl) (fun _ _ _ h => h) (by rfl) (fun u hSu => ?_) hHeld ?_
  rotate_left
  · ((try dsimp only at hSu); go_simp) <;> with_reducible rfl
  try simp only [Act.put, List.setIfInBounds_toArray, List.set_cons_zero, List.set_cons_succ]
  refine takeU (i := 1) (v := ?_) rfl (by kernel_rfl) (by kernel_rfl) (by kernel_rfl) (by kernel_rfl) (fun _ _ _ h => h) (by rfl) (fun u hSu => ?_) hHeld ?_
  rotate_left
  · ((try dsimp only at hSu); go_simp) <;> with_reducible rfl
  try simp only [Act.put, List.setIfInBounds_toArray, List.set_cons_zero, List.set_cons_succ]
  refine takeU (i := 2) (v := ?_) rfl (by kernel_rfl) (by kernel_rfl) (by kernel_rfl) (by kernel_rfl) (fun _ _ _ h => h) (by rfl) (fun u hSu => ?_) hHeld ?_
  rotate_left
  · ((try dsimp only at hSu); go_simp) <;> with_reducible rfl
  try simp only [Act.put, List.setIfInBounds_toArray, List.set_cons_zero, List.set_cons_succ]
  refine takeU (i := 3) (v := ?_) rfl (by kernel_rfl) (by kernel_rfl) (by kernel_rfl) (by kernel_rfl) (fun _ _ _ h => h) (by rfl) (fun u hSu => ?_) hHeld ?_
  rotate_left
  · ((try dsimp only at hSu); go_simp) <;> with_reducible rfl
  try simp only [Act.put, List.setIfInBounds_toArray, List.set_cons_zero, List.set_cons_succ]
  refine takeU (i := 4) (v := ?_) rfl (by kernel_rfl) (by kernel_rfl) (by kernel_rfl) (by kernel_rfl) (fun _ _ _ h => h) (by rfl) (fun u hSu => ?_) hHeld ?_
  rotate_left
  · ((try dsimp only at hSu); go_simp) <;> with_reducible rfl
  try simp only [Act.put, List.setIfInBounds_toArray, List.set_cons_zero, List.set_cons_succ]
  refine takeU (i := 5) (v := ?_) rfl (by kernel_rfl) (by kernel_rfl) (by kernel_rfl) (by kernel_rfl) (fun _ _ _ h => h) (by rfl) (fun u hSu => ?_) hHeld ?_
  rotate_left
  · ((try dsimp only at hSu); go_simp) <;> with_reducible rfl
  try simp only [Act.put, List.setIfInBounds_toArray, List.set_cons_zero, List.set_cons_succ]
  refine takeU (i := 6) (v := ?_) rfl (by kernel_rfl) (by kernel_rfl) (by kernel_rfl) (by kernel_rfl) (fun _ _ _ h => h) (by rfl) (fun u hSu => ?_) hHeld ?_
  rotate_left
  · ((try dsimp only at hSu); go_simp) <;> with_reducible rfl
  try simp only [Act.put, List.setIfInBounds_toArray, List.set_cons_zero, List.set_cons_succ]
  refine takeU (i := 7) (v := ?_) rfl (by kernel_rfl) (by kernel_rfl) (by kernel_rfl) (by kernel_rfl) (fun _ _ _ h => h) (by rfl) (fun u hSu => ?_) hHeld ?_
  rotate_left
  · ((try dsimp only at hSu); go_simp) <;> with_reducible rfl
  try simp only [Act.put, List.setIfInBounds_toArray, List.set_cons_zero, List.set_cons_succ]
  refine takeU (i := 8) (v := ?_) rfl (by kernel_rfl) (by kernel_rfl) (by kernel_rfl) (by kernel_rfl) (fun _ _ _ h => h) (by rfl) (fun u hSu => ?_) hHeld ?_
  rotate_left
  · ((try dsimp only at hSu); go_simp) <;> with_reducible rfl
  try simp only [Act.put, List.setIfInBounds_toArray, List.set_cons_zero, List.set_cons_succ]
  refine takeT_one (i := 9) rfl (by kernel_rfl) (fun K hK => ?_)
  go_simp
  refine (reckoned_any _ _ _ _).mono ?_
  rintro _ _ ⟨rfl, rfl⟩
  refine hK.out _ _ (fun _ => hHeld) ?_
  clear hK K
  generalize hz : reckonS KD va vb = zz
  have HZ := hide hz
  clear hz
  try simp only [Act.put, List.setIfInBounds_toArray, List.set_cons_zero, List.set_cons_succ]
  refine takeT_one (i := 10) rfl (by kernel_rfl) (fun K hK => ?_)
  go_simp
  refine ((unhide HPU5) w5.drew rfl zz).mono ?_
  rintro _ w6 ⟨rfl, V6, ho6, hb6⟩
  refine hK.out _ _ (fun h => absurd rfl h) ?_
  clear hK K
  refine takeT_done (by kernel_rfl) ?_ _
  clear hHeld
  have HO6 := hide ho6
  have HB6 := hide (Below.trans (unhide HB5) (Below.trans (Below.drew (Below.refl _ w5)) hb6))
  clear ho6 hb6 HPU5 HYS
  go_wp2
  go_ret
  unfold EndPost
  rw [← unhide HR, unhide HZ]
  exact ⟨rfl, unhide HB6, fun _ => ⟨V6, unhide HO6⟩⟩
end Go.Proofs.YtohlefnljgkdcabDoor
