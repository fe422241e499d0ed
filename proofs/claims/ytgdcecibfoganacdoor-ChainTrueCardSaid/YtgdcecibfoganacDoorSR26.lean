/-
  The reference's machine: a fiber comes, by an append; Call, plain.
  The reference's machine: done, of ops of some kinds.
  The reference's push, and what it leaves alone.
-/
import Derived.Test.YtgdcecibfoganacDoorSR22
import Derived.Deep.RegionHeld3
import Derived.Test.YtgdcecibfoganacDoorSR21
import Derived.Test.YtgdcecibfoganacDoorSR23

namespace Go.Proofs.YtgdcecibfoganacDoor
open Go.RowKit

theorem infoFiber : (Tryd.prog.info? 33).map (fun i => (i.zero, i.size, i.bytes)) = some (some (.agg #[.slice none 0 0, .int .i64 0]), 2, 32) := by kernel_rfl

theorem fiber_added (base bs : Nat) (V : Key → Value) (s : St) (fn : Int) (lo : Nat) (w : World) (h : OwnVar base w bs V s) (hfr : s.fibers.length ≤ 1000) (hlo : lo ≤ 1000) :
    ∃ v' w', (Builtin.append_ #[23, 23] 23 #[V .fibers, .slice (some ⟨w.heap.size + 1 + 1, 0, none⟩) 1 1]).run Tryd.prog
        (((w.alloc (.cells ((List.replicate lo (0 : Int)).map (fun z => Value.int .i64 z)).toArray 3)).alloc (.cells #[.int .i64 fn, .int .i64 0, .slice (some ⟨w.heap.size, 0, none⟩) lo lo, .slice none 0 0] 35)).alloc (.cells #[.slice (some ⟨w.heap.size + 1, 0, none⟩) 1 1, .int .i64 (-1)] 33)).drew = .ok v' w' ∧
      (∃ o c, v' = .slice o (s.fibers.length + 1) c) ∧ (∃ V', OwnVar base (w'.setCell ⟨bs, 0, none⟩ v') bs V' { s with fibers := s.fibers ++ [⟨[⟨fn, 0, List.replicate lo 0, []⟩], -1⟩] }) ∧ Below base w w' ∧
      (∀ b, b < w.heap.size → (V .fibers).ownBlock ≠ some b → w'.heap[b]? = w.heap[b]?) := by
  obtain ⟨i0, hi0, hz0, hz1, hz2⟩ := info_parts infoFiber
  have hbw : bs < w.heap.size := lt_of_block h.var
  have hbase : base ≤ w.heap.size := by have := h.low; omega
  generalize hoL : Obj.cells ((List.replicate lo (0 : Int)).map (fun z => Value.int .i64 z)).toArray 3 = oL
  generalize hoF : Obj.cells #[.int .i64 fn, .int .i64 0, .slice (some ⟨w.heap.size, 0, none⟩) lo lo, .slice none 0 0] 35 = oF
  generalize hoB : Obj.cells #[.slice (some ⟨w.heap.size + 1, 0, none⟩) 1 1, .int .i64 (-1)] 33 = oB
  have lL : (((w.alloc oL).alloc oF).alloc oB).drew.heap[w.heap.size]? = some (.cells ((List.replicate lo (0 : Int)).map (fun z => Value.int .i64 z)).toArray 3) := by rw [hoL]; exact lays_drew (lays_alloc (lays_alloc (lays_new rfl) _) _)
  have lF : (((w.alloc oL).alloc oF).alloc oB).drew.heap[w.heap.size + 1]? = some (.cells #[.int .i64 fn, .int .i64 0, .slice (some ⟨w.heap.size, 0, none⟩) lo lo, .slice none 0 0] 35) := by rw [hoF]; exact lays_drew (lays_alloc (lays_new (by simp)) _)
  have lB : (((w.alloc oL).alloc oF).alloc oB).drew.heap[w.heap.size + 1 + 1]? = some (.cells #[.slice (some ⟨w.heap.size + 1, 0, none⟩) 1 1, .int .i64 (-1)] 33) := by rw [hoB]; exact lays_drew (lays_new (by simp))
  have hu : OwnVar base (((w.alloc oL).alloc oF).alloc oB).drew bs V s := (((h.alloc oL).alloc oF).alloc oB).same rfl
  have hku : Kept w (((w.alloc oL).alloc oF).alloc oB).drew := ((((Kept.refl w).alloc _).alloc _).alloc _).drew
  have hsz : (((w.alloc oL).alloc oF).alloc oB).drew.heap.size = w.heap.size + 3 := by simp
  generalize (((w.alloc oL).alloc oF).alloc oB).drew = u at *
  have hbu : Below base w u := Below.mono hku hbase
  obtain ⟨xs, hrow, _⟩ := hu.own.piece .fibers trivial
  obtain ⟨v', w', hrun, hown', hgrow, _, hat⟩ := run_append_own_at (P := Tryd.prog) u base 23 23 33 i0 _ 2 32 Tryd.underlying23 hi0 hz0 hz1 hz2 rfl (by decide) _ _ xs hrow ⟨w.heap.size + 1 + 1, 0, none⟩ 1 1
    [.slice (some ⟨w.heap.size + 1, 0, none⟩) 1 1, .int .i64 (-1)] rfl (fun j x hj => by
      have : ((⟨w.heap.size + 1 + 1, 0, none⟩ : Addr).add j) = ⟨w.heap.size + 1 + 1, j, none⟩ := by unfold Addr.add; split <;> simp_all
      rw [this, cell_lays lB]
      simpa using hj) (by intro x hx; simp only [List.mem_cons, List.not_mem_nil, or_false] at hx; rcases hx with rfl | rfl <;> rfl) (by unfold maxLen; omega) (by omega) (by omega)
  have hofw : ∀ b, w.heap.size ≤ b → Own.off V s b := fun b hb => h.own.new_off (.inl hb)
  have hst : ∀ b, w.heap.size ≤ b → b < u.heap.size → w'.heap[b]? = u.heap[b]? := fun b hb hb' => hgrow.block b hb' (fun e => hofw b hb .fibers trivial e.symm)
  have hloc : w'.ownsRow base 3 1 (.slice (some ⟨w.heap.size, 0, none⟩) lo lo) (List.replicate lo (0 : Int)).length (ints (List.replicate lo 0)) := by
    refine ⟨by simp [ints_len], .inr ⟨w.heap.size, lo, (ints (List.replicate lo 0)).toArray, by simp, hbase, ?_, by simp, by unfold maxLen; omega, by simp [ints_len], List.take_of_length_le (by simp [ints_len])⟩⟩
    rw [hst _ (by omega) (by omega)]
    exact lL
  have hfrw : w'.ownsRow base 35 4 (.slice (some ⟨w.heap.size + 1, 0, none⟩) 1 1) 1 [.int .i64 fn, .int .i64 0, .slice (some ⟨w.heap.size, 0, none⟩) lo lo, .slice none 0 0] := by
    refine ⟨rfl, .inr ⟨w.heap.size + 1, 1, #[.int .i64 fn, .int .i64 0, .slice (some ⟨w.heap.size, 0, none⟩) lo lo, .slice none 0 0], rfl, by omega, ?_, by omega, by decide, rfl, rfl⟩⟩
    rw [hst _ (by omega) (by omega)]
    exact lF
  have hadd := hu.own.addFiber ⟨fn, 0, List.replicate lo 0, []⟩ (-1) (.slice (some ⟨w.heap.size, 0, none⟩) lo lo) (.slice (some ⟨w.heap.size + 1, 0, none⟩) 1 1) v' rfl (gl := w.heap.size) (gf := w.heap.size + 1) (.inr rfl) rfl (by omega) (hofw _ (by omega)) (hofw _ (by omega)) (by omega) (by omega) hloc hfrw
    (fun b hb hne => hgrow.block b hb (fun e => hne e.symm)) (fun ys hy => by rw [row_unique hy hrow]; exact hown') hat
  have hoff : Own.off (upd (upd (upd (upd V .fibers v') (.frames s.fibers.length) (.slice (some ⟨w.heap.size + 1, 0, none⟩) 1 1)) (.locals s.fibers.length 0) (.slice (some ⟨w.heap.size, 0, none⟩) lo lo)) (.stack s.fibers.length 0) (.slice none 0 0)) { s with fibers := s.fibers ++ [⟨[⟨fn, 0, List.replicate lo 0, []⟩], -1⟩] } bs := by
    intro k hk e
    by_cases e1 : k = .stack s.fibers.length 0
    · rw [e1, upd_same] at e; cases e
    rw [upd_ne _ _ e1] at e
    by_cases e2 : k = .locals s.fibers.length 0
    · rw [e2, upd_same] at e; have := Option.some.inj e; simp only at this; omega
    rw [upd_ne _ _ e2] at e
    by_cases e3 : k = .frames s.fibers.length
    · rw [e3, upd_same] at e; have := Option.some.inj e; simp only at this; omega
    rw [upd_ne _ _ e3] at e
    by_cases e4 : k = .fibers
    · rw [e4, upd_same] at e
      rcases hat with h1 | h1
      · rw [h1] at e; exact h.off .fibers trivial e
      · rw [h1] at e; cases e; omega
    rw [upd_ne _ _ e4] at e
    refine h.off k ?_ e
    have hfo : ∀ t, t < s.fibers.length → fibAt { s with fibers := s.fibers ++ [⟨[⟨fn, 0, List.replicate lo 0, []⟩], -1⟩] } t = fibAt s t := fun t ht => getD_append_left _ _ _ _ ht
    have hfn : fibAt { s with fibers := s.fibers ++ [⟨[⟨fn, 0, List.replicate lo 0, []⟩], -1⟩] } s.fibers.length = ⟨[⟨fn, 0, List.replicate lo 0, []⟩], -1⟩ := getD_append_len _ _ _
    cases k with
    | fibers => trivial
    | out => trivial
    | frames t =>
      simp only [live, List.length_append, List.length_cons, List.length_nil] at hk ⊢
      have : t ≠ s.fibers.length := fun e => e3 (by rw [e])
      omega
    | locals t q =>
      simp only [live, List.length_append, List.length_cons, List.length_nil] at hk ⊢
      by_cases et : t = s.fibers.length
      · rw [et, hfn] at hk
        simp only [List.length_cons, List.length_nil] at hk
        have : q = 0 := by omega
        exact absurd (by rw [et, this]) e2
      · rw [hfo t (by omega)] at hk; exact ⟨by omega, hk.2⟩
    | stack t q =>
      simp only [live, List.length_append, List.length_cons, List.length_nil] at hk ⊢
      by_cases et : t = s.fibers.length
      · rw [et, hfn] at hk
        simp only [List.length_cons, List.length_nil] at hk
        have : q = 0 := by omega
        exact absurd (by rw [et, this]) e1
      · rw [hfo t (by omega)] at hk; exact ⟨by omega, hk.2⟩
  refine ⟨v', w', hrun, ?_, ⟨_, ?_, hadd.setOff (a := ⟨bs, 0, none⟩) hoff v', hoff, h.low⟩, ?_, fun b hb hne => ?_⟩
  · obtain ⟨o, c, e, _⟩ := row_slice hown'
    exact ⟨o, c, e⟩
  · have hv : w'.heap[bs]? = some (.cells #[V .fibers, .int .i64 s.now, V .out] 26) := by
      rw [hgrow.block bs (by omega) (fun e => h.off .fibers trivial e.symm)]
      exact hu.var
    rw [lays_set hv 0 v', upd_ne _ _ (by simp), upd_ne _ _ (by simp), upd_ne _ _ (by simp), upd_same, upd_ne _ _ (by simp), upd_ne _ _ (by simp), upd_ne _ _ (by simp), upd_ne _ _ (by simp)]
    rfl
  · exact Below.grown hbu hgrow (by omega) (fun r hr => ((hu.own.piece .fibers trivial).block r hr).1)
  · rw [hgrow.block b (by omega) (fun e => hne e.symm)]
    exact hku.block b hb

/-- Call, as it is walked. -/
theorem calledS_eq {p : List Fn} {s : St} {i f2 a2 lo2 : Nat} (hn : s.now = i) (hr : Runs s i) (ha : (p.getD f2 Fn.zero).args = a2) (hl : (p.getD f2 Fn.zero).locals = lo2) :
    calledS p s f2 = if (fibAt s i).frames.length = 6 then (St.zero, (2 : Int)) else (setFib (takeTop s i a2) i { fibAt (takeTop s i a2) i with frames := (fibAt (takeTop s i a2) i).frames ++ [⟨f2, 0, (frAt s i ((fibAt s i).frames.length - 1)).stack.drop ((frAt s i ((fibAt s i).frames.length - 1)).stack.length - a2) ++ List.replicate (lo2 - ((frAt s i ((fibAt s i).frames.length - 1)).stack.drop ((frAt s i ((fibAt s i).frames.length - 1)).stack.length - a2)).length) 0, []⟩] }, 0) := by
  have ht := top_at hn
  have hs1 : (s.turnTop s.now fun x => { x with stack := x.stack.take (x.stack.length - a2) }) = takeTop s i a2 := by rw [hn, turnTop_setFr]; rfl
  obtain ⟨f1, f2', f3, f4, f5, f6⟩ := takeTop_facts hr a2
  unfold calledS
  simp only [Int.toNat_natCast, ha]
  rw [hs1, hn, fib_fibAt, turn_setFib, f4, ht]
  unfold begunS
  rw [Int.toNat_natCast, hl, Int.toNat_natCast]
end Go.Proofs.YtgdcecibfoganacDoor

namespace Go.Proofs.YtgdcecibfoganacDoor
open Go.RowKit

set_option maxRecDepth 100000 in
set_option maxHeartbeats 4000000 in
theorem done_call (base bs : Nat) (V : Key → Value) (s : St) (i cp bp op n fi ai cb co cl cc : Nat) (a : Int) (w : World) (h : OwnVar base w bs V s) (hd : DoAt base w s i bp op n fi ai cb co cl cc 11 a) (p : List Fn) (f2 a2 lo2 : Nat) (ha2 : a = f2) (hpf : ∀ u, Below base w u → u.cell? ⟨bp, op + f2 * 3, none⟩ = some (.int .i64 a2) ∧ u.cell? ⟨bp, op + f2 * 3 + 1, none⟩ = some (.int .i64 lo2)) (hf2 : f2 < n) (hal : a2 ≤ lo2) (hlo : lo2 ≤ 1000) (hsta : a2 ≤ (frAt s i ((fibAt s i).frames.length - 1)).stack.length) (hf6 : (fibAt s i).frames.length ≤ 6) (hpa : (p.getD f2 Fn.zero).args = a2) (hpl : (p.getD f2 Fn.zero).locals = lo2) :
    Calls Tryd.prog 72 #[.slice (some ⟨bp, op, none⟩) n cp, .pointer (some ⟨bs, 0, none⟩)] w fun e w' => EndPost base bs (calledS p (nextS s i ai) a) w e w' := by
  subst ha2
  generalize hR : calledS p (nextS s i ai) (f2 : Int) = R
  have HR := hide hR
  clear hR
  have HPF := hide hpf
  have HPA := hide hpa
  have HPLL := hide hpl
  clear hpf hpa hpl
  obtain ⟨hn, hr, hfn, hat, hfin, hain, hcl, hpc⟩ := hd
  have hj : (fibAt s i).frames.length - 1 < (fibAt s i).frames.length := by have := hr.fr; omega
  obtain ⟨g, cap, eg, htop⟩ := top_own h hr.lt hr.fr hr.frs
  obtain ⟨b0, b1, _, _⟩ := h.cells
  rw [hn] at b1
  have HTOP := hide htop
  have HO := hide h
  have HPC := hide hpc
  have HRU := hide hr
  have HNX := hide (next_facts hn hr ai)
  have HEG := hide eg
  have hf1 : (fi : Int) < (n : Int) := by omega
  have hf0 : (0 : Int) ≤ (fi : Int) := by omega
  have ha1 : (ai : Int) < (cl : Int) := by omega
  have ha0 : (0 : Int) ≤ (ai : Int) := by omega
  have hwa : IntKind.i64.wrap ((ai : Int) + 1) = (ai : Int) + 1 := by rw [IntKind.wrap_i64]; omega
  generalize hjj : (fibAt s i).frames.length - 1 = j at *
  have HJJ := hide hjj
  clear htop h hpc hr eg hjj
  go_enter Tryd.func72, Tryd.ntmps72
  go_wp2_with fail
  refine (unhide HTOP).mono ?_
  rintro _ _ ⟨rfl, m0, rfl⟩
  have ho1 : OwnVar base (w.drewN m0) bs V s := (unhide HO).same rfl
  have hb1 : Below base w (w.drewN m0) := below_drewN (Below.refl _ _) m0
  generalize w.drewN m0 = w1 at ho1 hb1 ⊢
  obtain ⟨g', cap', eg', hcap, k0, k1, k2, k3, fz, hbg⟩ := ho1.own.fr (i := i) (j := j) (unhide HRU).lt hj
  have hVg : V (.frames i) = .slice (some ⟨g, 0, none⟩) (fibAt s i).frames.length cap := unhide HEG
  obtain ⟨rfl, rfl⟩ : g = g' ∧ cap = cap' := by rw [hVg] at eg'; simpa using eg'
  rw [hfn] at k0
  rw [hat] at k1
  obtain ⟨x0, x1, x2⟩ := (unhide HPC) w1 hb1
  have HY : Hid (∀ u, Kept w1 u → u.cell? ⟨g, j * 4, none⟩ = some (.int .i64 fi) ∧ u.cell? ⟨g, j * 4 + 1, none⟩ = some (.int .i64 ai) ∧ u.cell? ⟨bp, op + fi * 3 + 2, none⟩ = some (.slice (some ⟨cb, co, none⟩) cl cc) ∧ u.cell? ⟨cb, co + ai * 2, none⟩ = some (.int .i64 11) ∧ u.cell? ⟨cb, co + ai * 2 + 1, none⟩ = some (.int .i64 (f2 : Int))) := hide (fun u hu => ⟨hu.cell k0, hu.cell k1, hu.cell x0, hu.cell x1, hu.cell x2⟩)
  have HO1 := hide ho1
  have HB1 := hide hb1
  have hgl := cell_lt k0
  simp only at hgl
  have HGL := hide hgl
  have hlow := ho1.low
  have hbw := lt_of_block ho1.var
  clear ho1 hb1 k0 k1 k2 k3 x0 x1 x2 fz eg' hgl HTOP
  go_wp2_with fail
  go_region_held3 (fun u => u.cell? ⟨g, j * 4, none⟩ = some (.int .i64 fi) ∧ u.cell? ⟨g, j * 4 + 1, none⟩ = some (.int .i64 ai) ∧ u.cell? ⟨bp, op + fi * 3 + 2, none⟩ = some (.slice (some ⟨cb, co, none⟩) cl cc) ∧ u.cell? ⟨cb, co + ai * 2, none⟩ = some (.int .i64 11) ∧ u.cell? ⟨cb, co + ai * 2 + 1, none⟩ = some (.int .i64 (f2 : Int))) (exact (unhide HY) _ (by repeat (first | exact Kept.refl _ | refine Kept.drew ?_ | refine Kept.alloc ?_ _ | refine Kept.setCell ?_ (by simp) _))) (fail)
  rename_i hheld
  clear hheld HY
  have LX : (w1.alloc (.cells #[.int .i64 11, .int .i64 (f2 : Int)] 42)).drew.heap[w1.heap.size]? = some (.cells #[.int .i64 11, .int .i64 (f2 : Int)] 42) := lays_drew (lays_new rfl)
  have ho2 : OwnVar base (w1.alloc (.cells #[.int .i64 11, .int .i64 (f2 : Int)] 42)).drew bs V s := ((unhide HO1).alloc _).same rfl
  have hb2 : Below base w (w1.alloc (.cells #[.int .i64 11, .int .i64 (f2 : Int)] 42)).drew := (Below.alloc (unhide HB1) (by omega) _).drew
  have hoffX : Own.off V s w1.heap.size := (unhide HO1).own.new_off (.inl (Nat.le_refl _))
  have hXb : base ≤ w1.heap.size := by omega
  have hXs : bs ≠ w1.heap.size := by omega
  have hXg : w1.heap.size ≠ g := by have := unhide HGL; omega
  generalize (w1.alloc (.cells #[.int .i64 11, .int .i64 (f2 : Int)] 42)).drew = w2 at LX ho2 hb2 ⊢
  generalize w1.heap.size = X at LX hoffX hXb hXs hXg ⊢
  obtain ⟨_, _, eg2, _, _, k1, k2, _, fz, hbg2⟩ := ho2.own.fr (i := i) (j := j) (unhide HRU).lt hj
  obtain ⟨rfl, rfl⟩ := (by rw [hVg] at eg2; simpa using eg2 : g = _ ∧ cap = _)
  rw [hat] at k1
  have fz1 := fz (j * 4 + 1)
  obtain ⟨ho3, hb3⟩ := ho2.setAt (unhide HRU).lt hj hVg ((ai : Int) + 1)
  have ho3' : OwnVar base (w2.setCell ⟨g, j * 4 + 1, none⟩ (.int .i64 ((ai : Int) + 1))) bs V (nextS s i ai) := by unfold nextS; rw [unhide HJJ]; exact ho3
  have LX3 := lays_other LX (a := ⟨g, j * 4 + 1, none⟩) hXg (.int .i64 ((ai : Int) + 1))
  have y0 := cell_lays LX3 0
  have y1 := cell_lays LX3 1
  have HO3 := hide ho3'
  have HB3 := hide (Below.trans hb2 hb3)
  have HLX := hide LX3
  have HOX := hide hoffX
  clear ho2 hb2 ho3 ho3' hb3 LX LX3 fz eg2 HO1 HB1 HO hoffX
  go_wp2_with fail
  generalize w2.setCell ⟨g, j * 4 + 1, none⟩ (.int .i64 ((ai : Int) + 1)) = w3 at HO3 HB3 y0 y1 HLX ⊢
  obtain ⟨n1, n2, n3, n4, n5, n6, n7, n8⟩ := unhide HNX
  have hjn : (fibAt (nextS s i ai) i).frames.length - 1 = j := by rw [n5]; exact unhide HJJ
  have hR := unhide HR
  rw [calledS_eq n1 n8 (unhide HPA) (unhide HPLL)] at hR
  have HC := hide (called_any base bs V (nextS s i ai) i f2 n cp bp op a2 lo2 w3 (unhide HO3) n1 n8 (fun u hu => (unhide HPF) u (Below.trans (unhide HB3) hu)) hf2 hal hlo (by rw [hjn, n6]; exact hsta) (by rw [n5]; exact hf6) R hR)
  clear n1 n2 n3 n4 n5 n6 n7 n8 y0 y1 hR
  refine (unhide HC).mono ?_
  rintro _ w4 ⟨rfl, hb4, ho4⟩
  have HB4 := hide hb4
  have HO4 := hide ho4
  clear hb4 ho4 HC
  go_wp2
  go_ret
  exact ⟨rfl, Below.trans (unhide HB3) (unhide HB4), unhide HO4⟩

end Go.Proofs.YtgdcecibfoganacDoor

namespace Go.Proofs.YtgdcecibfoganacDoor
open Go.RowKit

set_option maxHeartbeats 2000000 in
set_option maxRecDepth 100000 in
theorem push_sharp (base bs : Nat) (V : Key → Value) (s : St) (i : Nat) (z : Int) (w : World) (h : OwnVar base w bs V s) (hi : i < s.fibers.length) (hq : 0 < (fibAt s i).frames.length) (hqs : (fibAt s i).frames.length ≤ 1000) (hst : (frAt s i ((fibAt s i).frames.length - 1)).stack.length ≤ 1000) :
    Calls Tryd.prog 74 #[.pointer (some ⟨bs, 0, none⟩), .int .i64 i, .int .i64 z] w fun e w' => Turned base bs (pushV s i z) (.tuple #[]) w e w' ∧ ∀ b, b < w.heap.size → Own.off V s b → w'.heap[b]? = w.heap[b]? := by
  obtain ⟨i0, hi0, hz0, hz1, hz2⟩ := info_parts infoInt
  obtain ⟨g, cap, eg, htop⟩ := top_own h hi hq hqs
  unfold pushV
  rw [turnTop_setFr]
  generalize hj : (fibAt s i).frames.length - 1 = j at *
  have hjl : j < (fibAt s i).frames.length := by omega
  have HT := hide htop
  have HO := hide h
  have HEG := hide eg
  clear htop h
  go_enter Tryd.func74, Tryd.ntmps74
  go_wp2_with fail
  refine (unhide HT).mono ?_
  rintro e w1 ⟨rfl, m, rfl⟩
  generalize hw1 : w.drewN m = w1
  have ho1 : OwnVar base w1 bs V s := (unhide HO).same (by rw [← hw1]; rfl)
  have hb1 : Below base w w1 := by rw [← hw1]; exact below_drewN (Below.refl _ w) m
  obtain ⟨g', cap', eg', _, f0, f1, f2, f3, ffz, hbg⟩ := ho1.own.fr hi hjl
  rw [unhide HEG] at eg'
  obtain ⟨⟨rfl⟩, -, rfl⟩ := (by simpa using eg' : (g = g') ∧ True ∧ cap = cap')
  have hs := ho1.own.stk hi hjl
  have hlg := cell_lt f0
  simp only at hlg
  have hbw : base ≤ w1.heap.size := by omega
  have hgs : (V (.stack i j)).ownBlock ≠ some g := fun e => by
    have := ho1.own.apart (.stack i j) (.frames i) g ⟨hi, hjl⟩ hi e (by rw [unhide HEG]; rfl)
    cases this
  have HO1 := hide ho1
  have HSM : Hid (w1.heap = w.heap) := hide (by rw [← hw1]; rfl)
  have HB1 := hide hb1
  have HS := hide hs
  have hfz := ffz (j * 4 + 3)
  generalize hvs : V (.stack i j) = vs0 at *
  have HVS := hide hvs
  generalize hl : (frAt s i j).stack = l at *
  have HL := hide hl
  clear hw1 hb1 ho1 hvs hl hs f0 f1 f2 ffz eg'
  go_wp2_with (at_builtin; refine wpList_append_own_at _ rfl _ _ 24 rfl base 3 i0 (.int .i64 0) 1 8 Tryd.underlying24 hi0 hz0 hz1 hz2 rfl (by decide) _ _ _ rfl ((unhide HS).alloc _) ⟨w1.heap.size, 0, none⟩ 1 1 [.int .i64 z] rfl rfl (new_one _ _ _) (int_one _) (by unfold maxLen; omega) (by omega) (by simp; omega) ?_; intro v' w2 hown' hgrow _ hat; obtain ⟨o2, c2, rfl, -⟩ := row_slice hown'; have g3 : w2.cell? ⟨g, j * 4 + 3, none⟩ = some vs0 := hgrow.cell (((Kept.refl w1).alloc _).cell f3) (fun e => hgs e.symm); have gz : w2.frozen? ⟨g, j * 4 + 3, none⟩ = false := (World.frozen?_of_block (hgrow.block g (by simp; omega) (fun e => hgs e.symm))).trans ((World.frozen?_of_block (Below.heap_alloc w1 _ g hlg)).trans hfz); have HOW := hide hown'; have HGR := hide hgrow; have HAT := hide hat; clear hown' hgrow hat)
  go_end0
  have hfin := ((unhide HO1).alloc (.cells #[.int .i64 z] 3)).turnStack (w2 := w2) hi hjl (unhide HEG) (.slice o2 (l.length + 1) c2) (l ++ [z]) (by rw [unhide HVS]; exact unhide HGR) (by rw [ints_append, List.length_append]; exact unhide HOW) (by rw [unhide HVS]; exact unhide HAT)
  unfold Turned
  refine ⟨⟨rfl, upd V (.stack i j) (.slice o2 (l.length + 1) c2), ?_, ?_⟩, fun b hb hoff => ?_⟩
  · rw [unhide HL]
    exact hfin.1
  · exact Below.trans (unhide HB1) (Below.trans (Below.alloc (Below.refl _ w1) hbw _) hfin.2)
  · have hb1 : b < w1.heap.size := by rw [unhide HSM]; exact hb
    rw [Below.heap_setCell _ _ _ _ (fun e => hoff (.frames i) hi (by rw [unhide HEG]; exact congrArg some e.symm)), (unhide HGR).block b (by simp; omega) (fun e => hoff (.stack i j) ⟨hi, hjl⟩ (by rw [unhide HVS]; exact e.symm)), Below.heap_alloc w1 _ b hb1, unhide HSM]
end Go.Proofs.YtgdcecibfoganacDoor
