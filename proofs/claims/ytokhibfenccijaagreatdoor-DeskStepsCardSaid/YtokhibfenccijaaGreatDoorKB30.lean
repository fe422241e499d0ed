/- EngQ, EngR, StateQ -/
import Derived.Test.YtokhibfenccijaaGreatDoorKB29
import Derived.Test.YtokhibfenccijaaGreatDoorKB26
import Derived.Deep.RegionHeld3
import Derived.Deep.DeepCutAuto
set_option maxRecDepth 100000
set_option maxHeartbeats 8000000
namespace Go.Proofs.YtokhibfenccijaaGreatDoor
open Go.RowKit
theorem do_store (base bs : Nat) (V : Key → Value) (s : St) (i n cp bp op : Nat) (a : Int) (w : World) (h : OwnVar base w bs V s) (hn : s.now = i) (hr : Runs s i) (hst : 0 < (frAt s i ((fibAt s i).frames.length - 1)).stack.length) (q : Nat) (haq : a = q) (hq : q < (frAt s i ((fibAt s i).frames.length - 1)).locals.length) :
    Calls Tryz.prog 132 #[eng bs (.slice (some ⟨bp, op, none⟩) n cp), .agg #[.int .i64 3, .int .i64 a]] w (EngPost base bs V s ((pullV s).turnTop i fun f => { f with locals := f.locals.set q (lastV s) }, 0) w) := by
  obtain ⟨hn1, hr1, _⟩ := pull_runs hn hr
  obtain ⟨g, hgg, ht, hc⟩ := top_cells' h hn hr (some ⟨bp, op, none⟩) n cp
  have hj : (fibAt s i).frames.length - 1 < (fibAt s i).frames.length := by have := hr.fr; omega
  obtain ⟨gl, cl, el, _⟩ := row_some (h.own.loc hr.lt hj) (by omega)
  have hlf : (fibAt (pullV s) i).frames.length = (fibAt s i).frames.length := by rw [pullV_setFr hn]; exact setFr_frames _ hr.lt i
  have hfl : (frAt (pullV s) i ((fibAt s i).frames.length - 1)).locals = (frAt s i ((fibAt s i).frames.length - 1)).locals := by rw [pullV_setFr hn, frAt_same _ hr.lt hj]
  obtain ⟨g0, cap0, eg0, _, k00, _⟩ := h.own.fr hr.lt hj
  have HGG : Hid (g = g0) := hide (hgg g0 cap0 eg0)
  have HTK : Hid (∀ u, OwnVar base u bs V s → Calls Tryz.prog 164 #[eng bs (.slice (some ⟨bp, op, none⟩) n cp)] u (fun e w' => e = .returned (.int .i64 (lastV s)) ∧ ∃ V1, Moved base bs V s u V1 (pullV s) w' ∧ w'.cell? ⟨g, ((fibAt s i).frames.length - 1) * 4 + 2, none⟩ = some (.slice (some ⟨gl, 0, none⟩) (frAt s i ((fibAt s i).frames.length - 1)).locals.length cl) ∧ (∃ y, w'.cell? ⟨gl, q, none⟩ = some y) ∧ w'.frozen? ⟨gl, q, none⟩ = false ∧ Moved base bs V1 (pullV s) w' V1 ((pullV s).turnTop i fun f => { f with locals := f.locals.set q (lastV s) }) (w'.setCell ⟨gl, q, none⟩ (.int .i64 (lastV s))))) := hide (fun u hu => (take_sharp base bs V s i n cp (some ⟨bp, op, none⟩) u hu hn hr hst).mono (by
    rintro e w' ⟨rfl, V1, hm, hV⟩
    have hlc := hm.own.own.loc hr1.lt (j := (fibAt s i).frames.length - 1) (by rw [hlf]; exact hj)
    rw [hfl] at hlc
    obtain ⟨gl', cl', el', _, hx, hz, _⟩ := row_some hlc (by omega)
    have hV1 := hV (.locals i ((fibAt s i).frames.length - 1)) (by simp)
    rw [hV1, el] at el'
    obtain ⟨⟨rfl⟩, -, rfl⟩ := (by simpa using el' : (gl = gl') ∧ True ∧ cl = cl')
    obtain ⟨g1, cap1, eg1, _, f10, f11, f12, _⟩ := hm.own.own.fr hr1.lt (j := (fibAt s i).frames.length - 1) (by rw [hlf]; exact hj)
    have hVf := hV (.frames i) (by simp)
    refine ⟨rfl, V1, hm, ?_, ⟨_, hx q _ (ints_at (getD_of_lt _ q 0 hq))⟩, hz q, ?_⟩
    · rw [hV1, el] at f12
      rw [hVf, eg0, hlf] at eg1
      obtain ⟨⟨rfl⟩, -, rfl⟩ := (by simpa using eg1 : (g0 = g1) ∧ True ∧ cap0 = cap1)
      rw [unhide HGG]
      exact f12
    · rw [turnTop_setFr, hlf]
      have := Moved.setLocal hm.own hr1.lt (j := (fibAt s i).frames.length - 1) (by rw [hlf]; exact hj) (q := q) (by rw [hV1, hfl]; exact el) (lastV s)
      exact this))
  have HC2 : Hid (∀ u, OwnVar base u bs V s → u.cell? ⟨g, ((fibAt s i).frames.length - 1) * 4 + 2, none⟩ = some (.slice (some ⟨gl, 0, none⟩) (frAt s i ((fibAt s i).frames.length - 1)).locals.length cl)) := hide (fun u hu => by rw [← el]; exact (hc u hu).2.2.1)
  have HTOP := hide ht
  have HO := hide h
  have hq0 : (0 : Int) ≤ (q : Int) := by omega
  have hq1 : (q : Int) < ((frAt s i ((fibAt s i).frames.length - 1)).locals.length : Int) := by omega
  generalize (pullV s).turnTop i (fun f => { f with locals := f.locals.set q (lastV s) }) = s2 at *
  generalize pullV s = s1 at *
  generalize lastV s = z at *
  generalize (frAt s i ((fibAt s i).frames.length - 1)).locals.length = lo at *
  generalize (fibAt s i).frames.length - 1 = j at *
  subst haq
  clear h hr ht hc hj el hn1 hr1 hlf hfl
  go_enter Tryz.func132, Tryz.ntmps132
  go_upto_region 9 with fail
  generalize hwb : (w.alloc (.cells #[.pointer (some ⟨bs, 0, none⟩), .slice (some ⟨bp, op, none⟩) n cp] 170)).alloc (.cells #[.int .i64 3, .int .i64 q] 72) = wb
  have hkb : Kept w wb := by rw [← hwb]; exact ((Kept.refl w).alloc _).alloc _
  have lB : wb.heap[w.heap.size]? = some (.cells #[.pointer (some ⟨bs, 0, none⟩), .slice (some ⟨bp, op, none⟩) n cp] 170) := by rw [← hwb]; exact lays_alloc (lays_new rfl) _
  have lX : wb.heap[w.heap.size + 1]? = some (.cells #[.int .i64 3, .int .i64 q] 72) := by rw [← hwb]; exact lays_new (by simp)
  have b0 : wb.cell? ⟨w.heap.size, 0, none⟩ = some (.pointer (some ⟨bs, 0, none⟩)) := cell_lays lB 0
  have b1 : wb.cell? ⟨w.heap.size, 1, none⟩ = some (.slice (some ⟨bp, op, none⟩) n cp) := cell_lays lB 1
  have b2 : wb.cell? ⟨w.heap.size + 1, 1, none⟩ = some (.int .i64 q) := cell_lays lX 1
  have HKB := hide hkb
  have HLB := hide lB
  have HLX := hide lX
  clear hwb hkb lB lX
  obtain ⟨hBn, hBo⟩ := (unhide HO).new (b := w.heap.size) (by omega)
  obtain ⟨hXn, hXo⟩ := (unhide HO).new (b := w.heap.size + 1) (by omega)
  have HD := hide ((Moved.of_kept (unhide HO) (unhide HKB)).drew)
  refine wp_regionP 10 [0, 5, 6, 7] (fun u => u.cell? ⟨w.heap.size, 0, none⟩ = some (.pointer (some ⟨bs, 0, none⟩)) ∧ u.cell? ⟨w.heap.size, 1, none⟩ = some (.slice (some ⟨bp, op, none⟩) n cp) ∧ u.cell? ⟨w.heap.size + 1, 1, none⟩ = some (.int .i64 q) ∧ u.cell? ⟨g, j * 4 + 2, none⟩ = some (.slice (some ⟨gl, 0, none⟩) lo cl)) (by kernel_rfl) ?_
  have hHeld := And.intro b0 (And.intro b1 (And.intro b2 ((unhide HC2) _ (unhide HD).own)))
  repeat
    refine takeP (v := ?_) hHeld (fun u hSu => ?_) ?_
    rotate_left
    · ((try dsimp only at hSu); go_simp) <;> with_reducible rfl
    try simp only [Act.put, List.setIfInBounds_toArray, List.set_cons_zero, List.set_cons_succ]
  refine takeP_end ?_
  refine takeT_one (i := 1) rfl (by kernel_rfl) (fun K hK => ?_)
  go_simp
  refine ((unhide HTOP) _ (unhide HD).own).mono ?_
  rintro e w3 ⟨rfl, hk3⟩
  have HM3 := hide ((unhide HD).kept hk3)
  have HL3 := hide (lays_kept hk3 (lays_drew (unhide HLB)))
  have HX3 := hide (lays_kept hk3 (lays_drew (unhide HLX)))
  have hHeld3 := And.intro (hk3.cell hHeld.1) (And.intro (hk3.cell hHeld.2.1) (And.intro (hk3.cell hHeld.2.2.1) (hk3.cell hHeld.2.2.2)))
  refine hK.out _ _ (fun _ => hHeld3) ?_
  clear hK K hHeld hk3 b0 b1 b2
  try simp only [Act.put, List.setIfInBounds_toArray, List.set_cons_zero, List.set_cons_succ]
  refine AnyP.out (plan := [2, 3, 4]) ?_
  repeat
    refine takeP (v := ?_) hHeld3 (fun u hSu => ?_) ?_
    rotate_left
    · ((try dsimp only at hSu); go_simp) <;> with_reducible rfl
    try simp only [Act.put, List.setIfInBounds_toArray, List.set_cons_zero, List.set_cons_succ]
  refine takeP_end ?_
  refine takeT_one (i := 8) rfl (by kernel_rfl) (fun K hK => ?_)
  go_simp
  refine ((unhide HTK) _ (unhide HM3).own).mono ?_
  rintro e w4 ⟨rfl, V4, hm, hc4, ⟨y, hy⟩, hz4, hset⟩
  have l4 := hm.lays (unhide HL3) hBn hBo
  have x4 := hm.lays (unhide HX3) hXn hXo
  have hS4 := And.intro (show w4.cell? ⟨w.heap.size, 0, none⟩ = some (.pointer (some ⟨bs, 0, none⟩)) from cell_lays l4 0) (And.intro (show w4.cell? ⟨w.heap.size, 1, none⟩ = some (.slice (some ⟨bp, op, none⟩) n cp) from cell_lays l4 1) (And.intro (show w4.cell? ⟨w.heap.size + 1, 1, none⟩ = some (.int .i64 q) from cell_lays x4 1) hc4))
  have HM4 := hide (((unhide HM3).trans hm).trans hset)
  refine hK.out _ _ (fun _ => hS4) ?_
  clear hK K hm hset l4 x4
  try simp only [Act.put, List.setIfInBounds_toArray, List.set_cons_zero, List.set_cons_succ]
  refine takeT_one (i := 9) rfl (by kernel_rfl) (fun K hK => ?_)
  go_simp
  refine hK.out _ _ (fun _ => hS4) ?_
  clear hK K
  try simp only [Act.put, List.setIfInBounds_toArray, List.set_cons_zero, List.set_cons_succ]
  refine takeT_one (i := 10) rfl (by kernel_rfl) (fun K hK => ?_)
  go_simp
  refine hK.out _ _ (fun h => absurd rfl h) ?_
  clear hK K
  refine takeT_done (by kernel_rfl) ?_ _
  go_wp2
  go_end0
  exact Or.inl ⟨rfl, rfl, V4, unhide HM4⟩
theorem next_caller {s : St} {i : Nat} (hr : Runs s i) (ai k : Nat) : (fibAt (nextS s i ai) k).caller = (fibAt s k).caller := setFr_caller _ hr.lt k
theorem pull2_line {s : St} {i : Nat} (hn : s.now = i) (hr : Runs s i) : ∀ k z acc, lineF (pullV (pullV s)).fibers k z acc = lineF s.fibers k z acc := fun k z acc => lineF_congr (fun y => by
  obtain ⟨hn1, hr1, _⟩ := pull_runs hn hr
  show (fibAt (pullV (pullV s)) y.toNat).caller = (fibAt s y.toNat).caller
  rw [pull_caller hn1 hr1, pull_caller hn hr]) k z acc
theorem dropped_runs {s : St} {i : Nat} (hr : Runs s i) (hq : (fibAt s i).frames.length ≠ 1) (hst : ∀ j, j < (fibAt s i).frames.length → (frAt s i j).stack.length ≤ 1000) : Runs (dropped s i) i := by
  have hd := dropped_fib hr.lt
  have hdl : (fibAt (dropped s i) i).frames.length = (fibAt s i).frames.length - 1 := by rw [hd]; simp
  have hpos := hr.fr
  have h6 := hr.frs
  refine ⟨by rw [dropped_len]; exact hr.lt, by rw [hdl]; omega, by rw [hdl]; omega, ?_⟩
  rw [hdl]
  have e1 : frAt (dropped s i) i ((fibAt s i).frames.length - 1 - 1) = frAt s i ((fibAt s i).frames.length - 1 - 1) := by
    unfold frAt
    rw [hd]
    simp only [List.getD, List.getElem?_dropLast]
    rw [if_pos (by omega)]
  rw [e1]
  exact hst _ (by omega)
theorem pull_stack_le {s : St} {i : Nat} (hn : s.now = i) (hr : Runs s i) (j : Nat) : (frAt (pullV s) i j).stack.length ≤ (frAt s i j).stack.length := by
  have hj : (fibAt s i).frames.length - 1 < (fibAt s i).frames.length := by have := hr.fr; omega
  rw [pullV_setFr hn]
  by_cases e : (fibAt s i).frames.length - 1 = j
  · subst e
    rw [frAt_same _ hr.lt hj]
    simp
  · rw [frAt_ne _ hr.lt (fun h => e h.2)]
    exact Nat.le_refl _
theorem do_any (base bs : Nat) (V : Key → Value) (p : List Fn) (s : St) (i ai bp op cp : Nat) (kd a : Int) (w : World) (hright : stErrS p s = 0) (hn : s.now = i) (hat : (frAt s i ((fibAt s i).frames.length - 1)).at_ = ai) (hop : opAt p (frAt s i ((fibAt s i).frames.length - 1)) = (kd, a)) (h : OwnVar base w bs V (nextS s i ai))
    (hp : ∀ f, f < p.length → ∀ u, Below base w u → u.cell? ⟨bp, op + f * 3, none⟩ = some (.int .i64 (p.getD f Fn.zero).args) ∧ u.cell? ⟨bp, op + f * 3 + 1, none⟩ = some (.int .i64 (p.getD f Fn.zero).locals)) :
    Calls Tryz.prog 132 #[eng bs (.slice (some ⟨bp, op, none⟩) p.length cp), .agg #[.int .i64 kd, .int .i64 a]] w (EngPost base bs V (nextS s i ai) (doneS p s) w) := by
  obtain ⟨⟨h0, hi, h5, h30⟩, hall, hfr, hcal, _, hloc, ⟨g1, g2, g3, g4, g5⟩, hneed⟩ := right_ok hright (by omega)
  obtain ⟨l, hl, hg⟩ := right_good hright
  have hin : ∀ {m : Nat}, m < s.fibers.length → ((m : Int) ∈ l ↔ m = 0 ∨ (fibAt s m).caller ≠ -1) := fun hm => hg.goes (by omega) hm
  rw [hn, Int.toNat_natCast] at hi hfr hcal
  have htop := top_at hn
  rw [htop] at g1 g2 g3 g4 g5 hneed
  have hj : (fibAt s i).frames.length - 1 < (fibAt s i).frames.length := by omega
  have hfrs : ∀ k, k < s.fibers.length → (fibAt s k).frames.length ≤ 6 := fun k hk => (hall _ (top_mem k hk)).1.1
  have hstk : ∀ k j, k < s.fibers.length → j < (fibAt s k).frames.length → (frAt s k j).locals.length ≤ 1000 ∧ (frAt s k j).stack.length ≤ 1000 := fun k j hk hj => (hall _ (top_mem k hk)).2 _ (fr_mem k j hj)
  have hruns : ∀ k, k < s.fibers.length → 0 < (fibAt s k).frames.length → Runs s k := fun k hk hf => ⟨hk, hf, by have := hfrs k hk; omega, (hstk k _ hk (by omega)).2⟩
  have hr : Runs s i := hruns i hi hfr
  obtain ⟨n1, n2, n3, n4, n5, n6, n7, n8⟩ := next_facts hn hr ai
  have nst : (frAt (nextS s i ai) i ((fibAt (nextS s i ai) i).frames.length - 1)).stack = (frAt s i ((fibAt s i).frames.length - 1)).stack := by rw [n5]; exact (next_fr hr ai _ _).1
  have nlo : (frAt (nextS s i ai) i ((fibAt (nextS s i ai) i).frames.length - 1)).locals = (frAt s i ((fibAt s i).frames.length - 1)).locals := by rw [n5]; exact (next_fr hr ai _ _).2.1
  obtain ⟨fi, hfn⟩ : ∃ fi : Nat, (frAt s i ((fibAt s i).frames.length - 1)).fn = fi := ⟨(frAt s i ((fibAt s i).frames.length - 1)).fn.toNat, by omega⟩
  have hx : (codeOf p fi).getD ai (0, 0) = (kd, a) := by rw [← hop]; unfold opAt; rw [hfn, hat, Int.toNat_natCast, Int.toNat_natCast]
  unfold needS at hneed
  rw [hop] at hneed
  simp only at hneed
  obtain ⟨hst, hlo, hca, hma⟩ := hneed
  rw [← nst] at hst
  rw [← nlo] at hlo
  rw [doneS_at hn hfn hat hx]
  have hruns1 : ∀ k, k ≠ i → Runs s k → Runs (pullV (nextS s i ai)) k := fun k hk hrk => (next_other ai k hk hrk).other (pull_len n1) (pull_other n1 hk)
  have hcc : (fibAt (pullV (nextS s i ai)) i).caller ≠ -1 → ∃ m : Nat, (fibAt (pullV (nextS s i ai)) i).caller = m ∧ m ≠ i ∧ Runs (pullV (nextS s i ai)) m := fun hne => by
    rw [pull_caller n1 n8, next_caller hr] at hne ⊢
    have hrg := hg.caller hi
    obtain ⟨h1, h2⟩ := hcal (by omega)
    refine ⟨(fibAt s i).caller.toNat, by omega, by omega, hruns1 _ (by omega) (hruns _ (by omega) h2)⟩
  have hci : -1 ≤ (fibAt (pullV (nextS s i ai)) i).caller := by rw [pull_caller n1 n8, next_caller hr]; exact (hg.caller hi).1
  obtain ⟨pn1, pr1, ps1⟩ := pull_runs n1 n8
  have hout : (nextS s i ai).out.length ≤ 30 := by rw [n3]; exact h30
  by_cases k0 : kd = 0
  · subst k0; rw [if_pos rfl]; exact do_push base bs V _ i _ cp bp op a w h n1 n8
  rw [if_neg k0]
  by_cases k1 : kd = 1
  · subst k1; rw [if_pos rfl]; exact do_pop base bs V _ i _ cp bp op a w h n1 n8 (Nat.lt_of_lt_of_le (by decide) hst)
  rw [if_neg k1]
  by_cases k2 : kd = 2
  · subst k2
    rw [if_pos rfl]
    obtain ⟨l1, l2⟩ := hlo (.inl rfl)
    have := do_load base bs V _ i p.length cp bp op a w h n1 n8 a.toNat (by omega) l2
    rw [top_at n1]
    exact this
  rw [if_neg k2]
  by_cases k3 : kd = 3
  · subst k3
    rw [if_pos rfl]
    obtain ⟨l1, l2⟩ := hlo (.inr rfl)
    exact do_store base bs V _ i _ cp bp op a w h n1 n8 (Nat.lt_of_lt_of_le (by decide) hst) a.toNat (by omega) l2
  rw [if_neg k3]
  by_cases k9 : kd = 9
  · subst k9; rw [if_pos rfl]; exact do_jump base bs V _ i _ cp bp op a w h n1 n8
  rw [if_neg k9]
  by_cases k10 : kd = 10
  · subst k10; rw [if_pos rfl]; exact do_zero base bs V _ i _ cp bp op a w h n1 n8 (Nat.lt_of_lt_of_le (by decide) hst)
  rw [if_neg k10]
  by_cases k11 : kd = 11
  · subst k11
    rw [if_pos rfl]
    obtain ⟨l1, l2, l3, l4, l5, l6⟩ := hca rfl
    obtain ⟨f2, rfl⟩ : ∃ f2 : Nat, a = f2 := ⟨a.toNat, by omega⟩
    rw [Int.toNat_natCast] at l2 l3 l4 l5 l6
    obtain ⟨a2, ha2⟩ : ∃ a2 : Nat, (p.getD f2 Fn.zero).args = a2 := ⟨(p.getD f2 Fn.zero).args.toNat, by omega⟩
    obtain ⟨lo2, hlo2⟩ : ∃ lo2 : Nat, (p.getD f2 Fn.zero).locals = lo2 := ⟨(p.getD f2 Fn.zero).locals.toNat, by omega⟩
    have hpf := hp f2 l2
    rw [ha2, hlo2] at hpf
    rw [calledS_eq n1 n8 ha2 hlo2]
    exact do_call base bs V _ i _ cp bp op _ w h n1 n8 f2 a2 lo2 rfl (by rw [n5]; exact hfrs i hi) l2 (by omega) (by omega) (by rw [nst]; omega) hpf
  rw [if_neg k11]
  by_cases k12 : kd = 12
  · subst k12
    rw [if_pos rfl, given_eq n1 pr1 hci]
    exact do_return base bs V _ i _ cp bp op a w h n1 n8 (Nat.lt_of_lt_of_le (by decide) hst) hout pr1 (fun _ => hcc) (fun hq => dropped_runs pr1 hq (fun j hj => Nat.le_trans (pull_stack_le n1 n8 j) (by rw [(next_fr hr ai _ _).1]; rw [pull_frames n1 n8, n5] at hj; exact (hstk i j hi hj).2)))
  rw [if_neg k12]
  by_cases k13 : kd = 13
  · subst k13
    rw [if_pos rfl]
    obtain ⟨l1, l2, l3, l4⟩ := hma rfl
    obtain ⟨f2, rfl⟩ : ∃ f2 : Nat, a = f2 := ⟨a.toNat, by omega⟩
    rw [Int.toNat_natCast] at l2 l3 l4
    obtain ⟨lo2, hlo2⟩ : ∃ lo2 : Nat, (p.getD f2 Fn.zero).locals = lo2 := ⟨(p.getD f2 Fn.zero).locals.toNat, by omega⟩
    have hpf := hp f2 l2
    rw [hlo2] at hpf
    rw [made_eq n1 n8.lt hlo2]
    exact do_make base bs V _ i _ cp bp op _ w h n1 n8 f2 lo2 rfl (by rw [n2]; exact h5) l2 (by omega) (fun u hu => (hpf u hu).2)
  rw [if_neg k13]
  by_cases k14 : kd = 14
  · subst k14
    rw [if_pos rfl]
    obtain ⟨pn2, pr2, _⟩ := pull_runs pn1 pr1
    have hlen2 : (pullV (pullV (nextS s i ai))).fibers.length = s.fibers.length := by rw [pull_len pn1, pull_len n1, n2]
    have hcal2 : ∀ m, (fibAt (pullV (pullV (nextS s i ai))) m).caller = (fibAt s m).caller := fun m => by rw [pull_caller pn1 pr1, pull_caller n1 n8, next_caller hr]
    have hoth2 : ∀ m, m ≠ i → fibAt (pullV (pullV (nextS s i ai))) m = fibAt s m := fun m hm => by rw [pull_other pn1 hm, pull_other n1 hm, n7 m hm]
    have hline : (lineF (pullV (pullV (nextS s i ai))).fibers ((pullV (pullV (nextS s i ai))).fibers.length + 1) (pullV (pullV (nextS s i ai))).now []).getD [] = l := by
      rw [pull2_line n1 n8, hlen2, pn2, ← n1]
      rw [lineF_congr (fs := (nextS s i ai).fibers) (fs' := s.fibers) (fun n => next_caller hr ai n.toNat), n1, ← hn, hg.line.1]
      rfl
    rw [resume_eq rfl rfl rfl pn2 (fun m hm => by rw [hline, hcal2]; exact hin (by omega))]
    refine do_resume base bs V _ i _ cp bp op a w h n1 n8 (Nat.le_trans (by decide) hst) (fun u V' hu => ?_)
    generalize hs2 : pullV (pullV (nextS s i ai)) = s2 at *
    generalize lastV (pullV (nextS s i ai)) = x at *
    by_cases hb : x < 0 ∨ (s2.fibers.length : Int) ≤ x
    · exact resume_bad base bs V' s2 i _ cp _ x _ u hu (by omega) hb
    · obtain ⟨m, rfl⟩ : ∃ m : Nat, x = m := ⟨x.toNat, by omega⟩
      have hm : m < s2.fibers.length := by omega
      by_cases hb2 : m = 0 ∨ (fibAt s2 m).caller ≠ -1 ∨ (fibAt s2 m).frames.length = 0
      · exact resume_busy base bs V' s2 i _ cp m _ _ u hu hm hb2
      · have hnin : (m : Int) ∉ l := fun hml => by
          rcases (hin (m := m) (by omega)).1 hml with e | e
          · exact hb2 (.inl e)
          · exact hb2 (.inr (.inl (by rw [hcal2]; exact e)))
        have hmi : m ≠ i := fun e => hnin (by rw [e, ← hn]; exact hg.now_mem (by omega))
        have hfm := hoth2 m hmi
        have hfrm : ∀ j, frAt s2 m j = frAt s m j := fun j => by unfold frAt; rw [hfm]
        have hpos : 0 < (fibAt s m).frames.length := by
          rcases Nat.eq_zero_or_pos (fibAt s m).frames.length with e | e
          · exact absurd (.inr (.inr (by rw [hfm]; exact e))) hb2
          · exact e
        refine resume_go base bs V' s2 i _ cp m _ _ u hu pn2 ((hruns m (by omega) hpos).other hlen2 hfm) hb2 (fun ha => ?_)
        rw [hfm, hfrm] at ha ⊢
        exact hloc m (by omega) (by rw [hl]; exact hnin) hpos ha
  rw [if_neg k14]
  by_cases k15 : kd = 15
  · subst k15
    rw [if_pos rfl, yield_eq n1 hci]
    exact do_yield base bs V _ i _ cp bp op a w h n1 n8 (Nat.lt_of_lt_of_le (by decide) hst) pr1.lt hcc
  rw [if_neg k15]
  by_cases k16 : kd = 16
  · subst k16
    rw [if_pos rfl]
    exact do_put base bs V _ i _ cp bp op a w h n1 n8 (Nat.lt_of_lt_of_le (by decide) hst) hout
  rw [if_neg k16]
  have h2 : 2 ≤ (frAt (nextS s i ai) i ((fibAt (nextS s i ai) i).frames.length - 1)).stack.length := by
    have : needN kd = 2 := by unfold needN; rw [if_neg (by omega), if_neg (by omega)]
    omega
  have hkd : kd = 4 ∨ kd = 5 ∨ kd = 6 ∨ kd = 7 ∨ kd = 8 := by
    obtain ⟨n', fs', t', c', kd', a', ta', lb', hrun⟩ := hg.runner (by omega)
    have hnn : n' = i := by have := hrun.op.now; omega
    have ht' : t' = frAt s i ((fibAt s i).frames.length - 1) := by rw [← htop, top_form hrun.op.tops hrun.op.now]
    have hop' := hrun.op.op
    rw [ht'] at hop'
    have : (kd', a') = (kd, a) := by rw [← hop', ← hop]; rfl
    have hk := hrun.kind
    have e : kd' = kd := congrArg Prod.fst this
    omega
  rcases hkd with rfl | rfl | rfl | rfl | rfl
  · exact do_two4 base bs V _ i _ cp bp op a w h n1 n8 h2
  · exact do_two5 base bs V _ i _ cp bp op a w h n1 n8 h2
  · exact do_two6 base bs V _ i _ cp bp op a w h n1 n8 h2
  · exact do_two7 base bs V _ i _ cp bp op a w h n1 n8 h2
  · exact do_two8 base bs V _ i _ cp bp op a w h n1 n8 h2
theorem isFresh_go (b o bf off cf n cap i ns cs cl nf : Nat) (ol os : Option Addr) (at_ ar now : Int) (vF vO vh : Value) (l : List Int) (w : World) (hi : i < n) (hnf : 0 < nf)
    (c0 : w.cell? ⟨b, o + i * 3, none⟩ = some (.int .i64 ar)) (k0 : w.cell? ⟨bf, off, none⟩ = some (.int .i64 i)) (k1 : w.cell? ⟨bf, off + 1, none⟩ = some (.int .i64 at_))
    (k2 : w.cell? ⟨bf, off + 2, none⟩ = some (.slice ol l.length cl)) (k3 : w.cell? ⟨bf, off + 3, none⟩ = some (.slice os ns cs)) (hl : IntsW w (.slice ol l.length cl) l) (r : Bool)
    (hr : (decide (nf = 1) && ((decide (at_ = 0) && (decide (ar = 1) && decide (ns = 0))) && zerosB l)) = r) :
    Calls Tryz.prog 160 #[.agg #[vF, .int .i64 now, vO, .slice (some ⟨b, o, none⟩) n cap, vh], .slice (some ⟨bf, off, none⟩) nf cf] w fun e w' => e = .returned (.bool r) ∧ Kept w w' := by
  have HR := hide hr
  have HL := hide hl
  clear hr hl
  have hi1 : (i : Int) < (n : Int) := by omega
  have hi0 : (0 : Int) ≤ (i : Int) := by omega
  have hf1 : (0 : Int) < (nf : Int) := by omega
  have lb := cell_lt c0
  have lf := cell_lt k0
  simp only at lb lf
  have C0 := hide c0
  have lb1 : b < w.heap.size + 1 := by omega
  clear c0
  go_enter Tryz.func160, Tryz.ntmps160
  go_wp2
  generalize hw0 : (w.alloc (.cells #[vF, .int .i64 now, vO, .slice (some ⟨b, o, none⟩) n cap, vh] 162)).alloc (.cells #[.int .i64 i, .int .i64 at_, .slice ol l.length cl, .slice os ns cs] 92) = w0 at *
  have hk0 : Kept w w0 := by rw [← hw0]; exact ((Kept.refl w).alloc _).alloc _
  have x3 : w0.cell? ⟨w.heap.size, 3, none⟩ = some (.slice (some ⟨b, o, none⟩) n cap) := by rw [← hw0]; simp
  have y0 : w0.cell? ⟨w.heap.size + 1, 0, none⟩ = some (.int .i64 i) := by rw [← hw0]; simp
  have y1 : w0.cell? ⟨w.heap.size + 1, 1, none⟩ = some (.int .i64 at_) := by rw [← hw0]; simp
  have y3 : w0.cell? ⟨w.heap.size + 1, 3, none⟩ = some (.slice os ns cs) := by rw [← hw0]; simp
  have d0 := hk0.cell (unhide C0)
  have HK0 := hide hk0
  clear hw0 hk0 k0 k1 k2 k3 lb lf lb1
  go_loopw [14] (fun s14 wr => ∃ k : Nat, k ≤ l.length ∧ s14 = .int .i64 k ∧ Hid (∀ i, i < k → l.getD i 0 = 0) ∧ Hid (w0 = wr)) (fun s14 _ => l.length - (intOf s14).toNat)
  case atStart => exact ⟨0, Nat.zero_le _, rfl, (fun i hi => by omega), rfl⟩
  case round =>
    obtain ⟨k, hkm, rfl, HA, HW⟩ := hrel
    have hw := unhide HW
    subst hw
    clear HW
    by_cases hlt : k < l.length
    · obtain ⟨oa, ca', e1, _, hcell⟩ := unhide HL
      obtain ⟨b1, o1, e2, c1⟩ := hcell k _ (getD_of_lt l k 0 hlt)
      obtain ⟨rfl, -, -⟩ := (by simpa using e1 : ol = oa ∧ l.length = l.length ∧ cl = ca')
      have d1 := (unhide HK0).cell c1
      subst e2
      clear c1 hcell e1
      have HZI := hide (getD_of_lt l k 0 hlt)
      generalize hz1 : l.getD k 0 = z at *
      have Z1 := hide hz1
      clear hz1
      by_cases hz : z = 0
      · subst hz
        go_wp2
        go_roundw
        case rel =>
          refine ⟨k + 1, by omega, by go_num, ?_, trivial⟩
          intro i hi
          by_cases e : i = k
          · subst e; exact unhide Z1
          · exact (unhide HA) i (by omega)
        case measure => simp [intOf]; omega
      · have hzb : (z != 0) = true := by rw [bne_iff_ne]; exact hz
        have HZ := hide hz
        clear hz
        go_wp2
        go_ret
        refine ⟨?_, unhide HK0⟩
        have hf : zerosB l = false := by
          unfold zerosB
          rw [Bool.eq_false_iff]
          intro h
          rw [List.all_eq_true] at h
          have := h z (List.mem_of_getElem? (unhide HZI))
          exact (unhide HZ) (by simpa using this)
        have hr := unhide HR
        rw [hf, Bool.and_false, Bool.and_false] at hr
        rw [← hr]; rfl
    · have hf : zerosB l = true := by
        unfold zerosB
        rw [List.all_eq_true]
        intro z hz
        obtain ⟨i, hi, rfl⟩ := List.getElem_of_mem hz
        have := (unhide HA) i (by omega)
        simpa [List.getD, hi] using this
      have hr := unhide HR
      rw [hf, Bool.and_true] at hr
      have HR2 := hide hr
      clear hr hf HR HA
      by_cases h1 : nf = 1
      · subst h1
        by_cases h2 : at_ = 0
        · subst h2
          by_cases h3 : ar = 1
          · subst h3
            by_cases h4 : ns = 0
            · subst h4
              go_wp2
              go_ret
              exact ⟨by rw [← unhide HR2]; rfl, unhide HK0⟩
            · have hb : ((ns : Int) == 0) = false := by rw [beq_eq_false_iff_ne]; omega
              have H4 := hide h4
              clear h4
              go_wp2
              go_ret
              exact ⟨by rw [← unhide HR2, decide_eq_false (unhide H4)]; rfl, unhide HK0⟩
          · have hb : (ar == 1) = false := by rw [beq_eq_false_iff_ne]; exact h3
            have H3 := hide h3
            clear h3
            go_wp2
            go_ret
            exact ⟨by rw [← unhide HR2, decide_eq_false (unhide H3)]; rfl, unhide HK0⟩
        · have hb : (at_ == 0) = false := by rw [beq_eq_false_iff_ne]; exact h2
          have H2 := hide h2
          clear h2
          go_wp2
          go_ret
          exact ⟨by rw [← unhide HR2, decide_eq_false (unhide H2)]; rfl, unhide HK0⟩
      · have hb : ((nf : Int) == 1) = false := by rw [beq_eq_false_iff_ne]; omega
        have H1 := hide h1
        clear h1
        go_wp2
        go_ret
        exact ⟨by rw [← unhide HR2, decide_eq_false (unhide H1)]; rfl, unhide HK0⟩
theorem isFresh_any (p : List Fn) (s : St) (v vf : Value) (b : Fb) (w : World) (hj : JudgeV w v p s) (hf : FramesAt w vf b.frames) (hn : 0 < b.frames.length) (hin : ∀ x, x ∈ b.frames → 0 ≤ x.fn ∧ x.fn < p.length) :
    Calls Tryz.prog 160 #[v, vf] w fun e w' => e = .returned (.bool (freshB p b)) ∧ Kept w w' := by
  obtain ⟨vF, vO, vp, vh, rfl, _, _, h3, _⟩ := hj
  obtain ⟨of, cf, rfl, hfl, hcell⟩ := id hf
  obtain ⟨bf, off, vl, vs, rfl, k0, k1, k2, k3, k4, k5⟩ := hcell 0 _ (getD_of_lt b.frames 0 Fr.zero hn)
  have hm : b.frames.getD 0 Fr.zero ∈ b.frames := List.mem_of_getElem? (getD_of_lt b.frames 0 Fr.zero hn)
  have hxm := hin _ hm
  generalize hX : b.frames.getD 0 Fr.zero = x at *
  obtain ⟨oa, cap, rfl, hpl, hpc⟩ := id h3
  obtain ⟨i, hi⟩ : ∃ i : Nat, x.fn = i := ⟨x.fn.toNat, by omega⟩
  obtain ⟨b', o, cv, rfl, c0, _, _, _⟩ := hpc i _ (getD_of_lt p i Fn.zero (by omega))
  obtain ⟨ol, cl, rfl, _, _⟩ := id k4
  obtain ⟨os, cs, rfl, _, _⟩ := id k5
  rw [hi] at k0
  refine isFresh_go b' o bf off cf _ cap i _ cs cl _ ol os x.at_ _ _ vF vO vh x.locals w (by omega) hn c0 (by simpa using k0) (by simpa using k1) (by simpa using k2) (by simpa using k3) k4 _ ?_
  unfold freshB
  split
  · rename_i x' e
    rw [e] at hX
    simp at hX
    subst hX
    simp [e, hi]
  · rename_i hno
    have : ¬ b.frames.length = 1 := by
      intro h
      obtain ⟨y, hy⟩ := List.length_eq_one_iff.1 h
      exact hno y hy
    simp [this]
end Go.Proofs.YtokhibfenccijaaGreatDoor
