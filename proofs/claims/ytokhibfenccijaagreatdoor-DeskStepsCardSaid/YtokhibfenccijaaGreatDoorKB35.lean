/- EngS, OwnK -/
import Derived.Test.YtokhibfenccijaaGreatDoorKB30
import Derived.Test.YtokhibfenccijaaGreatDoorKB34
import Derived.Test.YtokhibfenccijaaGreatDoorKB21
set_option maxRecDepth 100000
set_option maxHeartbeats 8000000
namespace Go.Proofs.YtokhibfenccijaaGreatDoor
open Go.RowKit
theorem own_none (N : Nat) (w : World) : Own N w (fun _ => .slice none 0 0) St.zero := by
  refine ⟨fun k hk => ?_, fun k k' g hk hk' e e' => by cases e⟩
  cases k using Key.by with
  | fibers => exact ⟨[], World.ownsRow_nil _ _ _ _, fun i hi => by simp [St.zero] at hi⟩
  | out => exact World.ownsRow_nil _ _ _ _
  | frames t => simp [live, St.zero] at hk
  | locals t q => simp [live, St.zero] at hk
  | stack t q => simp [live, St.zero] at hk
theorem stepCatch_panicking (g : Nat) (x e : Int) (older : List PanicEntry) (w : World) (hc : w.heap[g]? = some (.cells #[.int .i64 x] 22)) :
    CallsD Tryz.prog 131 #[.pointer (some ⟨g, 0, none⟩)] (.panicking ({ v := .iface 22 (.int .i64 e), recovered := false } :: older)) w fun en u' w' =>
      en = .returned (.tuple #[]) ∧ u' = .panicking ({ v := .iface 22 (.int .i64 e), recovered := true } :: older) ∧ w' = w.setCell ⟨g, 0, none⟩ (.int .i64 e) := by
  have c0 : w.cell? ⟨g, 0, none⟩ = some (.int .i64 x) := cell_at hc rfl
  have z0 := frozen_lays hc 0
  refine callsD_of_wpS Tryz.func131 rfl fun c₀ cs hu => ?_
  apply wpS_seq
  apply wpS_region
  simp [wpOpsS, go_sem, recoverD, hu, Tryz.ntmps131, Exit.thenS]
  have ht : (#[Value.pointer (some ⟨g, 0, none⟩)] ++ ((Array.replicate 6 undef).setIfInBounds 1 (Value.iface 22 (.int .i64 e))).setIfInBounds 0 (Value.iface 22 (.int .i64 e))) = #[Value.pointer (some ⟨g, 0, none⟩), Value.iface 22 (.int .i64 e), Value.iface 22 (.int .i64 e), undef, undef, undef, undef] := rfl
  rw [ht]
  apply wpS_seq
  apply wpS_region
  simp [wpOpsS, go_sem, Exit.thenS]
  refine wpS_cond (t := true) (by simp [Act.eval]) ?_
  simp only [if_true]
  apply wpS_region
  simp [wpOpsS, go_sem, asErr, c0, z0, bodyPostS, results, Tryz.results131]
theorem stepCatch_idle (g : Nat) (w : World) :
    CallsD Tryz.prog 131 #[.pointer (some ⟨g, 0, none⟩)] .returning w fun e u' w' => e = .returned (.tuple #[]) ∧ u' = .returning ∧ w' = w := by
  refine callsD_of_wpS Tryz.func131 rfl fun c₀ cs hu => ?_
  apply wpS_seq
  apply wpS_region
  simp [wpOpsS, go_sem, recoverD, hu, Tryz.ntmps131, Exit.thenS]
  have ht : (#[Value.pointer (some ⟨g, 0, none⟩)] ++ ((Array.replicate 6 undef).setIfInBounds 1 Value.nilIface).setIfInBounds 0 Value.nilIface) = #[Value.pointer (some ⟨g, 0, none⟩), Value.nilIface, Value.nilIface, undef, undef, undef, undef] := rfl
  rw [ht]
  apply wpS_seq
  apply wpS_region
  simp [wpOpsS, go_sem, Exit.thenS]
  refine wpS_cond (t := false) (by simp [Act.eval]) ?_
  simp only [Bool.false_eq_true, if_false]
  refine wpS_of_wp (wp_skip ?_)
  cases c₀
  simp_all [bodyPostS, results, Tryz.results131]
theorem leaves_congr {P : Program} {fn : Func} {t t' : Array Value} {R : Ending → World → Prop} (h : results fn t = results fn t') : ∀ (ds : List Deferred) (u : FrameMode) (w : World), Leaves P fn t R ds u w → Leaves P fn t' R ds u w
  | [], .returning, w, ⟨v, h1, h2⟩ => ⟨v, by rw [← h]; exact h1, h2⟩
  | [], .panicking _, _, h1 => h1
  | [], .run, _, h1 => h1
  | d :: ds, u, w, ⟨h0, fv, cap, f, args, h1, h2, h3⟩ => ⟨h0, fv, cap, f, args, h1, h2, h3.mono (by
      intro e u' w' h4
      cases e with
      | returned v => exact leaves_congr h ds _ _ h4
      | panicked c => exact leaves_congr h ds _ _ h4
      | outgrown => exact h4)⟩
theorem stepped_put {K : Act → World → Prop} {R : Ending → World → Prop} {d : Nat} (hd : d ≠ 4 ∧ d ≠ 5) (v : Value) : ∀ (c : List PanicEntry) (a : Act) (w : World), Exit.then K (bodyPostD Tryz.prog Tryz.f92 R) (.panic c) (a.put (some d) v) w → Exit.then K (bodyPostD Tryz.prog Tryz.f92 R) (.panic c) a w := by
  intro c a w h
  simp only [Exit.then, bodyPostD] at h ⊢
  refine leaves_congr ?_ _ _ _ h
  unfold Act.put results
  simp only [Tryz.results92]
  simp [Array.getElem?_setIfInBounds, hd.1, hd.2]
def StepPost (base : Nat) (r : St × Int) (w : World) (e : Ending) (w' : World) : Prop :=
  ∃ V, e = .returned (.tuple #[.agg #[V .fibers, .int .i64 r.1.now, V .out], .int .i64 r.2]) ∧ Own base w' V r.1 ∧ Below base w w'
theorem eStepped_any (base : Nat) (V : Key → Value) (p : List Fn) (s : St) (vp : Value) (w W0 : World) (hp : ProgAt W0 vp p) (hk : Kept W0 w) (hb : W0.heap.size ≤ base) (hbw : base ≤ w.heap.size) (ho : Own base w V s) (hright : stErrS p s = 0) (hnow : 0 ≤ s.now) :
    Calls Tryz.prog 92 #[vp, .agg #[V .fibers, .int .i64 s.now, V .out]] w (StepPost base (doneS p s) w) := by
  obtain ⟨⟨h0, hi, h5, h30⟩, hall, hfr, _, _, _, ⟨g1, g2, g3, g4, g5⟩, _⟩ := right_ok hright hnow
  obtain ⟨i, hn⟩ : ∃ i : Nat, s.now = i := ⟨s.now.toNat, by omega⟩
  rw [hn, Int.toNat_natCast] at hi hfr
  have htop := top_at hn
  rw [htop] at g1 g2 g3 g4 g5
  have hfi := (hall _ (top_mem i hi))
  have hr : Runs s i := ⟨hi, hfr, by omega, (hfi.2 _ (fr_mem i _ (by omega))).2⟩
  obtain ⟨fi, hfn⟩ : ∃ fi : Nat, (frAt s i ((fibAt s i).frames.length - 1)).fn = fi := ⟨(frAt s i ((fibAt s i).frames.length - 1)).fn.toNat, by omega⟩
  obtain ⟨ai, hat⟩ : ∃ ai : Nat, (frAt s i ((fibAt s i).frames.length - 1)).at_ = ai := ⟨(frAt s i ((fibAt s i).frames.length - 1)).at_.toNat, by omega⟩
  rw [hfn, Int.toNat_natCast] at g2 g4 g5
  rw [hat, Int.toNat_natCast] at g4
  obtain ⟨oa, cp, rfl, hpl, hcell⟩ := hp
  obtain ⟨bp, op, cv, rfl, c0, c1, c2, hcode⟩ := hcell fi _ (getD_of_lt p fi Fn.zero g2)
  have hcd : (p.getD fi Fn.zero).code = codeOf p fi := rfl
  rw [hcd] at hcode
  obtain ⟨oc, cc, rfl, _, hci⟩ := hcode
  obtain ⟨cb, co, rfl, x1, x2⟩ := hci ai _ (getD_of_lt (codeOf p fi) ai (0, 0) g4)
  have hx : (codeOf p fi).getD ai (0, 0) = opAt p (frAt s i ((fibAt s i).frames.length - 1)) := by unfold opAt; rw [hfn, hat, Int.toNat_natCast, Int.toNat_natCast]
  rw [hx] at x1 x2
  generalize hxx : opAt p (frAt s i ((fibAt s i).frames.length - 1)) = x at x1 x2 hx
  obtain ⟨kd, a⟩ := x
  simp only at x1 x2
  have keep : ∀ {q : Addr} {v : Value}, W0.cell? q = some v → ∀ u, Below base w u → u.cell? q = some v := fun hq u hu => (Below.cell hu (Nat.lt_of_lt_of_le (cell_lt hq) hb)).trans (hk.cell hq)
  have HNX : Hid (∀ u bs, Below base w u → OwnVar base u bs V s → Calls Tryz.prog 133 #[eng bs (.slice (some ⟨bp, op, none⟩) p.length cp)] u (NextPost base bs V s (nextS s i ai) kd a u)) := hide (fun u bs hu hov =>
    engNext_any base bs V s i cp bp op p.length fi ai cb co (codeOf p fi).length cc kd a u hov ⟨hn, hr, hfn, hat, g2, g4, g5, fun u' hu' => have hb' := Below.trans hu hu'; ⟨keep c2 u' hb', keep x1 u' hb', keep x2 u' hb'⟩⟩)
  have HDO : Hid (∀ u bs, Below base w u → OwnVar base u bs V (nextS s i ai) → Calls Tryz.prog 132 #[eng bs (.slice (some ⟨bp, op, none⟩) p.length cp), .agg #[.int .i64 kd, .int .i64 a]] u (EngPost base bs V (nextS s i ai) (doneS p s) u)) := hide (fun u bs hu hov =>
    do_any base bs V p s i ai bp op cp kd a u hright hn hat hxx hov (fun f hf u' hu' => by
      obtain ⟨b', o', cv', e', d0, d1, _, _⟩ := hcell f _ (getD_of_lt p f Fn.zero hf)
      obtain ⟨rfl, rfl⟩ := (by simpa using e' : bp = b' ∧ op = o')
      exact ⟨keep d0 u' (Below.trans hu hu'), keep d1 u' (Below.trans hu hu')⟩))
  have hzr : (doneS p s).2 ≠ 0 → (doneS p s).1 = St.zero := done_err
  have HZ := hide hzr
  obtain ⟨xs, hrF, _⟩ := ho.piece .fibers trivial
  obtain ⟨oF, cF, eF, _⟩ := row_slice hrF
  have hrO := ho.piece .out trivial
  obtain ⟨oO, cO, eO, _⟩ := row_slice hrO
  have HOW := hide ho
  have HEF := hide eF
  have HEO := hide eO
  rw [eF, eO, hn]
  generalize hR : doneS p s = R at *
  generalize p.length = n at *
  generalize s.fibers.length = N at *
  generalize s.out.length = M at *
  have HN := hide hn
  clear hcell keep hzr hrF hrO ho hk hxx c0 c1 c2 x1 x2 hci hr hfi hall hright g1 g2 g3 g4 g5 hfn hat hx hfr htop hcd hR hn eF eO h30 h5 hi
  have hmf : ∀ (fn : Go.Fn) (first cap : Array Value) (w : World), (Instr.makeFunc fn first cap).run Tryz.prog w = .ok (.func fn first cap) w := fun _ _ _ _ => rfl
  go_enter_defers Tryz.func92, Tryz.ntmps92
  go_upto_region 3 with fail
  generalize hwg : ((((w.alloc (.cells #[.slice oF N cF, .int .i64 i, .slice oO M cO] 44)).alloc (.cells #[.slice none 0 0, .int .i64 0, .slice none 0 0] 44)).alloc (.cells #[.int .i64 0] 22)).alloc (.cells #[.pointer (some ⟨w.heap.size, 0, none⟩), .slice (some ⟨bp, op, none⟩) n cp] 170)) = wg
  have hkg : Kept w wg := by rw [← hwg]; exact ((((Kept.refl w).alloc _).alloc _).alloc _).alloc _
  have lS : wg.heap[w.heap.size]? = some (.cells #[.slice oF N cF, .int .i64 i, .slice oO M cO] 44) := by rw [← hwg]; exact lays_alloc (lays_alloc (lays_alloc (lays_new rfl) _) _) _
  have lA : wg.heap[w.heap.size + 1]? = some (.cells #[.slice none 0 0, .int .i64 0, .slice none 0 0] 44) := by rw [← hwg]; exact lays_alloc (lays_alloc (lays_new (by simp)) _) _
  have lE : wg.heap[w.heap.size + 1 + 1]? = some (.cells #[.int .i64 0] 22) := by rw [← hwg]; exact lays_alloc (lays_new (by simp)) _
  have lG : wg.heap[w.heap.size + 1 + 1 + 1]? = some (.cells #[.pointer (some ⟨w.heap.size, 0, none⟩), .slice (some ⟨bp, op, none⟩) n cp] 170) := by rw [← hwg]; exact lays_new (by simp)
  have hov : OwnVar base wg w.heap.size V s := ⟨by rw [unhide HEF, unhide HEO, unhide HN]; exact lS, (unhide HOW).same (fun k g hlk hg => hkg.block g (((unhide HOW).piece k hlk).block g hg).2), (unhide HOW).new_off (.inl (Nat.le_refl _)), hbw⟩
  have hofA : Own.off V s (w.heap.size + 1) := (unhide HOW).new_off (.inl (by omega))
  have hofE : Own.off V s (w.heap.size + 1 + 1) := (unhide HOW).new_off (.inl (by omega))
  have hbg : Below base w wg := Below.mono hkg hbw
  have e0 : wg.cell? ⟨w.heap.size + 1 + 1 + 1, 0, none⟩ = some (.pointer (some ⟨w.heap.size, 0, none⟩)) := cell_lays lG 0
  have e1 : wg.cell? ⟨w.heap.size + 1 + 1 + 1, 1, none⟩ = some (.slice (some ⟨bp, op, none⟩) n cp) := cell_lays lG 1
  have HOV := hide hov
  have HBG := hide hbg
  have HLA := hide lA
  have HLE := hide lE
  have HKG := hide hkg
  have HLG := hide lG
  have hofG : Own.off V s (w.heap.size + 1 + 1 + 1) := (unhide HOW).new_off (.inl (by omega))
  clear hwg hov hbg lS lA lE lG hkg
  refine wp_regionP 3 [0, 1] (fun u => u.cell? ⟨w.heap.size + 1 + 1 + 1, 0, none⟩ = some (.pointer (some ⟨w.heap.size, 0, none⟩)) ∧ u.cell? ⟨w.heap.size + 1 + 1 + 1, 1, none⟩ = some (.slice (some ⟨bp, op, none⟩) n cp)) (by kernel_rfl) ?_
  have hHeld := And.intro e0 e1
  refine takeP (v := ?_) (hQ := stepped_put (d := 10) (by decide) _) hHeld (fun u hSu => ?_) ?_
  rotate_left
  · ((try dsimp only at hSu); go_simp) <;> with_reducible rfl
  try simp only [Act.put, List.setIfInBounds_toArray, List.set_cons_zero, List.set_cons_succ]
  refine takeP (v := ?_) (hQ := stepped_put (d := 11) (by decide) _) hHeld (fun u hSu => ?_) ?_
  rotate_left
  · ((try dsimp only at hSu); go_simp) <;> with_reducible rfl
  try simp only [Act.put, List.setIfInBounds_toArray, List.set_cons_zero, List.set_cons_succ]
  refine takeP_end ?_
  refine takeT_one (i := 2) rfl (by kernel_rfl) (fun K hK => ?_)
  go_simp
  refine ((unhide HNX) wg.drew w.heap.size ((unhide HBG).drew) ((unhide HOV).kept (Kept.refl _).drew)).mono ?_
  rintro e w2 ⟨rfl, hm2⟩
  have l2 := hm2.lays (lays_drew (unhide HLG)) (by omega) hofG
  refine hK.out _ _ (fun _ => ⟨cell_lays l2 0, cell_lays l2 1⟩) ?_
  clear hK K
  try simp only [Act.put, List.setIfInBounds_toArray, List.set_cons_zero, List.set_cons_succ]
  refine takeT_one (i := 3) rfl (by kernel_rfl) (fun K hK => ?_)
  go_simp
  have hm02 := (Moved.of_kept (unhide HOV) (Kept.refl _).drew).trans hm2
  have hb2 : Below base w w2 := Below.trans (unhide HBG) (hm02.below (unhide HOV))
  refine ((unhide HDO) w2 w.heap.size hb2 hm02.own).mono ?_
  rintro e w3 (⟨hz, rfl, V3, hm3⟩ | ⟨hz, rfl, hp3⟩)
  · have hm03 := hm02.trans hm3
    have hb3 : Below base w w3 := Below.trans (unhide HBG) (hm03.below (unhide HOV))
    have lA3 := hm03.lays (unhide HLA) (by omega) hofA
    have lE3 := hm03.lays (unhide HLE) (by omega) hofE
    have hoA := hm03.off _ (Array.getElem?_eq_some_iff.1 (unhide HLA)).1 hofA
    have hoE := hm03.off _ (Array.getElem?_eq_some_iff.1 (unhide HLE)).1 hofE
    obtain ⟨s0, s1, s2, _⟩ := hm03.own.cells
    have a0 : w3.cell? ⟨w.heap.size + 1, 0, none⟩ = some (.slice none 0 0) := cell_lays lA3 0
    have a1 : w3.cell? ⟨w.heap.size + 1, 1, none⟩ = some (.int .i64 0) := cell_lays lA3 1
    have a2 : w3.cell? ⟨w.heap.size + 1, 2, none⟩ = some (.slice none 0 0) := cell_lays lA3 2
    have f0 := frozen_lays lA3 0
    have f1 := frozen_lays lA3 1
    have f2 := frozen_lays lA3 2
    have ee : w3.cell? ⟨w.heap.size + 1 + 1, 0, none⟩ = some (.int .i64 0) := cell_lays lE3 0
    have ef := frozen_lays lE3 0
    obtain ⟨xs3, hr3, _⟩ := hm03.own.own.piece .fibers trivial
    obtain ⟨o3, c3, e3, _⟩ := row_slice hr3
    have hr4 := hm03.own.own.piece .out trivial
    obtain ⟨o4, c4, e4, _⟩ := row_slice hr4
    rw [e3] at s0
    rw [e4] at s2
    have HOWN := hide hm03.own.own
    have HB3 := hide hb3
    have HLA3 := hide lA3
    have HLE3 := hide lE3
    have HE3 := hide e3
    have HE4 := hide e4
    have HZ0 := hide hz
    have HOA := hide hoA
    have HOE := hide hoE
    generalize R.1.fibers.length = N3 at *
    generalize R.1.out.length = M3 at *
    generalize hnn : R.1.now = nn at *
    have HNN := hide hnn
    refine hK.out _ _ (fun h => absurd rfl h) ?_
    clear hK K
    refine takeT_done (by kernel_rfl) ?_ _
    clear hm02 hm2 hm3 hm03 hb2 hb3 hr3 hr4 e3 e4 hz hnn lA3 lE3 hoA hoE hHeld l2 e0 e1
    go_wp2
    refine leaves_cons (f := 131) (args := #[.pointer (some ⟨w.heap.size + 1 + 1, 0, none⟩)]) (by simp) (by simp [go_sem]) ?_
    refine (stepCatch_idle _ _).mono ?_
    rintro e u' w'' ⟨rfl, rfl, rfl⟩
    generalize hw5 : (((w3.setCell ⟨w.heap.size + 1, 0, none⟩ (.slice o3 N3 c3)).setCell ⟨w.heap.size + 1, 1, none⟩ (.int .i64 nn)).setCell ⟨w.heap.size + 1, 2, none⟩ (.slice o4 M3 c4)) = w5 
    have lA5 : w5.heap[w.heap.size + 1]? = some (.cells #[.slice o3 N3 c3, .int .i64 nn, .slice o4 M3 c4] 44) := by
      rw [← hw5]; exact lays_set (lays_set (lays_set (unhide HLA3) 0 _) 1 _) 2 _
    have lE5 : w5.heap[w.heap.size + 1 + 1]? = some (.cells #[.int .i64 0] 22) := by
      rw [← hw5, Below.heap_setCell _ _ _ _ (by simp), Below.heap_setCell _ _ _ _ (by simp), Below.heap_setCell _ _ _ _ (by simp)]; exact unhide HLE3
    have ho5 : Own base w5 V3 R.1 := by rw [← hw5]; exact (((unhide HOWN).setOff (a := ⟨w.heap.size + 1, 0, none⟩) (unhide HOA) _).setOff (a := ⟨w.heap.size + 1, 1, none⟩) (unhide HOA) _).setOff (a := ⟨w.heap.size + 1, 2, none⟩) (unhide HOA) _
    have hb5 : Below base w w5 := by rw [← hw5]; exact (((unhide HB3).setCell (p := ⟨w.heap.size + 1, 0, none⟩) (Nat.le_succ_of_le hbw) _).setCell (p := ⟨w.heap.size + 1, 1, none⟩) (Nat.le_succ_of_le hbw) _).setCell (p := ⟨w.heap.size + 1, 2, none⟩) (Nat.le_succ_of_le hbw) _
    have ho6 := ho5.setOff (a := ⟨w.heap.size + 1 + 1, 0, none⟩) (unhide HOE) (.int .i64 0)
    have hb6 := hb5.setCell (p := ⟨w.heap.size + 1 + 1, 0, none⟩) (Nat.le_succ_of_le (Nat.le_succ_of_le hbw)) (.int .i64 0)
    have k0 : (w5.setCell ⟨w.heap.size + 1 + 1, 0, none⟩ (.int .i64 0)).cell? ⟨w.heap.size + 1, 0, none⟩ = some (.slice o3 N3 c3) := cell_set_ne (cell_lays lA5 0) (by omega) _
    have k1 : (w5.setCell ⟨w.heap.size + 1 + 1, 0, none⟩ (.int .i64 0)).cell? ⟨w.heap.size + 1, 1, none⟩ = some (.int .i64 nn) := cell_set_ne (cell_lays lA5 1) (by omega) _
    have k2 : (w5.setCell ⟨w.heap.size + 1 + 1, 0, none⟩ (.int .i64 0)).cell? ⟨w.heap.size + 1, 2, none⟩ = some (.slice o4 M3 c4) := cell_set_ne (cell_lays lA5 2) (by omega) _
    have kE : (w5.setCell ⟨w.heap.size + 1 + 1, 0, none⟩ (.int .i64 0)).cell? ⟨w.heap.size + 1 + 1, 0, none⟩ = some (.int .i64 0) := cell_lays (lays_set lE5 0 _) 0
    generalize w5.setCell ⟨w.heap.size + 1 + 1, 0, none⟩ (.int .i64 0) = w6 at *
    dsimp only [settle]
    refine ⟨.tuple #[.agg #[.slice o3 N3 c3, .int .i64 nn, .slice o4 M3 c4], .int .i64 0], ?_, V3, ?_, ho6, hb6⟩
    · simp [results, Tryz.results92, go_sem, k0, k1, k2, kE]
    · rw [unhide HE3, unhide HE4, unhide HNN, unhide HZ0]
  · dsimp only [left]
    have hpp := hm02.past hp3
    have lA3 := hpp.lays (unhide HLA) (by omega) hofA
    have lE3 := hpp.lays (unhide HLE) (by omega) hofE
    have hb3 : Below base w w3 := Below.trans (unhide HBG) (hpp.below (unhide HOV))
    have hR1 := unhide HZ hz
    refine leaves_cons (f := 131) (args := #[.pointer (some ⟨w.heap.size + 1 + 1, 0, none⟩)]) (by simp) (by simp [go_sem]) ?_
    refine (stepCatch_panicking (w.heap.size + 1 + 1) 0 R.2 [] _ lE3).mono ?_
    rintro e u' w'' ⟨rfl, rfl, rfl⟩
    have hb6 := hb3.setCell (p := ⟨w.heap.size + 1 + 1, 0, none⟩) (Nat.le_succ_of_le (Nat.le_succ_of_le hbw)) (.int .i64 R.2)
    have k0 : (w3.setCell ⟨w.heap.size + 1 + 1, 0, none⟩ (.int .i64 R.2)).cell? ⟨w.heap.size + 1, 0, none⟩ = some (.slice none 0 0) := cell_set_ne (cell_lays lA3 0) (by omega) _
    have k1 : (w3.setCell ⟨w.heap.size + 1 + 1, 0, none⟩ (.int .i64 R.2)).cell? ⟨w.heap.size + 1, 1, none⟩ = some (.int .i64 0) := cell_set_ne (cell_lays lA3 1) (by omega) _
    have k2 : (w3.setCell ⟨w.heap.size + 1 + 1, 0, none⟩ (.int .i64 R.2)).cell? ⟨w.heap.size + 1, 2, none⟩ = some (.slice none 0 0) := cell_set_ne (cell_lays lA3 2) (by omega) _
    have kE : (w3.setCell ⟨w.heap.size + 1 + 1, 0, none⟩ (.int .i64 R.2)).cell? ⟨w.heap.size + 1 + 1, 0, none⟩ = some (.int .i64 R.2) := cell_lays (lays_set lE3 0 _) 0
    generalize w3.setCell ⟨w.heap.size + 1 + 1, 0, none⟩ (.int .i64 R.2) = w6 at *
    dsimp only [settle]
    refine ⟨.tuple #[.agg #[.slice none 0 0, .int .i64 0, .slice none 0 0], .int .i64 R.2], ?_, fun _ => .slice none 0 0, ?_, ?_, hb6⟩
    · simp [results, Tryz.results92, go_sem, k0, k1, k2, kE]
    · rw [hR1]; rfl
    · rw [hR1]; exact own_none _ _
end Go.Proofs.YtokhibfenccijaaGreatDoor
namespace Go.Proofs.YtokhibfenccijaaGreatDoor
open Go.RowKit
structure OwnOn (K : Key → Prop) (base : Nat) (w : World) (V : Key → Value) (s : St) : Prop where
  piece : ∀ k, K k → Piece base w V s k
  apart : ∀ k k' g, K k → K k' → (V k).ownBlock = some g → (V k').ownBlock = some g → k = k'
theorem row_base {w : World} {base base' : Nat} {e : TypeId} {size : Nat} {v : Value} {n : Nat} {xs : List Value} (h : w.ownsRow base' e size v n xs) (hb : base ≤ base') : w.ownsRow base e size v n xs := by
  refine ⟨h.1, ?_⟩
  rcases h.2 with hn | ⟨g, cap, cur, rfl, hg, rest⟩
  · exact .inl hn
  · exact .inr ⟨g, cap, cur, rfl, Nat.le_trans hb hg, rest⟩
theorem Piece.low {base base' : Nat} {w : World} {V : Key → Value} {s : St} {k : Key} (h : Piece base' w V s k) (hb : base ≤ base') : Piece base w V s k := by
  cases k using Key.by with
  | fibers => obtain ⟨xs, h1, h2⟩ := h; exact ⟨xs, row_base h1 hb, h2⟩
  | out => exact row_base h hb
  | frames i => obtain ⟨xs, h1, h2⟩ := h; exact ⟨xs, row_base h1 hb, h2⟩
  | locals i j => exact row_base h hb
  | stack i j => exact row_base h hb
def kidOf : Key → Key → Prop
  | none, some (some (.inl _)) => True
  | some (some (.inl i)), some (some (.inr (.inl (i', _)))) => i' = i
  | some (some (.inl i)), some (some (.inr (.inr (i', _)))) => i' = i
  | _, _ => False
theorem Piece.congr {base : Nat} {w : World} {V V' : Key → Value} {s : St} {k : Key} (h : Piece base w V s k) (h0 : V' k = V k) (hc : ∀ k', kidOf k k' → V' k' = V k') : Piece base w V' s k := by
  cases k using Key.by with
  | fibers =>
    obtain ⟨xs, h1, h2⟩ := h
    exact ⟨xs, by rw [h0]; exact h1, fun i hi => by rw [hc (.frames i) trivial]; exact h2 i hi⟩
  | out => show World.ownsRow _ _ _ _ _ _ _; rw [h0]; exact h
  | frames i =>
    obtain ⟨xs, h1, h2⟩ := h
    exact ⟨xs, by rw [h0]; exact h1, fun j hj => by rw [hc (.locals i j) rfl, hc (.stack i j) rfl]; exact h2 j hj⟩
  | locals i j => show World.ownsRow _ _ _ _ _ _ _; rw [h0]; exact h
  | stack i j => show World.ownsRow _ _ _ _ _ _ _; rw [h0]; exact h
section
variable {K K' : Key → Prop} {base : Nat} {w w1 w2 : World} {V V1 V2 : Key → Value} {s : St} {p : Key} {g : Nat}
theorem OwnOn.same (h : OwnOn K base w V s) (hs : ∀ k b, K k → (V k).ownBlock = some b → w2.heap[b]? = w.heap[b]?) : OwnOn K base w2 V s :=
  ⟨fun k hk => (h.piece k hk).same (fun b hb => hs k b hk hb), h.apart⟩
theorem OwnOn.kept (h : OwnOn K base w V s) (hk : Kept w w2) : OwnOn K base w2 V s :=
  h.same fun k b hK hb => hk.block b ((h.piece k hK).block b hb).2
theorem OwnOn.sub (h : OwnOn K base w V s) (hs : ∀ k, K' k → K k) : OwnOn K' base w V s :=
  ⟨fun k hk => h.piece k (hs k hk), fun k k' b hk hk' => h.apart k k' b (hs k hk) (hs k' hk')⟩
theorem OwnOn.into (h : OwnOn K base w V s) (hb : base ≤ w.heap.size) (hk : Kept w w1) (h1 : OwnOn K' w.heap.size w1 V1 s)
    (hp : K p) (hpg : (V p).ownBlock = some g) (h2 : ∀ b, b ≠ g → w2.heap[b]? = w1.heap[b]?) (e1 : ∀ k, K k → V2 k = V k) (e2 : ∀ k, K' k → V2 k = V1 k)
    (c1 : ∀ k k', K k → k ≠ p → kidOf k k' → V2 k' = V k') (c2 : ∀ k k', K' k → kidOf k k' → V2 k' = V1 k') (hpp : Piece base w2 V2 s p) :
    OwnOn (fun k => K k ∨ K' k) base w2 V2 s := by
  have hg := ((h.piece p hp).block g hpg).2
  refine ⟨fun k hkk => ?_, fun k k' b hk1 hk2 b1 b2 => ?_⟩
  · rcases hkk with hK | hK
    · by_cases e : k = p
      · rw [e]; exact hpp
      · refine ((h.piece k hK).congr (e1 k hK) (fun k' hc => c1 k k' hK e hc)).same (fun b hbb => ?_)
        rw [e1 k hK] at hbb
        have hlt := ((h.piece k hK).block b hbb).2
        have hne : b ≠ g := fun e' => e (h.apart k p b hK hp hbb (by rw [hpg, e']))
        rw [h2 b hne, hk.block b hlt]
    · refine (((h1.piece k hK).congr (e2 k hK) (fun k' hc => c2 k k' hK hc)).low hb).same (fun b hbb => ?_)
      rw [e2 k hK] at hbb
      have hge := ((h1.piece k hK).block b hbb).1
      exact h2 b (by omega)
  · rcases hk1 with hK1 | hK1 <;> rcases hk2 with hK2 | hK2
    · rw [e1 k hK1] at b1; rw [e1 k' hK2] at b2; exact h.apart k k' b hK1 hK2 b1 b2
    · rw [e1 k hK1] at b1; rw [e2 k' hK2] at b2
      have := ((h.piece k hK1).block b b1).2
      have := ((h1.piece k' hK2).block b b2).1
      omega
    · rw [e2 k hK1] at b1; rw [e1 k' hK2] at b2
      have := ((h.piece k' hK2).block b b2).2
      have := ((h1.piece k hK1).block b b1).1
      omega
    · rw [e2 k hK1] at b1; rw [e2 k' hK2] at b2; exact h1.apart k k' b hK1 hK2 b1 b2
theorem OwnOn.beside (h : OwnOn K base w V s) (hb : base ≤ w.heap.size) (hk : Kept w w1) (h1 : OwnOn K' w.heap.size w1 V1 s) (e1 : ∀ k, K k → V2 k = V k) (e2 : ∀ k, K' k → V2 k = V1 k)
    (c1 : ∀ k k', K k → kidOf k k' → V2 k' = V k') (c2 : ∀ k k', K' k → kidOf k k' → V2 k' = V1 k') : OwnOn (fun k => K k ∨ K' k) base w1 V2 s := by
  refine ⟨fun k hkk => ?_, fun k k' b hk1 hk2 b1 b2 => ?_⟩
  · rcases hkk with hK | hK
    · refine ((h.piece k hK).congr (e1 k hK) (fun k' hc => c1 k k' hK hc)).same (fun b hbb => ?_)
      rw [e1 k hK] at hbb
      exact hk.block b ((h.piece k hK).block b hbb).2
    · exact ((h1.piece k hK).congr (e2 k hK) (fun k' hc => c2 k k' hK hc)).low hb
  · rcases hk1 with hK1 | hK1 <;> rcases hk2 with hK2 | hK2
    · rw [e1 k hK1] at b1; rw [e1 k' hK2] at b2; exact h.apart k k' b hK1 hK2 b1 b2
    · rw [e1 k hK1] at b1; rw [e2 k' hK2] at b2
      have := ((h.piece k hK1).block b b1).2
      have := ((h1.piece k' hK2).block b b2).1
      omega
    · rw [e2 k hK1] at b1; rw [e1 k' hK2] at b2
      have := ((h.piece k' hK2).block b b2).2
      have := ((h1.piece k hK1).block b b1).1
      omega
    · rw [e2 k hK1] at b1; rw [e2 k' hK2] at b2; exact h1.apart k k' b hK1 hK2 b1 b2
end
def FK (t n : Nat) : Key → Prop
  | some (some (.inl i)) => i = t
  | some (some (.inr (.inl (i, j)))) => i = t ∧ j < n
  | some (some (.inr (.inr (i, j)))) => i = t ∧ j < n
  | _ => False
def RK (t j : Nat) : Key → Prop
  | some (some (.inr (.inl (i, q)))) => i = t ∧ q = j
  | some (some (.inr (.inr (i, q)))) => i = t ∧ q = j
  | _ => False
def LK (s : St) (n : Nat) : Key → Prop
  | none => True
  | some none => False
  | some (some (.inl i)) => i < n
  | some (some (.inr (.inl (i, j)))) => i < n ∧ j < (fibAt s i).frames.length
  | some (some (.inr (.inr (i, j)))) => i < n ∧ j < (fibAt s i).frames.length
def ofFib (t : Nat) : Key → Bool
  | some (some (.inl i)) => i == t
  | some (some (.inr (.inl (i, _)))) => i == t
  | some (some (.inr (.inr (i, _)))) => i == t
  | _ => false
def frV (V : Key → Value) (t j : Nat) (v1 v2 : Value) : Key → Value := fun k => if k = .locals t j then v1 else if k = .stack t j then v2 else V k
theorem frV_locals (V : Key → Value) (t j : Nat) (v1 v2 : Value) : frV V t j v1 v2 (.locals t j) = v1 := if_pos rfl
theorem frV_stack (V : Key → Value) (t j : Nat) (v1 v2 : Value) : frV V t j v1 v2 (.stack t j) = v2 := by unfold frV; rw [if_neg (by simp), if_pos rfl]
theorem frV_ne (V : Key → Value) {t j : Nat} {v1 v2 : Value} {k : Key} (h1 : k ≠ .locals t j) (h2 : k ≠ .stack t j) : frV V t j v1 v2 k = V k := by unfold frV; rw [if_neg h1, if_neg h2]
theorem OwnOn.frame {base : Nat} {w : World} {s : St} {t j : Nat} {v1 v2 : Value} {V : Key → Value} (h1 : w.ownsRow base 3 1 v1 (frAt s t j).locals.length (ints (frAt s t j).locals)) (h2 : w.ownsRow base 3 1 v2 (frAt s t j).stack.length (ints (frAt s t j).stack))
    (ha : ∀ b, v1.ownBlock = some b → v2.ownBlock ≠ some b) : OwnOn (RK t j) base w (frV V t j v1 v2) s := by
  have e1 := frV_locals V t j v1 v2
  have e2 := frV_stack V t j v1 v2
  refine ⟨fun k hk => ?_, fun k k' b hk hk' => ?_⟩
  · cases k using Key.by with
    | fibers => exact hk.elim
    | out => exact hk.elim
    | frames i => exact hk.elim
    | locals i q => obtain ⟨rfl, rfl⟩ := hk; show World.ownsRow _ _ _ _ _ _ _; rw [e1]; exact h1
    | stack i q => obtain ⟨rfl, rfl⟩ := hk; show World.ownsRow _ _ _ _ _ _ _; rw [e2]; exact h2
  · cases k using Key.by with
    | fibers => exact hk.elim
    | out => exact hk.elim
    | frames i => exact hk.elim
    | locals i q =>
      obtain ⟨rfl, rfl⟩ := hk
      cases k' using Key.by with
      | fibers => exact hk'.elim
      | out => exact hk'.elim
      | frames i => exact hk'.elim
      | locals i' q' => obtain ⟨rfl, rfl⟩ := hk'; exact fun _ _ => rfl
      | stack i' q' => obtain ⟨rfl, rfl⟩ := hk'; rw [e1, e2]; exact fun b1 b2 => absurd b2 (ha b b1)
    | stack i q =>
      obtain ⟨rfl, rfl⟩ := hk
      cases k' using Key.by with
      | fibers => exact hk'.elim
      | out => exact hk'.elim
      | frames i => exact hk'.elim
      | locals i' q' => obtain ⟨rfl, rfl⟩ := hk'; rw [e1, e2]; exact fun b2 b1 => absurd b2 (ha b b1)
      | stack i' q' => obtain ⟨rfl, rfl⟩ := hk'; exact fun _ _ => rfl
theorem OwnOn.frame_in {base : Nat} {w w1 : World} {V : Key → Value} {s : St} {t j g cap : Nat} {v1 v2 : Value} (h : OwnOn (FK t j) base w V s) (hb : base ≤ w.heap.size) (hk : Kept w w1)
    (hj : j < (fibAt s t).frames.length) (hV : V (.frames t) = .slice (some ⟨g, 0, none⟩) (fibAt s t).frames.length cap)
    (h1 : w1.ownsRow w.heap.size 3 1 v1 (frAt s t j).locals.length (ints (frAt s t j).locals)) (h2 : w1.ownsRow w.heap.size 3 1 v2 (frAt s t j).stack.length (ints (frAt s t j).stack))
    (ha : ∀ b, v1.ownBlock = some b → v2.ownBlock ≠ some b) :
    OwnOn (FK t (j + 1)) base ((((w1.setCell ⟨g, j * 4, none⟩ (.int .i64 (frAt s t j).fn)).setCell ⟨g, j * 4 + 1, none⟩ (.int .i64 (frAt s t j).at_)).setCell ⟨g, j * 4 + 2, none⟩ v1).setCell ⟨g, j * 4 + 3, none⟩ v2) (frV V t j v1 v2) s := by
  have hn := OwnOn.frame (V := V) h1 h2 ha
  have hf : FK t j (.frames t) := rfl
  have hfr : frV V t j v1 v2 (.frames t) = V (.frames t) := frV_ne V (by simp) (by simp)
  refine (h.into hb hk hn (p := .frames t) (g := g) hf (by rw [hV]; rfl) (fun b hne => ?_) (fun k hK => ?_) (fun _ _ => rfl) (fun k k' hK hne hc => ?_) (fun _ _ _ _ => rfl) ?_).sub (fun k hK => ?_)
  · rw [Below.heap_setCell _ _ _ _ hne, Below.heap_setCell _ _ _ _ hne, Below.heap_setCell _ _ _ _ hne, Below.heap_setCell _ _ _ _ hne]
  · refine frV_ne V (fun e => ?_) (fun e => ?_)
    · subst e; exact absurd hK.2 (by omega)
    · subst e; exact absurd hK.2 (by omega)
  · cases k using Key.by with
    | fibers => exact hK.elim
    | out => exact hK.elim
    | frames i => exact absurd (by rw [show i = t from hK]) hne
    | locals i q => cases k' using Key.by <;> exact hc.elim
    | stack i q => cases k' using Key.by <;> exact hc.elim
  · obtain ⟨xs, r1, r2⟩ := h.piece (.frames t) hf
    rw [hV] at r1
    have r3 := row_same (w' := w1) r1 (fun b hbb => hk.block b (r1.lt b hbb).2)
    have r4 := ((((r3.stored (j * 4) (.int .i64 (frAt s t j).fn)).1.stored (j * 4 + 1) (.int .i64 (frAt s t j).at_)).1.stored (j * 4 + 2) v1).1.stored (j * 4 + 3) v2).1
    refine ⟨_, by rw [hfr, hV]; exact r4, fun q hq => ?_⟩
    have hl : xs.length = (fibAt s t).frames.length * 4 := r1.1
    obtain ⟨x0, x1, x2, x3⟩ := r2 q hq
    by_cases e : q = j
    · subst e
      rw [frV_locals, frV_stack]
      refine ⟨?_, ?_, ?_, ?_⟩ <;> simp [List.getElem?_set] <;> omega
    · rw [frV_ne V (by simp [e]) (by simp), frV_ne V (by simp) (by simp [e])]
      simp only [List.getElem?_set]
      refine ⟨?_, ?_, ?_, ?_⟩
      · rw [if_neg (by omega), if_neg (by omega), if_neg (by omega), if_neg (by omega)]; exact x0
      · rw [if_neg (by omega), if_neg (by omega), if_neg (by omega), if_neg (by omega)]; exact x1
      · rw [if_neg (by omega), if_neg (by omega), if_neg (by omega), if_neg (by omega)]; exact x2
      · rw [if_neg (by omega), if_neg (by omega), if_neg (by omega), if_neg (by omega)]; exact x3
  · cases k using Key.by with
    | fibers => exact hK.elim
    | out => exact hK.elim
    | frames i => exact .inl hK
    | locals i q => exact (Nat.lt_succ_iff_lt_or_eq.1 hK.2).imp (fun e => ⟨hK.1, e⟩) (fun e => ⟨hK.1, e⟩)
    | stack i q => exact (Nat.lt_succ_iff_lt_or_eq.1 hK.2).imp (fun e => ⟨hK.1, e⟩) (fun e => ⟨hK.1, e⟩)
def fbV (V V1 : Key → Value) (t : Nat) : Key → Value := fun k => if ofFib t k = true then V1 k else V k
theorem fbV_of (V V1 : Key → Value) {t : Nat} {k : Key} (h : ofFib t k = true) : fbV V V1 t k = V1 k := if_pos h
theorem fbV_ne (V V1 : Key → Value) {t : Nat} {k : Key} (h : ofFib t k = false) : fbV V V1 t k = V k := if_neg (by rw [h]; exact Bool.false_ne_true)
theorem FK_of {t n : Nat} {k : Key} (h : FK t n k) : ofFib t k = true := by
  cases k using Key.by with
  | fibers => exact h.elim
  | out => exact h.elim
  | frames i => exact beq_iff_eq.2 h
  | locals i q => exact beq_iff_eq.2 h.1
  | stack i q => exact beq_iff_eq.2 h.1
theorem LK_of {s : St} {t : Nat} {k : Key} (h : LK s t k) : ofFib t k = false := by
  cases k using Key.by with
  | fibers => rfl
  | out => rfl
  | frames i => exact beq_eq_false_iff_ne.2 (Nat.ne_of_lt h)
  | locals i q => exact beq_eq_false_iff_ne.2 (Nat.ne_of_lt h.1)
  | stack i q => exact beq_eq_false_iff_ne.2 (Nat.ne_of_lt h.1)
theorem OwnOn.fiber_in {base : Nat} {w w1 : World} {V V1 : Key → Value} {s : St} {t g cap : Nat} (h : OwnOn (LK s t) base w V s) (hb : base ≤ w.heap.size) (hk : Kept w w1)
    (ht : t < s.fibers.length) (hV : V .fibers = .slice (some ⟨g, 0, none⟩) s.fibers.length cap) (h1 : OwnOn (FK t (fibAt s t).frames.length) w.heap.size w1 V1 s) :
    OwnOn (LK s (t + 1)) base ((w1.setCell ⟨g, t * 2, none⟩ (V1 (.frames t))).setCell ⟨g, t * 2 + 1, none⟩ (.int .i64 (fibAt s t).caller)) (fbV V V1 t) s := by
  have hf : LK s t .fibers := trivial
  refine (h.into hb hk h1 (V2 := fbV V V1 t) (p := .fibers) (g := g) hf (by rw [hV]; rfl) (fun b hne => ?_) (fun k hK => fbV_ne V V1 (LK_of hK)) (fun k hK => fbV_of V V1 (FK_of hK)) (fun k k' hK hne hc => ?_) (fun k k' hK hc => ?_) ?_).sub (fun k hK => ?_)
  · rw [Below.heap_setCell _ _ _ _ hne, Below.heap_setCell _ _ _ _ hne]
  · cases k using Key.by with
    | fibers => exact absurd rfl hne
    | out => exact hK.elim
    | frames i =>
      have hi : i < t := hK
      cases k' using Key.by with
      | fibers => exact hc.elim
      | out => exact hc.elim
      | frames q => exact hc.elim
      | locals a b => exact fbV_ne V V1 (beq_eq_false_iff_ne.2 (by rw [show a = i from hc]; omega))
      | stack a b => exact fbV_ne V V1 (beq_eq_false_iff_ne.2 (by rw [show a = i from hc]; omega))
    | locals i q => cases k' using Key.by <;> exact hc.elim
    | stack i q => cases k' using Key.by <;> exact hc.elim
  · cases k using Key.by with
    | fibers => exact hK.elim
    | out => exact hK.elim
    | frames i =>
      have hi : i = t := hK
      cases k' using Key.by with
      | fibers => exact hc.elim
      | out => exact hc.elim
      | frames q => exact hc.elim
      | locals a b => exact fbV_of V V1 (beq_iff_eq.2 (by rw [show a = i from hc]; exact hi))
      | stack a b => exact fbV_of V V1 (beq_iff_eq.2 (by rw [show a = i from hc]; exact hi))
    | locals i q => cases k' using Key.by <;> exact hc.elim
    | stack i q => cases k' using Key.by <;> exact hc.elim
  · obtain ⟨xs, r1, r2⟩ := h.piece .fibers hf
    rw [hV] at r1
    have r3 := row_same (w' := w1) r1 (fun b hbb => hk.block b (r1.lt b hbb).2)
    have r4 := ((r3.stored (t * 2) (V1 (.frames t))).1.stored (t * 2 + 1) (.int .i64 (fibAt s t).caller)).1
    refine ⟨_, by rw [fbV_ne V V1 rfl, hV]; exact r4, fun q hq => ?_⟩
    have hl : xs.length = s.fibers.length * 2 := r1.1
    obtain ⟨x0, x1⟩ := r2 q hq
    by_cases e : q = t
    · subst e
      rw [fbV_of V V1 (t := q) (k := .frames q) (beq_iff_eq.2 rfl)]
      refine ⟨?_, ?_⟩ <;> simp [List.getElem?_set] <;> omega
    · rw [fbV_ne V V1 (t := t) (k := .frames q) (beq_eq_false_iff_ne.2 e)]
      simp only [List.getElem?_set]
      refine ⟨?_, ?_⟩
      · rw [if_neg (by omega), if_neg (by omega)]; exact x0
      · rw [if_neg (by omega), if_neg (by omega)]; exact x1
  · cases k using Key.by with
    | fibers => exact .inl trivial
    | out => exact hK.elim
    | frames i => exact Nat.lt_succ_iff_lt_or_eq.1 hK
    | locals i q => exact (Nat.lt_succ_iff_lt_or_eq.1 hK.1).imp (fun e => ⟨e, hK.2⟩) (fun e => ⟨e, by rw [← e]; exact hK.2⟩)
    | stack i q => exact (Nat.lt_succ_iff_lt_or_eq.1 hK.1).imp (fun e => ⟨e, hK.2⟩) (fun e => ⟨e, by rw [← e]; exact hK.2⟩)
theorem OwnOn.whole {base : Nat} {w w1 : World} {V : Key → Value} {s : St} {vo : Value} (h : OwnOn (LK s s.fibers.length) base w V s) (hb : base ≤ w.heap.size) (hk : Kept w w1)
    (ho : w1.ownsRow w.heap.size 3 1 vo s.out.length (ints s.out)) : Own base w1 (upd V .out vo) s := by
  have h1 : OwnOn (fun k => k = .out) w.heap.size w1 (upd V .out vo) s :=
    ⟨fun k e => by subst e; show World.ownsRow _ _ _ _ _ _ _; rw [upd_same]; exact ho, fun k k' _ e e' _ _ => by rw [e, e']⟩
  have hno : ∀ k, LK s s.fibers.length k → k ≠ .out := fun k hK e => by subst e; exact hK
  have h2 := h.beside hb hk h1 (V2 := upd V .out vo) (fun k hK => upd_ne _ _ (hno k hK)) (fun _ _ => rfl) (fun k k' hK hc => upd_ne _ _ (fun e => by subst e; cases k using Key.by <;> exact hc)) (fun _ _ _ _ => rfl)
  have h3 : ∀ k, live s k → (LK s s.fibers.length k ∨ k = .out) := fun k hK => by
    cases k using Key.by with
    | fibers => exact .inl trivial
    | out => exact .inr rfl
    | frames i => exact .inl hK
    | locals i q => exact .inl hK
    | stack i q => exact .inl hK
  exact ⟨fun k hK => h2.piece k (h3 k hK), fun k k' g hK hK' => h2.apart k k' g (h3 k hK) (h3 k' hK')⟩
theorem OwnOn.frames_start {base : Nat} {w : World} {V : Key → Value} {s : St} {t : Nat} {xs : List Value} (h1 : w.ownsRow base 92 4 (V (.frames t)) (fibAt s t).frames.length xs)
    (h2 : ∀ j, j < (fibAt s t).frames.length → xs[j * 4]? = some (.int .i64 (frAt s t j).fn) ∧ xs[j * 4 + 1]? = some (.int .i64 (frAt s t j).at_) ∧ xs[j * 4 + 2]? = some (V (.locals t j)) ∧ xs[j * 4 + 3]? = some (V (.stack t j))) : OwnOn (FK t 0) base w V s := by
  have hk : ∀ k, FK t 0 k → k = .frames t := fun k hK => by
    cases k using Key.by with
    | fibers => exact hK.elim
    | out => exact hK.elim
    | frames i => rw [show i = t from hK]
    | locals i q => exact absurd hK.2 (Nat.not_lt_zero _)
    | stack i q => exact absurd hK.2 (Nat.not_lt_zero _)
  exact ⟨fun k hK => by rw [hk k hK]; exact ⟨xs, h1, h2⟩, fun k k' _ hK hK' _ _ => by rw [hk k hK, hk k' hK']⟩
theorem OwnOn.fibers_start {base : Nat} {w : World} {V : Key → Value} {s : St} {xs : List Value} (h1 : w.ownsRow base 95 2 (V .fibers) s.fibers.length xs)
    (h2 : ∀ i, i < s.fibers.length → xs[i * 2]? = some (V (.frames i)) ∧ xs[i * 2 + 1]? = some (.int .i64 (fibAt s i).caller)) : OwnOn (LK s 0) base w V s := by
  have hk : ∀ k, LK s 0 k → k = .fibers := fun k hK => by
    cases k using Key.by with
    | fibers => rfl
    | out => exact hK.elim
    | frames i => exact absurd hK (Nat.not_lt_zero _)
    | locals i q => exact absurd hK.1 (Nat.not_lt_zero _)
    | stack i q => exact absurd hK.1 (Nat.not_lt_zero _)
  exact ⟨fun k hK => by rw [hk k hK]; exact ⟨xs, h1, h2⟩, fun k k' _ hK hK' _ _ => by rw [hk k hK, hk k' hK']⟩
end Go.Proofs.YtokhibfenccijaaGreatDoor
