/- ProgA, StateJ, EngS -/
import Derived.Test.YtlapliclhfpgkaaDoorRB12
import Derived.Test.YtlapliclhfpgkaaDoorRB15
import Derived.Test.YtlapliclhfpgkaaDoorRB33
import Derived.Test.YtlapliclhfpgkaaDoorRB35
import Derived.Test.YtlapliclhfpgkaaDoorRB36
import Derived.Laws.Pointers
import Derived.Test.YtlapliclhfpgkaaDoorRB31
namespace Go.Proofs.YtlapliclhfpgkaaDoor
open Go.RowKit
theorem hgtS_E {p : List Fn} {k : Nat} (h : chkS p k = 0) : (hgtS p k).2 = hgtE p k := by
  unfold hgtS hgtE codeOf
  rw [if_pos h, Int.toNat_natCast]
  cases heightsS p (p.getD k Fn.zero).code <;> rfl
set_option maxHeartbeats 1000000 in
theorem progCheck_many (oa : Option Addr) (n cap : Nat) (w : World) (h : 5 < (n : Int)) :
    Calls Tryd.prog 17 #[.slice oa n cap] w fun e w' => e = .returned (.int .i64 2) ∧ Kept w w' := by
  go_enter Tryd.func17, Tryd.ntmps17
  go_wp2
  go_ret
  exact ⟨rfl, Kept.refl _⟩
set_option maxHeartbeats 1000000 in
theorem progCheck_none (oa : Option Addr) (cap : Nat) (w : World) :
    Calls Tryd.prog 17 #[.slice oa 0 cap] w fun e w' => e = .returned (.int .i64 5) ∧ Kept w w' := by
  go_enter Tryd.func17, Tryd.ntmps17
  go_wp2
  go_ret
  exact ⟨rfl, Kept.refl _⟩
set_option maxHeartbeats 1000000 in
theorem progCheck_args (b o n cap : Nat) (ar : Int) (w : World) (h : ¬ 5 < (n : Int)) (h0 : ((n : Int) == 0) = false) (hn : 0 < n) (c0 : w.cell? ⟨b, o, none⟩ = some (.int .i64 ar)) (ha : (ar != 0) = true) :
    Calls Tryd.prog 17 #[.slice (some ⟨b, o, none⟩) n cap] w fun e w' => e = .returned (.int .i64 1) ∧ Kept w w' := by
  go_enter Tryd.func17, Tryd.ntmps17
  go_wp2
  go_ret
  exact ⟨rfl, Kept.refl _⟩
set_option maxHeartbeats 4000000 in
theorem progCheck_go (p : List Fn) (b o n cap : Nat) (w : World) (hp : ProgAt w (.slice (some ⟨b, o, none⟩) n cap) p) (hk : KindsAt w) (hl : n = p.length) (h : ¬ 5 < (n : Int)) (h0 : ((n : Int) == 0) = false) (hn : 0 < n) (c0 : w.cell? ⟨b, o, none⟩ = some (.int .i64 0)) (rr : Int) (hrr : (if firstS (fun k => chkS p k) 0 p.length = 0 then firstS (hgtE p) 0 p.length else firstS (fun k => chkS p k) 0 p.length) = rr) :
    Calls Tryd.prog 17 #[.slice (some ⟨b, o, none⟩) n cap] w fun e w' => e = .returned (.int .i64 rr) ∧ Kept w w' := by
  have HRR := hide hrr
  clear hrr
  have HP := hide hp
  have HK := hide hk
  have HL := hide hl
  clear hp hk hl
  go_enter Tryd.func17, Tryd.ntmps17
  go_wp2
  go_loopw [21] (fun s wr => ∃ k : Nat, k ≤ n ∧ s = .int .i64 k ∧ Hid (firstS (fun k => chkS p k) k (n - k) = firstS (fun k => chkS p k) 0 p.length) ∧ Hid (Kept w wr)) (fun s _ => n - (intOf s).toNat)
  case atStart => exact ⟨0, Nat.zero_le _, rfl, by have := unhide HL; subst this; rfl, Kept.refl _⟩
  case round =>
    obtain ⟨k, hkm, rfl, HO, HKr⟩ := hrel
    by_cases hlt : k < n
    · have hst := firstS_step (e := fun k => chkS p k) hlt
      have HST := hide hst
      have hck := check_any p (.slice (some ⟨b, o, none⟩) n cap) k wr ((unhide HP).kept (unhide HKr)) ((unhide HK).kept (unhide HKr))
      have HCK := hide hck
      clear hst hck
      go_wp2_with fail
      refine (unhide HCK).mono ?_
      clear HCK
      rintro e w2 ⟨rfl, hk2⟩
      have HK2 := hide ((unhide HKr).trans hk2)
      clear hk2
      by_cases hz : chkS p k = 0
      · have hst := unhide HST
        simp only [hz, if_true] at hst
        have HS2 := hide (hst.symm.trans (unhide HO))
        rw [hz]
        clear hst hz HST HO
        go_wp2
        go_roundw
        case rel => exact ⟨k + 1, by omega, by go_num, HS2, HK2⟩
        case measure => simp [intOf]; omega
      · have hst := unhide HST
        simp only [hz, if_false] at hst
        have hs2 := hst.symm.trans (unhide HO)
        have hz' : (chkS p k != 0) = true := by rw [bne_iff_ne]; exact hz
        generalize chkS p k = r at *
        have HS2 := hide hs2
        have HZ := hide hz
        clear hst hz HST HO hs2
        go_wp2
        go_ret
        have hrr := unhide HRR
        rw [← unhide HS2, if_neg (unhide HZ)] at hrr
        exact ⟨by rw [← hrr]; rfl, unhide HK2⟩
    · have hf0 : firstS (fun k => chkS p k) 0 p.length = 0 := by
        rw [← unhide HO, show n - k = 0 by omega]
        rfl
      have HF := hide hf0
      clear hf0 HO
      go_wp2
      go_loopw [33] (fun s wq => ∃ k : Nat, k ≤ n ∧ s = .int .i64 k ∧ Hid (firstS (hgtE p) k (n - k) = firstS (hgtE p) 0 p.length) ∧ Hid (Kept w wq)) (fun s _ => n - (intOf s).toNat)
      case atStart => exact ⟨0, Nat.zero_le _, rfl, by have := unhide HL; subst this; rfl, HKr⟩
      case round =>
        obtain ⟨k, hkm, rfl, HO, HKq⟩ := hrel
        by_cases hlt : k < n
        · have hst := firstS_step (e := hgtE p) hlt
          have hz0 : chkS p k = 0 := firstS_zero (unhide HF) k (by omega) (by have := unhide HL; omega)
          have hge := hgtS_E hz0
          have HST := hide hst
          have hck := heights_any p (.slice (some ⟨b, o, none⟩) n cap) k _ ((unhide HP).kept (unhide HKq)) ((unhide HK).kept (unhide HKq))
          have HCK := hide hck
          have HGE := hide hge
          clear hst hck hge hz0
          go_wp2_with fail
          refine (unhide HCK).mono ?_
          clear HCK
          rintro e w2 ⟨v2, rfl, _, hk2⟩
          have HK2 := hide ((unhide HKq).trans hk2)
          clear hk2
          rw [unhide HGE]
          by_cases hz : hgtE p k = 0
          · have hst := unhide HST
            simp only [hz, if_true] at hst
            have HS2 := hide (hst.symm.trans (unhide HO))
            rw [hz]
            clear hst hz HST HO
            go_wp2
            go_roundw
            case rel => exact ⟨k + 1, by omega, by go_num, HS2, HK2⟩
            case measure => simp [intOf]; omega
          · have hst := unhide HST
            simp only [hz, if_false] at hst
            have hs2 := hst.symm.trans (unhide HO)
            have hz' : (hgtE p k != 0) = true := by rw [bne_iff_ne]; exact hz
            generalize hgtE p k = r at *
            have HS2 := hide hs2
            clear hst hz HST HO hs2
            go_wp2
            go_ret
            have hrr := unhide HRR
            rw [if_pos (unhide HF), ← unhide HS2] at hrr
            exact ⟨by rw [← hrr]; rfl, unhide HK2⟩
        · have hf1 : firstS (hgtE p) 0 p.length = 0 := by
            rw [← unhide HO, show n - k = 0 by omega]
            rfl
          have HF1 := hide hf1
          clear hf1 HO
          go_wp2
          go_ret
          have hrr := unhide HRR
          rw [if_pos (unhide HF), unhide HF1] at hrr
          exact ⟨by rw [← hrr]; rfl, unhide HKq⟩
theorem progCheck_any (p : List Fn) (v : Value) (w : World) (hp : ProgAt w v p) (hk : KindsAt w) :
    Calls Tryd.prog 17 #[v] w fun e w' => e = .returned (.int .i64 (progS p)) ∧ Kept w w' := by
  obtain ⟨oa, cap, rfl, hl, hi⟩ := id hp
  unfold progS
  by_cases h5 : 5 < p.length
  · rw [if_pos h5]
    exact progCheck_many oa p.length cap w (by omega)
  · rw [if_neg h5]
    by_cases h0 : p.length = 0
    · rw [if_pos h0, h0]
      exact progCheck_none oa cap w
    · rw [if_neg h0]
      have h0' : ((p.length : Int) == 0) = false := by rw [beq_eq_false_iff_ne]; omega
      obtain ⟨b, o, cv, rfl, c0, c1, c2, hc⟩ := hi 0 _ (getD_of_lt p 0 Fn.zero (by omega))
      simp only [Nat.zero_mul, Nat.add_zero] at c0
      by_cases ha : (p.getD 0 Fn.zero).args = 0
      · rw [if_neg (not_not_intro ha)]
        rw [ha] at c0
        exact progCheck_go p b o p.length cap w hp hk rfl (by omega) h0' (by omega) c0 _ rfl
      · rw [if_pos ha]
        exact progCheck_args b o p.length cap _ w (by omega) h0' (by omega) c0 (by rw [bne_iff_ne]; exact ha)
theorem progCheck_is (p : List Fn) (v : Value) (r : Int) (w : World) (hp : ProgAt w v p) (hk : KindsAt w) (h : progS p = r) :
    Calls Tryd.prog 17 #[v] w fun e w' => e = .returned (.int .i64 r) ∧ Kept w w' := by
  have := progCheck_any p v w hp hk
  rw [h] at this
  exact this
end Go.Proofs.YtlapliclhfpgkaaDoor
namespace Go.Proofs.YtlapliclhfpgkaaDoor
open Go.RowKit
theorem asErr (v : Value) (w : World) : (Instr.typeAssert (.iface 23 v) 20 23 false).run Tryd.prog w = .ok v w := by kernel_rfl
theorem catch_panicking (g : Nat) (x e : Int) (older : List PanicEntry) (w : World) (hc : w.heap[g]? = some (.cells #[.int .i64 x] 23)) :
    CallsD Tryd.prog 35 #[.pointer (some ⟨g, 0, none⟩)] (.panicking ({ v := .iface 23 (.int .i64 e), recovered := false } :: older)) w fun en u' w' =>
      en = .returned (.tuple #[]) ∧ u' = .panicking ({ v := .iface 23 (.int .i64 e), recovered := true } :: older) ∧ w' = w.setCell ⟨g, 0, none⟩ (.int .i64 e) := by
  have c0 : w.cell? ⟨g, 0, none⟩ = some (.int .i64 x) := cell_at hc rfl
  have z0 := frozen_lays hc 0
  refine callsD_of_wpS Tryd.func35 rfl fun c₀ cs hu => ?_
  apply wpS_seq
  apply wpS_region
  simp [wpOpsS, go_sem, recoverD, hu, Tryd.ntmps35, Exit.thenS]
  have ht : (#[Value.pointer (some ⟨g, 0, none⟩)] ++ ((Array.replicate 6 undef).setIfInBounds 1 (Value.iface 23 (.int .i64 e))).setIfInBounds 0 (Value.iface 23 (.int .i64 e))) = #[Value.pointer (some ⟨g, 0, none⟩), Value.iface 23 (.int .i64 e), Value.iface 23 (.int .i64 e), undef, undef, undef, undef] := rfl
  rw [ht]
  apply wpS_seq
  apply wpS_region
  simp [wpOpsS, go_sem, Exit.thenS]
  refine wpS_cond (t := true) (by simp [Act.eval]) ?_
  simp only [if_true]
  apply wpS_region
  simp [wpOpsS, go_sem, asErr, c0, z0, bodyPostS, results, Tryd.results35]
theorem catch_idle (g : Nat) (w : World) :
    CallsD Tryd.prog 35 #[.pointer (some ⟨g, 0, none⟩)] .returning w fun e u' w' => e = .returned (.tuple #[]) ∧ u' = .returning ∧ w' = w := by
  refine callsD_of_wpS Tryd.func35 rfl fun c₀ cs hu => ?_
  apply wpS_seq
  apply wpS_region
  simp [wpOpsS, go_sem, recoverD, hu, Tryd.ntmps35, Exit.thenS]
  have ht : (#[Value.pointer (some ⟨g, 0, none⟩)] ++ ((Array.replicate 6 undef).setIfInBounds 1 Value.nilIface).setIfInBounds 0 Value.nilIface) = #[Value.pointer (some ⟨g, 0, none⟩), Value.nilIface, Value.nilIface, undef, undef, undef, undef] := rfl
  rw [ht]
  apply wpS_seq
  apply wpS_region
  simp [wpOpsS, go_sem, Exit.thenS]
  refine wpS_cond (t := false) (by simp [Act.eval]) ?_
  simp only [Bool.false_eq_true, if_false]
  refine wpS_of_wp (wp_skip ?_)
  cases c₀
  simp_all [bodyPostS, results, Tryd.results35]
end Go.Proofs.YtlapliclhfpgkaaDoor
namespace Go.Proofs.YtlapliclhfpgkaaDoor
open Go.RowKit
theorem own_none (N : Nat) (w : World) : Own N w (fun _ => .slice none 0 0) St.zero := by
  refine ⟨fun k hk => ?_, fun k k' g hk hk' e e' => by cases e⟩
  cases k using Key.by with
  | fibers => exact ⟨[], World.ownsRow_nil _ _ _ _, fun i hi => by simp [St.zero] at hi⟩
  | out => exact World.ownsRow_nil _ _ _ _
  | frames t => simp [live, St.zero] at hk
  | locals t q => simp [live, St.zero] at hk
  | stack t q => simp [live, St.zero] at hk
theorem stepCatch_panicking (g : Nat) (x e : Int) (older : List PanicEntry) (w : World) (hc : w.heap[g]? = some (.cells #[.int .i64 x] 23)) :
    CallsD Tryd.prog 46 #[.pointer (some ⟨g, 0, none⟩)] (.panicking ({ v := .iface 23 (.int .i64 e), recovered := false } :: older)) w fun en u' w' =>
      en = .returned (.tuple #[]) ∧ u' = .panicking ({ v := .iface 23 (.int .i64 e), recovered := true } :: older) ∧ w' = w.setCell ⟨g, 0, none⟩ (.int .i64 e) := by
  have c0 : w.cell? ⟨g, 0, none⟩ = some (.int .i64 x) := cell_at hc rfl
  have z0 := frozen_lays hc 0
  refine callsD_of_wpS Tryd.func46 rfl fun c₀ cs hu => ?_
  apply wpS_seq
  apply wpS_region
  simp [wpOpsS, go_sem, recoverD, hu, Tryd.ntmps46, Exit.thenS]
  have ht : (#[Value.pointer (some ⟨g, 0, none⟩)] ++ ((Array.replicate 6 undef).setIfInBounds 1 (Value.iface 23 (.int .i64 e))).setIfInBounds 0 (Value.iface 23 (.int .i64 e))) = #[Value.pointer (some ⟨g, 0, none⟩), Value.iface 23 (.int .i64 e), Value.iface 23 (.int .i64 e), undef, undef, undef, undef] := rfl
  rw [ht]
  apply wpS_seq
  apply wpS_region
  simp [wpOpsS, go_sem, Exit.thenS]
  refine wpS_cond (t := true) (by simp [Act.eval]) ?_
  simp only [if_true]
  apply wpS_region
  simp [wpOpsS, go_sem, asErr, c0, z0, bodyPostS, results, Tryd.results46]
theorem stepCatch_idle (g : Nat) (w : World) :
    CallsD Tryd.prog 46 #[.pointer (some ⟨g, 0, none⟩)] .returning w fun e u' w' => e = .returned (.tuple #[]) ∧ u' = .returning ∧ w' = w := by
  refine callsD_of_wpS Tryd.func46 rfl fun c₀ cs hu => ?_
  apply wpS_seq
  apply wpS_region
  simp [wpOpsS, go_sem, recoverD, hu, Tryd.ntmps46, Exit.thenS]
  have ht : (#[Value.pointer (some ⟨g, 0, none⟩)] ++ ((Array.replicate 6 undef).setIfInBounds 1 Value.nilIface).setIfInBounds 0 Value.nilIface) = #[Value.pointer (some ⟨g, 0, none⟩), Value.nilIface, Value.nilIface, undef, undef, undef, undef] := rfl
  rw [ht]
  apply wpS_seq
  apply wpS_region
  simp [wpOpsS, go_sem, Exit.thenS]
  refine wpS_cond (t := false) (by simp [Act.eval]) ?_
  simp only [Bool.false_eq_true, if_false]
  refine wpS_of_wp (wp_skip ?_)
  cases c₀
  simp_all [bodyPostS, results, Tryd.results46]
theorem leaves_congr {P : Program} {fn : Func} {t t' : Array Value} {R : Ending → World → Prop} (h : results fn t = results fn t') : ∀ (ds : List Deferred) (u : FrameMode) (w : World), Leaves P fn t R ds u w → Leaves P fn t' R ds u w
  | [], .returning, w, ⟨v, h1, h2⟩ => ⟨v, by rw [← h]; exact h1, h2⟩
  | [], .panicking _, _, h1 => h1
  | [], .run, _, h1 => h1
  | d :: ds, u, w, ⟨h0, fv, cap, f, args, h1, h2, h3⟩ => ⟨h0, fv, cap, f, args, h1, h2, h3.mono (by
      intro e u' w' h4
      cases e with
      | returned v => exact leaves_congr h ds _ _ h4
      | panicked c => exact leaves_congr h ds _ _ h4
      | outgrown => exact h4)⟩
theorem stepped_put {K : Act → World → Prop} {R : Ending → World → Prop} {d : Nat} (hd : d ≠ 4 ∧ d ≠ 5) (v : Value) : ∀ (c : List PanicEntry) (a : Act) (w : World), Exit.then K (bodyPostD Tryd.prog Tryd.f30 R) (.panic c) (a.put (some d) v) w → Exit.then K (bodyPostD Tryd.prog Tryd.f30 R) (.panic c) a w := by
  intro c a w h
  simp only [Exit.then, bodyPostD] at h ⊢
  refine leaves_congr ?_ _ _ _ h
  unfold Act.put results
  simp only [Tryd.results30]
  simp [Array.getElem?_setIfInBounds, hd.1, hd.2]
def StepPost (base : Nat) (r : St × Int) (w : World) (e : Ending) (w' : World) : Prop :=
  ∃ V, e = .returned (.tuple #[.agg #[V .fibers, .int .i64 r.1.now, V .out], .int .i64 r.2]) ∧ Own base w' V r.1 ∧ Below base w w'
set_option maxRecDepth 100000 in
set_option maxHeartbeats 8000000 in
theorem eStepped_any (base : Nat) (V : Key → Value) (p : List Fn) (s : St) (vp : Value) (w W0 : World) (hp : ProgAt W0 vp p) (hk : Kept W0 w) (hb : W0.heap.size ≤ base) (hbw : base ≤ w.heap.size) (ho : Own base w V s) (hright : stErrS p s = 0) (hnow : 0 ≤ s.now) :
    Calls Tryd.prog 30 #[vp, .agg #[V .fibers, .int .i64 s.now, V .out]] w (StepPost base (doneS p s) w) := by
  obtain ⟨⟨h0, hi, h5, h30⟩, hall, hfr, _, _, _, ⟨g1, g2, g3, g4, g5⟩, _⟩ := right_ok hright hnow
  obtain ⟨i, hn⟩ : ∃ i : Nat, s.now = i := ⟨s.now.toNat, by omega⟩
  rw [hn, Int.toNat_natCast] at hi hfr
  have htop := top_at hn
  rw [htop] at g1 g2 g3 g4 g5
  have hfi := (hall _ (top_mem i hi))
  have hr : Runs s i := ⟨hi, hfr, by omega, (hfi.2 _ (fr_mem i _ (by omega))).2⟩
  obtain ⟨fi, hfn⟩ : ∃ fi : Nat, (frAt s i ((fibAt s i).frames.length - 1)).fn = fi := ⟨(frAt s i ((fibAt s i).frames.length - 1)).fn.toNat, by omega⟩
  obtain ⟨ai, hat⟩ : ∃ ai : Nat, (frAt s i ((fibAt s i).frames.length - 1)).at_ = ai := ⟨(frAt s i ((fibAt s i).frames.length - 1)).at_.toNat, by omega⟩
  rw [hfn, Int.toNat_natCast] at g2 g4 g5
  rw [hat, Int.toNat_natCast] at g4
  obtain ⟨oa, cp, rfl, hpl, hcell⟩ := hp
  obtain ⟨bp, op, cv, rfl, c0, c1, c2, hcode⟩ := hcell fi _ (getD_of_lt p fi Fn.zero g2)
  have hcd : (p.getD fi Fn.zero).code = codeOf p fi := rfl
  rw [hcd] at hcode
  obtain ⟨oc, cc, rfl, _, hci⟩ := hcode
  obtain ⟨cb, co, rfl, x1, x2⟩ := hci ai _ (getD_of_lt (codeOf p fi) ai (0, 0) g4)
  have hx : (codeOf p fi).getD ai (0, 0) = opAt p (frAt s i ((fibAt s i).frames.length - 1)) := by unfold opAt; rw [hfn, hat, Int.toNat_natCast, Int.toNat_natCast]
  rw [hx] at x1 x2
  generalize hxx : opAt p (frAt s i ((fibAt s i).frames.length - 1)) = x at x1 x2 hx
  obtain ⟨kd, a⟩ := x
  simp only at x1 x2
  have keep : ∀ {q : Addr} {v : Value}, W0.cell? q = some v → ∀ u, Below base w u → u.cell? q = some v := fun hq u hu => (Below.cell hu (Nat.lt_of_lt_of_le (cell_lt hq) hb)).trans (hk.cell hq)
  have HNX : Hid (∀ u bs, Below base w u → OwnVar base u bs V s → Calls Tryd.prog 48 #[eng bs (.slice (some ⟨bp, op, none⟩) p.length cp)] u (NextPost base bs V s (nextS s i ai) kd a u)) := hide (fun u bs hu hov =>
    engNext_any base bs V s i cp bp op p.length fi ai cb co (codeOf p fi).length cc kd a u hov ⟨hn, hr, hfn, hat, g2, g4, g5, fun u' hu' => have hb' := Below.trans hu hu'; ⟨keep c2 u' hb', keep x1 u' hb', keep x2 u' hb'⟩⟩)
  have HDO : Hid (∀ u bs, Below base w u → OwnVar base u bs V (nextS s i ai) → Calls Tryd.prog 47 #[eng bs (.slice (some ⟨bp, op, none⟩) p.length cp), .agg #[.int .i64 kd, .int .i64 a]] u (EngPost base bs V (nextS s i ai) (doneS p s) u)) := hide (fun u bs hu hov =>
    do_any base bs V p s i ai bp op cp kd a u hright hn hat hxx hov (fun f hf u' hu' => by
      obtain ⟨b', o', cv', e', d0, d1, _, _⟩ := hcell f _ (getD_of_lt p f Fn.zero hf)
      obtain ⟨rfl, rfl⟩ := (by simpa using e' : bp = b' ∧ op = o')
      exact ⟨keep d0 u' (Below.trans hu hu'), keep d1 u' (Below.trans hu hu')⟩))
  have hzr : (doneS p s).2 ≠ 0 → (doneS p s).1 = St.zero := done_err
  have HZ := hide hzr
  obtain ⟨xs, hrF, _⟩ := ho.piece .fibers trivial
  obtain ⟨oF, cF, eF, _⟩ := row_slice hrF
  have hrO := ho.piece .out trivial
  obtain ⟨oO, cO, eO, _⟩ := row_slice hrO
  have HOW := hide ho
  have HEF := hide eF
  have HEO := hide eO
  rw [eF, eO, hn]
  generalize hR : doneS p s = R at *
  generalize p.length = n at *
  generalize s.fibers.length = N at *
  generalize s.out.length = M at *
  have HN := hide hn
  clear hcell keep hzr hrF hrO ho hk hxx c0 c1 c2 x1 x2 hci hr hfi hall hright g1 g2 g3 g4 g5 hfn hat hx hfr htop hcd hR hn eF eO h30 h5 hi
  have hmf : ∀ (fn : Go.Fn) (first cap : Array Value) (w : World), (Instr.makeFunc fn first cap).run Tryd.prog w = .ok (.func fn first cap) w := fun _ _ _ _ => rfl
  go_enter_defers Tryd.func30, Tryd.ntmps30
  go_upto_region 3 with fail
  generalize hwg : ((((w.alloc (.cells #[.slice oF N cF, .int .i64 i, .slice oO M cO] 35)).alloc (.cells #[.slice none 0 0, .int .i64 0, .slice none 0 0] 35)).alloc (.cells #[.int .i64 0] 23)).alloc (.cells #[.pointer (some ⟨w.heap.size, 0, none⟩), .slice (some ⟨bp, op, none⟩) n cp] 87)) = wg
  have hkg : Kept w wg := by rw [← hwg]; exact ((((Kept.refl w).alloc _).alloc _).alloc _).alloc _
  have lS : wg.heap[w.heap.size]? = some (.cells #[.slice oF N cF, .int .i64 i, .slice oO M cO] 35) := by rw [← hwg]; exact lays_alloc (lays_alloc (lays_alloc (lays_new rfl) _) _) _
  have lA : wg.heap[w.heap.size + 1]? = some (.cells #[.slice none 0 0, .int .i64 0, .slice none 0 0] 35) := by rw [← hwg]; exact lays_alloc (lays_alloc (lays_new (by simp)) _) _
  have lE : wg.heap[w.heap.size + 1 + 1]? = some (.cells #[.int .i64 0] 23) := by rw [← hwg]; exact lays_alloc (lays_new (by simp)) _
  have lG : wg.heap[w.heap.size + 1 + 1 + 1]? = some (.cells #[.pointer (some ⟨w.heap.size, 0, none⟩), .slice (some ⟨bp, op, none⟩) n cp] 87) := by rw [← hwg]; exact lays_new (by simp)
  have hov : OwnVar base wg w.heap.size V s := ⟨by rw [unhide HEF, unhide HEO, unhide HN]; exact lS, (unhide HOW).same (fun k g hlk hg => hkg.block g (((unhide HOW).piece k hlk).block g hg).2), (unhide HOW).new_off (.inl (Nat.le_refl _)), hbw⟩
  have hofA : Own.off V s (w.heap.size + 1) := (unhide HOW).new_off (.inl (by omega))
  have hofE : Own.off V s (w.heap.size + 1 + 1) := (unhide HOW).new_off (.inl (by omega))
  have hbg : Below base w wg := Below.mono hkg hbw
  have e0 : wg.cell? ⟨w.heap.size + 1 + 1 + 1, 0, none⟩ = some (.pointer (some ⟨w.heap.size, 0, none⟩)) := cell_lays lG 0
  have e1 : wg.cell? ⟨w.heap.size + 1 + 1 + 1, 1, none⟩ = some (.slice (some ⟨bp, op, none⟩) n cp) := cell_lays lG 1
  have HOV := hide hov
  have HBG := hide hbg
  have HLA := hide lA
  have HLE := hide lE
  have HKG := hide hkg
  have HLG := hide lG
  have hofG : Own.off V s (w.heap.size + 1 + 1 + 1) := (unhide HOW).new_off (.inl (by omega))
  clear hwg hov hbg lS lA lE lG hkg
  refine wp_regionP 3 [0, 1] (fun u => u.cell? ⟨w.heap.size + 1 + 1 + 1, 0, none⟩ = some (.pointer (some ⟨w.heap.size, 0, none⟩)) ∧ u.cell? ⟨w.heap.size + 1 + 1 + 1, 1, none⟩ = some (.slice (some ⟨bp, op, none⟩) n cp)) (by kernel_rfl) ?_
  have hHeld := And.intro e0 e1
  refine takeP (v := ?_) (hQ := stepped_put (d := 10) (by decide) _) hHeld (fun u hSu => ?_) ?_
  rotate_left
  · ((try dsimp only at hSu); go_simp) <;> with_reducible rfl
  try simp only [Act.put, List.setIfInBounds_toArray, List.set_cons_zero, List.set_cons_succ]
  refine takeP (v := ?_) (hQ := stepped_put (d := 11) (by decide) _) hHeld (fun u hSu => ?_) ?_
  rotate_left
  · ((try dsimp only at hSu); go_simp) <;> with_reducible rfl
  try simp only [Act.put, List.setIfInBounds_toArray, List.set_cons_zero, List.set_cons_succ]
  refine takeP_end ?_
  refine takeT_one (i := 2) rfl (by kernel_rfl) (fun K hK => ?_)
  go_simp
  refine ((unhide HNX) wg.drew w.heap.size ((unhide HBG).drew) ((unhide HOV).kept (Kept.refl _).drew)).mono ?_
  rintro e w2 ⟨rfl, hm2⟩
  have l2 := hm2.lays (lays_drew (unhide HLG)) (by omega) hofG
  refine hK.out _ _ (fun _ => ⟨cell_lays l2 0, cell_lays l2 1⟩) ?_
  clear hK K
  try simp only [Act.put, List.setIfInBounds_toArray, List.set_cons_zero, List.set_cons_succ]
  refine takeT_one (i := 3) rfl (by kernel_rfl) (fun K hK => ?_)
  go_simp
  have hm02 := (Moved.of_kept (unhide HOV) (Kept.refl _).drew).trans hm2
  have hb2 : Below base w w2 := Below.trans (unhide HBG) (hm02.below (unhide HOV))
  refine ((unhide HDO) w2 w.heap.size hb2 hm02.own).mono ?_
  rintro e w3 (⟨hz, rfl, V3, hm3⟩ | ⟨hz, rfl, hp3⟩)
  · have hm03 := hm02.trans hm3
    have hb3 : Below base w w3 := Below.trans (unhide HBG) (hm03.below (unhide HOV))
    have lA3 := hm03.lays (unhide HLA) (by omega) hofA
    have lE3 := hm03.lays (unhide HLE) (by omega) hofE
    have hoA := hm03.off _ (Array.getElem?_eq_some_iff.1 (unhide HLA)).1 hofA
    have hoE := hm03.off _ (Array.getElem?_eq_some_iff.1 (unhide HLE)).1 hofE
    obtain ⟨s0, s1, s2, _⟩ := hm03.own.cells
    have a0 : w3.cell? ⟨w.heap.size + 1, 0, none⟩ = some (.slice none 0 0) := cell_lays lA3 0
    have a1 : w3.cell? ⟨w.heap.size + 1, 1, none⟩ = some (.int .i64 0) := cell_lays lA3 1
    have a2 : w3.cell? ⟨w.heap.size + 1, 2, none⟩ = some (.slice none 0 0) := cell_lays lA3 2
    have f0 := frozen_lays lA3 0
    have f1 := frozen_lays lA3 1
    have f2 := frozen_lays lA3 2
    have ee : w3.cell? ⟨w.heap.size + 1 + 1, 0, none⟩ = some (.int .i64 0) := cell_lays lE3 0
    have ef := frozen_lays lE3 0
    obtain ⟨xs3, hr3, _⟩ := hm03.own.own.piece .fibers trivial
    obtain ⟨o3, c3, e3, _⟩ := row_slice hr3
    have hr4 := hm03.own.own.piece .out trivial
    obtain ⟨o4, c4, e4, _⟩ := row_slice hr4
    rw [e3] at s0
    rw [e4] at s2
    have HOWN := hide hm03.own.own
    have HB3 := hide hb3
    have HLA3 := hide lA3
    have HLE3 := hide lE3
    have HE3 := hide e3
    have HE4 := hide e4
    have HZ0 := hide hz
    have HOA := hide hoA
    have HOE := hide hoE
    generalize R.1.fibers.length = N3 at *
    generalize R.1.out.length = M3 at *
    generalize hnn : R.1.now = nn at *
    have HNN := hide hnn
    refine hK.out _ _ (fun h => absurd rfl h) ?_
    clear hK K
    refine takeT_done (by kernel_rfl) ?_ _
    clear hm02 hm2 hm3 hm03 hb2 hb3 hr3 hr4 e3 e4 hz hnn lA3 lE3 hoA hoE hHeld l2 e0 e1
    go_wp2
    refine leaves_cons (f := 46) (args := #[.pointer (some ⟨w.heap.size + 1 + 1, 0, none⟩)]) (by simp) (by simp [go_sem]) ?_
    refine (stepCatch_idle _ _).mono ?_
    rintro e u' w'' ⟨rfl, rfl, rfl⟩
    generalize hw5 : (((w3.setCell ⟨w.heap.size + 1, 0, none⟩ (.slice o3 N3 c3)).setCell ⟨w.heap.size + 1, 1, none⟩ (.int .i64 nn)).setCell ⟨w.heap.size + 1, 2, none⟩ (.slice o4 M3 c4)) = w5 
    have lA5 : w5.heap[w.heap.size + 1]? = some (.cells #[.slice o3 N3 c3, .int .i64 nn, .slice o4 M3 c4] 35) := by
      rw [← hw5]; exact lays_set (lays_set (lays_set (unhide HLA3) 0 _) 1 _) 2 _
    have lE5 : w5.heap[w.heap.size + 1 + 1]? = some (.cells #[.int .i64 0] 23) := by
      rw [← hw5, Below.heap_setCell _ _ _ _ (by simp), Below.heap_setCell _ _ _ _ (by simp), Below.heap_setCell _ _ _ _ (by simp)]; exact unhide HLE3
    have ho5 : Own base w5 V3 R.1 := by rw [← hw5]; exact (((unhide HOWN).setOff (a := ⟨w.heap.size + 1, 0, none⟩) (unhide HOA) _).setOff (a := ⟨w.heap.size + 1, 1, none⟩) (unhide HOA) _).setOff (a := ⟨w.heap.size + 1, 2, none⟩) (unhide HOA) _
    have hb5 : Below base w w5 := by rw [← hw5]; exact (((unhide HB3).setCell (p := ⟨w.heap.size + 1, 0, none⟩) (Nat.le_succ_of_le hbw) _).setCell (p := ⟨w.heap.size + 1, 1, none⟩) (Nat.le_succ_of_le hbw) _).setCell (p := ⟨w.heap.size + 1, 2, none⟩) (Nat.le_succ_of_le hbw) _
    have ho6 := ho5.setOff (a := ⟨w.heap.size + 1 + 1, 0, none⟩) (unhide HOE) (.int .i64 0)
    have hb6 := hb5.setCell (p := ⟨w.heap.size + 1 + 1, 0, none⟩) (Nat.le_succ_of_le (Nat.le_succ_of_le hbw)) (.int .i64 0)
    have k0 : (w5.setCell ⟨w.heap.size + 1 + 1, 0, none⟩ (.int .i64 0)).cell? ⟨w.heap.size + 1, 0, none⟩ = some (.slice o3 N3 c3) := cell_set_ne (cell_lays lA5 0) (by omega) _
    have k1 : (w5.setCell ⟨w.heap.size + 1 + 1, 0, none⟩ (.int .i64 0)).cell? ⟨w.heap.size + 1, 1, none⟩ = some (.int .i64 nn) := cell_set_ne (cell_lays lA5 1) (by omega) _
    have k2 : (w5.setCell ⟨w.heap.size + 1 + 1, 0, none⟩ (.int .i64 0)).cell? ⟨w.heap.size + 1, 2, none⟩ = some (.slice o4 M3 c4) := cell_set_ne (cell_lays lA5 2) (by omega) _
    have kE : (w5.setCell ⟨w.heap.size + 1 + 1, 0, none⟩ (.int .i64 0)).cell? ⟨w.heap.size + 1 + 1, 0, none⟩ = some (.int .i64 0) := cell_lays (lays_set lE5 0 _) 0
    generalize w5.setCell ⟨w.heap.size + 1 + 1, 0, none⟩ (.int .i64 0) = w6 at *
    dsimp only [settle]
    refine ⟨.tuple #[.agg #[.slice o3 N3 c3, .int .i64 nn, .slice o4 M3 c4], .int .i64 0], ?_, V3, ?_, ho6, hb6⟩
    · simp [results, Tryd.results30, go_sem, k0, k1, k2, kE]
    · rw [unhide HE3, unhide HE4, unhide HNN, unhide HZ0]
  · dsimp only [left]
    have hpp := hm02.past hp3
    have lA3 := hpp.lays (unhide HLA) (by omega) hofA
    have lE3 := hpp.lays (unhide HLE) (by omega) hofE
    have hb3 : Below base w w3 := Below.trans (unhide HBG) (hpp.below (unhide HOV))
    have hR1 := unhide HZ hz
    refine leaves_cons (f := 46) (args := #[.pointer (some ⟨w.heap.size + 1 + 1, 0, none⟩)]) (by simp) (by simp [go_sem]) ?_
    refine (stepCatch_panicking (w.heap.size + 1 + 1) 0 R.2 [] _ lE3).mono ?_
    rintro e u' w'' ⟨rfl, rfl, rfl⟩
    have hb6 := hb3.setCell (p := ⟨w.heap.size + 1 + 1, 0, none⟩) (Nat.le_succ_of_le (Nat.le_succ_of_le hbw)) (.int .i64 R.2)
    have k0 : (w3.setCell ⟨w.heap.size + 1 + 1, 0, none⟩ (.int .i64 R.2)).cell? ⟨w.heap.size + 1, 0, none⟩ = some (.slice none 0 0) := cell_set_ne (cell_lays lA3 0) (by omega) _
    have k1 : (w3.setCell ⟨w.heap.size + 1 + 1, 0, none⟩ (.int .i64 R.2)).cell? ⟨w.heap.size + 1, 1, none⟩ = some (.int .i64 0) := cell_set_ne (cell_lays lA3 1) (by omega) _
    have k2 : (w3.setCell ⟨w.heap.size + 1 + 1, 0, none⟩ (.int .i64 R.2)).cell? ⟨w.heap.size + 1, 2, none⟩ = some (.slice none 0 0) := cell_set_ne (cell_lays lA3 2) (by omega) _
    have kE : (w3.setCell ⟨w.heap.size + 1 + 1, 0, none⟩ (.int .i64 R.2)).cell? ⟨w.heap.size + 1 + 1, 0, none⟩ = some (.int .i64 R.2) := cell_lays (lays_set lE3 0 _) 0
    generalize w3.setCell ⟨w.heap.size + 1 + 1, 0, none⟩ (.int .i64 R.2) = w6 at *
    dsimp only [settle]
    refine ⟨.tuple #[.agg #[.slice none 0 0, .int .i64 0, .slice none 0 0], .int .i64 R.2], ?_, fun _ => .slice none 0 0, ?_, ?_, hb6⟩
    · simp [results, Tryd.results30, go_sem, k0, k1, k2, kE]
    · rw [hR1]; rfl
    · rw [hR1]; exact own_none _ _
end Go.Proofs.YtlapliclhfpgkaaDoor
