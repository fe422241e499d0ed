/- TextN, DeskJ, StateS -/
import Derived.Test.YtokhibfenccijaaGreatDoorKB05
import Derived.Test.YtokhibfenccijaaGreatDoorKB17
import Derived.Test.YtokhibfenccijaaGreatDoorKB03
import Derived.Test.YtokhibfenccijaaGreatDoorKB02
set_option maxRecDepth 100000
set_option maxHeartbeats 8000000
namespace Go.Proofs.YtokhibfenccijaaGreatDoor
open Go.RowKit Go.Maps
theorem StrsW.keptX {w w' : World} {R : Nat} {v : Value} {u : Value} {l : List (List UInt8)} (h : StrsW w v l) (hR : w.heap[R]? = some (.cells #[u] 27)) (hu : ∃ oa n c, u = .slice oa n c) (k : KeptX R w w') : StrsW w' v l := by
  obtain ⟨oa, cap, e, hn, hi⟩ := h
  refine ⟨oa, cap, e, hn, fun i x hx => ?_⟩
  obtain ⟨b, o, q1, q2⟩ := hi i x hx
  refine ⟨b, o, q1, k.cell (fun e => ?_) q2⟩
  simp only at e
  subst e
  rw [cell_lays hR] at q2
  obtain ⟨_, _, _, rfl⟩ := hu
  generalize o + i = j at q2
  cases j with
  | zero => simp [strV] at q2
  | succ j => simp at q2
theorem linesT_len {l : List UInt8} {ls : List (List UInt8)} (h : linesT l = some ls) (hl : l.length ≤ 8192) : ls.length ≤ 8193 ∧ ∀ x ∈ ls, x.length ≤ 8192 := by
  unfold linesT at h
  split at h
  · cases h; exact ⟨by simp, fun x hx => by simp at hx⟩
  · split at h
    · cases h
      refine ⟨?_, fun x hx => ?_⟩
      · rw [split_length]
        have := List.count_le_length (a := (10 : UInt8)) (l := l.dropLast)
        simp at this
        omega
      · have := splitT_len hx
        simp at this
        omega
    · cases h
theorem leaves_tmps {P : Program} {fn : Func} {R : Ending → World → Prop} {t t' : Array Value} (h : results fn t = results fn t') : ∀ (ds : List Deferred) (u : FrameMode) (w : World), Leaves P fn t R ds u w → Leaves P fn t' R ds u w
  | [], .returning, w, hl => by
    obtain ⟨v, h1, h2⟩ := hl
    exact ⟨v, by rw [← h]; exact h1, h2⟩
  | [], .panicking _, _, hl => hl
  | [], .run, _, hl => hl
  | d :: ds, u, w, hl => by
    obtain ⟨h0, fv, cap, f, args, h1, h2, h3⟩ := hl
    refine ⟨h0, fv, cap, f, args, h1, h2, h3.mono ?_⟩
    intro e u' w' hq
    cases e with
    | returned v => exact leaves_tmps h ds _ _ hq
    | panicked c => exact leaves_tmps h ds _ _ hq
    | outgrown => exact hq
theorem res_put (a : Act) (i : Nat) (v : Value) (h2 : i ≠ 2) (h3 : i ≠ 3) : results Tryz.f31 (a.put (some i) v).tmps = results Tryz.f31 a.tmps := by
  simp [results, Tryz.results31, Act.put, Array.getElem?_setIfInBounds_ne h2, Array.getElem?_setIfInBounds_ne h3]
theorem PrR.setR {b m R i : Nat} {w : World} {v u : Value} {p : List Fn} {d : Array Value} (h : PrR b m w v p) (hR : w.heap[R]? = some (.cells d 27)) (hb : R < b) : PrR b m (w.setCell ⟨R, i, none⟩ u) v p := by
  obtain ⟨h1, hm, c, hr, hc⟩ := h
  have hrow : ∀ {e : TypeId} {size n base : Nat} {v : Value} {xs : List Value}, b ≤ base → w.ownsRow base e size v n xs → (w.setCell ⟨R, i, none⟩ u).ownsRow base e size v n xs := fun {e size n base v xs} hbb hh => by
    obtain ⟨a1, hcase⟩ := hh
    refine ⟨a1, ?_⟩
    rcases hcase with hn | ⟨g', cap', cur', h0, a2, hh, a3⟩
    · exact .inl hn
    · exact .inr ⟨g', cap', cur', h0, a2, lays_other hh (by simp only; omega) _, a3⟩
  have st : StayT 72 w (w.setCell ⟨R, i, none⟩ u) := fun g c hg => lays_other hg (fun e => by
    simp only at e
    subst e
    rw [hR] at hg
    simp only [Option.some.injEq, Obj.cells.injEq] at hg
    exact absurd hg.2.1 (by decide)) _
  refine ⟨h1, by simpa [World.setCell] using hm, c, hrow (Nat.le_refl _) hr, fun j f hf => ?_⟩
  obtain ⟨cv, q1, q2, q3, q4, q5, q6⟩ := hc j f hf
  exact ⟨cv, q1, q2, q3, q4, fun hq => hrow h1 (q5 hq), fun hq => (q6 hq).stayT (Nat.le_refl _) (Nat.le_refl _) st⟩
theorem PrR.setE {b m R i : Nat} {w : World} {v u : Value} {p : List Fn} {d : Array Value} (h : PrR b m w v p) (hR : w.heap[R]? = some (.cells d 22)) (hb : R < b) : PrR b m (w.setCell ⟨R, i, none⟩ u) v p := by
  obtain ⟨h1, hm, c, hr, hc⟩ := h
  have hrow : ∀ {e : TypeId} {size n base : Nat} {v : Value} {xs : List Value}, b ≤ base → w.ownsRow base e size v n xs → (w.setCell ⟨R, i, none⟩ u).ownsRow base e size v n xs := fun {e size n base v xs} hbb hh => by
    obtain ⟨a1, hcase⟩ := hh
    refine ⟨a1, ?_⟩
    rcases hcase with hn | ⟨g', cap', cur', h0, a2, hh, a3⟩
    · exact .inl hn
    · exact .inr ⟨g', cap', cur', h0, a2, lays_other hh (by simp only; omega) _, a3⟩
  have st : StayT 72 w (w.setCell ⟨R, i, none⟩ u) := fun g c hg => lays_other hg (fun e => by
    simp only at e
    subst e
    rw [hR] at hg
    simp only [Option.some.injEq, Obj.cells.injEq] at hg
    exact absurd hg.2.1 (by decide)) _
  refine ⟨h1, by simpa [World.setCell] using hm, c, hrow (Nat.le_refl _) hr, fun j f hf => ?_⟩
  obtain ⟨cv, q1, q2, q3, q4, q5, q6⟩ := hc j f hf
  exact ⟨cv, q1, q2, q3, q4, fun hq => hrow h1 (q5 hq), fun hq => (q6 hq).stayT (Nat.le_refl _) (Nat.le_refl _) st⟩
def LoopT (w w1 : World) (R b : Nat) (p : List Fn) (wr : World) (oa : Option Addr) (cap m : Nat) : Prop :=
  wr.heap[R]? = some (.cells #[.slice oa p.length cap] 27) ∧ wr.heap[R + 1]? = some (.cells #[.int .i64 0] 22) ∧ PrR b m wr (.slice oa p.length cap) p ∧ KeptX R w1 wr ∧ Kept w wr
theorem whole_any (w : World) (l : List UInt8) (hl : l.length ≤ 8192) (he : EnvT w) : Calls Tryz.prog 31 #[.string ⟨l.toArray⟩] w (WholePost l w) := by
  have HLI : Hid (∀ u, Kept w u → Calls Tryz.prog 14 #[.string ⟨l.toArray⟩] u (LinesPost l u)) := hide fun u hu => lines_any u l (by omega) (he.kept hu)
  have HZ : Hid (Kept w ((w.alloc (.cells #[.slice none 0 0] 27)).alloc (.cells #[.int .i64 0] 22)) ∧ ((w.alloc (.cells #[.slice none 0 0] 27)).alloc (.cells #[.int .i64 0] 22)).heap[w.heap.size]? = some (.cells #[.slice none 0 0] 27) ∧ ((w.alloc (.cells #[.slice none 0 0] 27)).alloc (.cells #[.int .i64 0] 22)).heap[w.heap.size + 1]? = some (.cells #[.int .i64 0] 22)) := hide ⟨((Kept.refl w).alloc _).alloc _, lays_alloc (lays_new rfl) _, lays_new (by simp)⟩
  have HE := hide he
  have HY : Hid (∀ u, Calls Tryz.prog 63 #[.bool true] u fun e w' => e = .returned (.tuple #[]) ∧ u = w') := hide fun u => (ask_yes u).mono fun _ _ h => ⟨h.1, h.2.symm⟩
  have HO : Hid (∀ u, Calls Tryz.prog 63 #[.bool false] u fun e w' => e = leftT ∧ u = w') := hide fun u => (ask_no u).mono fun _ _ h => ⟨h.1, h.2.symm⟩
  generalize (ByteArray.mk l.toArray) = S at *
  clear he
  go_enter_defers Tryz.func31, Tryz.ntmps31
  go_wp2_with fail
  generalize (w.alloc (.cells #[.slice none 0 0] 27)).alloc (.cells #[.int .i64 0] 22) = w0 at *
  obtain ⟨R, hR⟩ : ∃ r, r = w.heap.size := ⟨_, rfl⟩
  have HR : Hid (w.heap.size ≤ R) := hide (by omega)
  rw [← hR] at HZ ⊢
  clear hR
  refine ((unhide HLI) w0 (unhide HZ).1).mono ?_
  intro e w1 hpost
  unfold LinesPost at hpost
  cases hli : linesT l with
  | none =>
    rw [hli] at hpost
    obtain ⟨rfl, k1⟩ := hpost
    have HK := hide (And.intro ((unhide HZ).1.trans k1) (And.intro (lays_kept k1 (unhide HZ).2.1) (lays_kept k1 (unhide HZ).2.2)))
    have HW : Hid (wholeT l = none) := hide (by unfold wholeT; rw [hli])
    clear k1 HZ hli HLI
    go_wp2_with fail
    refine ((unhide HO) _).mono ?_
    rintro _ _ ⟨rfl, rfl⟩
    dsimp only [leftT]
    go_wp2_with fail
    refine leaves_cons (f := 62) (args := #[.pointer (some ⟨R, 0, none⟩), .pointer (some ⟨R + 1, 0, none⟩)]) (by simp) (by simp [go_sem]) ?_
    refine (catchT R (R + 1) 0 1 _ [] _ (unhide HK).2.1 (unhide HK).2.2 (by omega)).mono ?_
    rintro e u' w'' ⟨rfl, rfl, h1, h2, h3⟩
    have t0 := cell_lays h1 0
    have t1 := cell_lays h2 0
    simp only [List.getElem?_toArray, List.getElem?_cons_zero] at t0 t1
    have hk := h3 w (unhide HK).1 (unhide HR) (by have := unhide HR; omega)
    simp [Leaves, settle, results, Tryz.results31, go_sem, t0, t1]
    unfold WholePost
    rw [unhide HW]
    exact ⟨rfl, hk⟩
  | some ls =>
    rw [hli] at hpost
    obtain ⟨oa, n, cap, rfl, hn, hs, k1⟩ := hpost
    have hls : ls.length ≤ 8193 ∧ ∀ x ∈ ls, x.length ≤ 8192 := linesT_len hli hl
    obtain ⟨K, P, hP0, hKn, hPs, hend⟩ : ∃ (K : Nat) (P : Nat → List Fn), P 0 = [] ∧ K ≤ n ∧ (∀ k x, k < K → ls[k]? = some x → stepT (P k) (splitT 32 x) = some (P (k + 1))) ∧ ((K = n ∧ wholeT l = some (P n)) ∨ (K < n ∧ wholeT l = none ∧ ∃ x, ls[K]? = some x ∧ stepT (P K) (splitT 32 x) = none)) := by
      rcases foldT_cases ls [] with ⟨P, h0, h1, h2⟩ | ⟨K, P, x, h0, h1, h2, h3, h4⟩
      · exact ⟨n, P, h0, Nat.le_refl _, fun k x _ hx => h1 k x hx, .inl ⟨rfl, by unfold wholeT; rw [hli, hn]; exact h2⟩⟩
      · have := (List.getElem?_eq_some_iff.1 h1).1
        exact ⟨K, P, h0, by omega, h2, .inr ⟨by omega, by unfold wholeT; rw [hli]; exact h4, x, h1, h3⟩⟩
    have hsize : ∀ k, k ≤ K → SizeT (P k) k := by
      intro k
      induction k with
      | zero => intro _; rw [hP0]; exact ⟨by simp, fun f hf => by simp at hf⟩
      | succ k ih =>
        intro hk
        obtain ⟨x, hx⟩ : ∃ x, ls[k]? = some x := ⟨_, List.getElem?_eq_getElem (by omega)⟩
        exact stepT_size (hPs k x (by omega) hx) (ih (by omega))
    have HL0 : Hid (LoopT w w1 R w1.heap.size (P 0) w1 none 0 w1.heap.size ∧ R + 1 < w1.heap.size) := hide (by
      have h1 := lays_kept k1 (unhide HZ).2.1
      have h2 := lays_kept k1 (unhide HZ).2.2
      rw [hP0]
      exact ⟨⟨h1, h2, PrR.nil _ _ (Nat.le_refl _), KeptX.refl _ _, (unhide HZ).1.trans k1⟩, (Array.getElem?_eq_some_iff.1 h2).1⟩)
    have HPS := hide hPs
    have HEND := hide hend
    have HSZ := hide hsize
    have HLS := hide hls
    have HS := hide hs
    have HN := hide hn
    have hn8 : n ≤ 8193 := by omega
    have HR1 : Hid (w1.heap[R]? = some (.cells #[.slice none 0 0] 27)) := hide (lays_kept k1 (unhide HZ).2.1)
    clear k1 HZ hli HLI hs hn hls hsize hPs hend hP0
    go_wp2_with fail
    refine ((unhide HY) _).mono ?_
    rintro _ _ ⟨rfl, rfl⟩
    go_wp2_with fail
    go_loopw [18] (fun s18 wr => ∃ k : Nat, k ≤ K ∧ s18 = .int .i64 k ∧ Hid (∃ oa cap m, LoopT w w1 R w1.heap.size (P k) wr oa cap m)) (fun s18 _ => n - (intOf s18).toNat)
    case atStart => exact ⟨0, Nat.zero_le _, rfl, hide ⟨_, _, _, (unhide HL0).1⟩⟩
    case round =>
      obtain ⟨k, hkK, rfl, HW⟩ := hrel
      by_cases hk : k < n
      · obtain ⟨ov, cv, m, a1, a2, a3, a4, a5⟩ := unhide HW
        obtain ⟨x, hx⟩ : ∃ x, ls[k]? = some x := ⟨_, List.getElem?_eq_getElem (by rw [← unhide HN]; exact hk)⟩
        have hsw := (unhide HS).keptX (unhide HR1) ⟨_, _, _, rfl⟩ a4
        obtain ⟨oa', cap', e, _, hi⟩ := hsw
        simp only [Value.slice.injEq] at e
        obtain ⟨rfl, hq9, rfl⟩ := e
        clear hq9
        obtain ⟨bl, ol, rfl, c0⟩ := hi k x hx
        unfold strV at c0
        have hk0 : (0 : Int) ≤ (k : Int) := by omega
        have hk1 : (k : Int) < (n : Int) := by omega
        have hxl := (unhide HLS).2 x (List.mem_of_getElem? hx)
        have HOF := hide (of_any wr.drew x (by omega) ((unhide HE).kept (a5.drew)))
        obtain ⟨wd, r, hwd⟩ : ∃ wd r, splitT 32 x = wd :: r := by
          cases hq : splitT 32 x with
          | nil => exact absurd hq (splitT_ne 32 x)
          | cons wd r => exact ⟨wd, r, rfl⟩
        have HWD := hide hwd
        have HX := hide hx
        have hbR : R + 1 < w1.heap.size := (unhide HL0).2
        have HSA : Hid (wr.drew.cell? ⟨R, 0, none⟩ = some (.slice ov (P k).length cv)) := hide (cell_lays a1 0)
        have HA := hide (And.intro a1 (And.intro a2 (And.intro a3 (And.intro a4 a5))))
        have HXL := hide hxl
        have hsz := (unhide HSZ) k hkK
        have HSK := hide hsz
        generalize (ByteArray.mk x.toArray) = X at *
        generalize hpl : (P k).length = pl at *
        clear a1 a2 a3 a4 a5 hx hwd hi HW hxl hsz
        go_wp2_with fail
        refine wp_regionP 4 [0, 1] (fun u => u.cell? ⟨R, 0, none⟩ = some (.slice ov pl cv)) (by kernel_rfl) ?_
        have hHeld := unhide HSA
        refine takeP (v := ?_) (hQ := by intro _ a w h; exact leaves_tmps (res_put a 22 _ (by decide) (by decide)) _ _ _ h) hHeld (fun u hSu => ?_) ?_
        rotate_left
        · ((try dsimp only at hSu); go_simp) <;> with_reducible rfl
        try simp only [Act.put, List.setIfInBounds_toArray, List.set_cons_zero, List.set_cons_succ]
        refine takeP (v := ?_) (hQ := by intro _ a w h; exact leaves_tmps (res_put a 23 _ (by decide) (by decide)) _ _ _ h) hHeld (fun u hSu => ?_) ?_
        rotate_left
        · ((try dsimp only at hSu); go_simp) <;> with_reducible rfl
        try simp only [Act.put, List.setIfInBounds_toArray, List.set_cons_zero, List.set_cons_succ]
        refine takeP_end ?_
        refine takeT_one (i := 2) rfl (by kernel_rfl) (fun Kx hK => ?_)
        go_simp
        refine (unhide HOF).mono ?_
        rintro _ w3 ⟨g, nn, rfl, hnn, hs3, k3⟩
        rw [unhide HWD] at hnn hs3
        obtain ⟨a1, a2, a3, a4, a5⟩ := unhide HA
        have kw : Kept wr w3 := ((Kept.refl wr).drew).trans k3
        have HWL := hide (withLine_any w3 w1.heap.size m (.slice ov pl cv) _ (P k) wd r (by rw [← hpl]; rw [← hpl] at a3; exact a3.kept kw) (by have := (unhide HSK).1; omega) (fun f hf => by have := (unhide HSK).2 f hf; omega) hs3 (fun y hy => by
          have := splitT_len (c := 32) (l := x) (x := y) (by rw [unhide HWD]; exact hy)
          have := unhide HXL
          omega) ((unhide HE).kept (a5.trans kw)))
        have HB3 := hide (And.intro (lays_kept kw a1) (And.intro (lays_kept kw a2) (And.intro ((KeptX.of (B := R) kw) |> a4.trans) (a5.trans kw))))
        refine hK.out _ _ (fun _ => k3.cell hHeld) ?_
        clear hK Kx a1 a2 a3 a4 a5 kw k3 hs3 HOF hnn
        try simp only [Act.put, List.setIfInBounds_toArray, List.set_cons_zero, List.set_cons_succ]
        refine takeT_one (i := 3) rfl (by kernel_rfl) (fun Kx hK => ?_)
        go_simp
        refine (unhide HWL).mono ?_
        intro e w4 hpost
        unfold TLinePost at hpost
        rw [← unhide HWD] at hpost
        obtain ⟨b1, b2, b3, b4⟩ := unhide HB3
        have hRw := unhide HR
        by_cases hkk : k < K
        · rw [(unhide HPS) k x hkk (unhide HX)] at hpost
          obtain ⟨v', m', rfl, hpr, hbl⟩ := hpost
          obtain ⟨ov', cv', rfl⟩ : ∃ oa c, v' = .slice oa (P (k + 1)).length c := by
            obtain ⟨_, _, c, hr, _⟩ := hpr
            obtain ⟨oa, cp, e, _⟩ := rowT_at hr
            exact ⟨oa, cp, e⟩
          have r1 := (hbl.block R (by omega)).trans b1
          have r2 := (hbl.block (R + 1) hbR).trans b2
          have x0 := cell_lays r1 0
          have z0 := frozen_lays r1 0
          have HNX : Hid (∃ oa cap m, LoopT w w1 R w1.heap.size (P (k + 1)) (w4.setCell ⟨R, 0, none⟩ (.slice ov' (P (k + 1)).length cv')) oa cap m) := hide (by
            have hk4 : KeptX R w1 w4 := ⟨hbl.os.trans b3.os, hbl.tape.trans b3.tape, hbl.output.trans b3.output, Nat.le_trans b3.size hbl.size, fun j hj hne => (hbl.block j hj).trans (b3.block j hj hne)⟩
            have hw1 : w.heap.size ≤ w1.heap.size := by omega
            have hkw : Kept w w4 := ⟨hbl.os.trans b4.os, hbl.tape.trans b4.tape, hbl.output.trans b4.output, Nat.le_trans b4.size hbl.size, fun j hj => (hbl.block j (by omega)).trans (b4.block j hj)⟩
            refine ⟨ov', cv', m', by have := lays_set r1 0 (.slice ov' (P (k + 1)).length cv'); simpa using this, lays_other r2 (by simp) _, hpr.setR r1 (by omega), hk4.setCell (.inl rfl) _, hkw.setCell (p := ⟨R, 0, none⟩) hRw _⟩)
          generalize (P (k + 1)).length = pl' at *
          refine hK.out _ _ (fun _ => x0) ?_
          clear hK Kx hpr hbl r1 r2 b1 b2 b3 b4 HWL HB3
          try simp only [Act.put, List.setIfInBounds_toArray, List.set_cons_zero, List.set_cons_succ]
          refine takeT_one (i := 4) rfl (by kernel_rfl) (fun Kx hK => ?_)
          go_simp
          refine hK.out _ _ (fun h => absurd rfl h) ?_
          clear hK Kx
          try simp only [Act.put, List.setIfInBounds_toArray, List.set_cons_zero, List.set_cons_succ]
          refine takeT_done (by kernel_rfl) ?_ _
          clear x0 z0 hHeld c0
          go_wp2_with fail
          go_roundw
          case rel => exact ⟨k + 1, by omega, by go_num, HNX⟩
          case measure => simp [intOf]; omega
        · obtain rfl : k = K := by omega
          rcases unhide HEND with ⟨h0, _⟩ | ⟨_, hno, x', hx', hst⟩
          · omega
          · rw [unhide HX] at hx'
            cases hx'
            rw [hst] at hpost
            obtain ⟨rfl, hbl⟩ := hpost
            have r1 := (hbl.block R (by omega)).trans b1
            have r2 := (hbl.block (R + 1) hbR).trans b2
            have hw1 : w.heap.size ≤ w1.heap.size := by omega
            have hkw : Kept w w4 := ⟨hbl.os.trans b4.os, hbl.tape.trans b4.tape, hbl.output.trans b4.output, Nat.le_trans b4.size hbl.size, fun j hj => (hbl.block j (by omega)).trans (b4.block j hj)⟩
            have HNO := hide hno
            clear hK hst b1 b2 b3 b4 hbl HWL HB3 hno
            dsimp only [leftT]
            refine leaves_cons (f := 62) (args := #[.pointer (some ⟨R, 0, none⟩), .pointer (some ⟨R + 1, 0, none⟩)]) (by simp) (by simp [go_sem]) ?_
            refine (catchT R (R + 1) 0 1 _ [] _ r1 r2 (by omega)).mono ?_
            rintro e u' w'' ⟨rfl, rfl, h1, h2, h3⟩
            have t0 := cell_lays h1 0
            have t1 := cell_lays h2 0
            simp only [List.getElem?_toArray, List.getElem?_cons_zero] at t0 t1
            have hk := h3 w hkw hRw (by omega)
            simp [Leaves, settle, results, Tryz.results31, go_sem, t0, t1]
            unfold WholePost
            rw [unhide HNO]
            exact ⟨rfl, hk⟩
      · obtain ⟨h0, hwh⟩ : K = n ∧ wholeT l = some (P n) := by
          rcases unhide HEND with h | ⟨h0, _⟩
          · exact h
          · omega
        obtain rfl : k = n := by omega
        obtain ⟨ov, cv, m, a1, a2, a3, a4, a5⟩ := unhide HW
        have hRw := unhide HR
        have hbR : R + 1 < w1.heap.size := (unhide HL0).2
        have x0 := cell_lays a1 0
        have z0 := frozen_lays a1 0
        have x1 := cell_lays a2 0
        have z1 := frozen_lays a2 0
        have l1 := lays_set a1 0 (.slice ov (P k).length cv)
        have l2 := lays_other (a := ⟨R, 0, none⟩) a2 (by simp) (.slice ov (P k).length cv)
        have l3 := lays_other (a := ⟨R + 1, 0, none⟩) l1 (by simp) (.int .i64 0)
        have l4 := lays_set l2 0 (.int .i64 0)
        have y1 := cell_lays l2 0
        have f1 := frozen_lays l2 0
        have hpr : PrR w1.heap.size m ((wr.setCell ⟨R, 0, none⟩ (.slice ov (P k).length cv)).setCell ⟨R + 1, 0, none⟩ (.int .i64 0)) (.slice ov (P k).length cv) (P k) := (a3.setR a1 (by omega)).setE l2 hbR
        have HPR := hide hpr
        have HKF := hide ((a5.setCell (p := ⟨R, 0, none⟩) hRw (.slice ov (P k).length cv)).setCell (p := ⟨R + 1, 0, none⟩) (by show w.heap.size ≤ R + 1; omega) (.int .i64 0))
        have t0 := cell_lays l3 0
        have t1 := cell_lays l4 0
        simp only [List.setIfInBounds_toArray, List.set_cons_zero, List.getElem?_toArray, List.getElem?_cons_zero] at x0 x1 y1 t0 t1
        have HT := hide (And.intro t0 t1)
        have HWH := hide hwh
        have HB1 : Hid (w.heap.size ≤ w1.heap.size) := hide (by omega)
        generalize (P k).length = pl at *
        clear a1 a2 a3 a4 a5 l1 l2 l3 l4 t0 t1 HW hwh hpr
        go_wp2_with fail
        generalize (wr.setCell ⟨R, 0, none⟩ (.slice ov pl cv)).setCell ⟨R + 1, 0, none⟩ (.int .i64 0) = wy at *
        refine leaves_cons (f := 62) (args := #[.pointer (some ⟨R, 0, none⟩), .pointer (some ⟨R + 1, 0, none⟩)]) (by simp) (by simp [go_sem]) ?_
        refine (idleT R (R + 1) _).mono ?_
        rintro e u' w'' ⟨rfl, rfl, rfl⟩
        obtain ⟨t0, t1⟩ := unhide HT
        simp [Leaves, settle, results, Tryz.results31, go_sem, t0, t1]
        unfold WholePost
        rw [unhide HWH]
        exact ⟨_, _, m, rfl, unhide HB1, unhide HPR, unhide HKF⟩
theorem linesD_snoc (O : OpsD) (l : List UInt8) : ∀ (ls : List (List UInt8)) (s : St), linesD O s (ls ++ [l]) = ((ansD O (linesD O s ls).1 (splitT 32 l)).1, (linesD O s ls).2 ++ (Lib.join (ansD O (linesD O s ls).1 (splitT 32 l)).2 [32] ++ [10]))
  | [], s => by simp [linesD]
  | x :: ls, s => by
    have ih := linesD_snoc O l ls (ansD O s (splitT 32 x)).1
    simp only [List.cons_append, linesD]
    rw [ih]
    simp
theorem linesD_take (O : OpsD) (s : St) {ls : List (List UInt8)} {k : Nat} {l : List UInt8} (h : ls[k]? = some l) : linesD O s (ls.take (k + 1)) = ((ansD O (linesD O s (ls.take k)).1 (splitT 32 l)).1, (linesD O s (ls.take k)).2 ++ (Lib.join (ansD O (linesD O s (ls.take k)).1 (splitT 32 l)).2 [32] ++ [10])) := by
  rw [List.take_add_one, h]
  exact linesD_snoc O l _ s
structure PlayH (w : World) (p : List Fn) (O : OpsD) (Rg : St → Prop) : Prop where
  parts : ∀ u D vp s, Kept w u → w.heap.size ≤ D → ProgAt u vp p → DkAt u D vp s → Rg s → PartsD u D vp s O
  beg : ∀ u vp, Kept w u → ProgAt u vp p → Calls Tryz.prog 29 #[vp] u (StP O.beg [.int .i64 0] u)
  rbeg : Rg O.beg
  rans : ∀ s ws, Rg s → Rg (ansD O s ws).1
  iz : ∀ s ws z, Rg s → doD O s ws = .inr z → I64 z
  few : ∀ s ws, Rg s → (ansD O s ws).2.length ≤ 1000 ∧ (Lib.join (ansD O s ws).2 [32]).length ≤ 100000 ∧ 0 < (ansD O s ws).2.length
theorem StFar.zero (D : Nat) (w : World) : StFar D w (.agg #[.slice none 0 0, .int .i64 0, .slice none 0 0]) ⟨[], 0, []⟩ := fun _ _ => ⟨_, _, rfl, FibersAt.nil _, IntsW.nil _⟩
theorem writeD (w : World) (B b : Nat) (l t : List UInt8) (h : BuI B b (Lib.byteCells l) w) (hBw : B ≤ w.heap.size) (hl : l.length + t.length ≤ 100000000000) :
    Calls Tryz.prog 16 #[.pointer (some ⟨b, 0, none⟩), .string ⟨t.toArray⟩] w fun e w' => e = .returned (.tuple #[.int .i64 t.length, .nilIface]) ∧ BuI B b (Lib.byteCells (l ++ t)) w' ∧ Below B w w' ∧ BuK w w' := by
  have hs : (ByteArray.mk t.toArray).size = t.length := by simp [ByteArray.size]
  have := write_any w B b _ ⟨t.toArray⟩ h hBw (by rw [Lib.byteCells_length, hs]; omega)
  rw [hs, strCells_bytes, ← byteCells_app] at this
  exact this.mono fun e w' ⟨h1, h2, h3⟩ => ⟨h1, .inr h2, h3⟩
theorem BuI.x {w w' : World} {B b D : Nat} {bs : List Value} {c : Array Value} (h : BuI B b bs w) (hD : w.heap[D]? = some (.cells c 46)) (k : KeptX D w w') : BuI B b bs w' := by
  have hk : ∀ {g : Nat} {c' : Array Value} {t : TypeId}, t ≠ 46 → w.heap[g]? = some (.cells c' t) → w'.heap[g]? = some (.cells c' t) := fun {g c' t} ht hg => k.lays (fun q => by
    subst q
    rw [hD] at hg
    simp only [Option.some.injEq, Obj.cells.injEq] at hg
    exact ht hg.2.1.symm) hg
  have hr : ∀ {v : Value} {n : Nat} {xs : List Value}, w.ownsRow B 5 1 v n xs → w'.ownsRow B 5 1 v n xs := fun {v n xs} hr => by
    refine ⟨hr.1, ?_⟩
    rcases hr.2 with hn | ⟨g, cap, cur, rfl, hb, hgg, rest⟩
    · exact .inl hn
    · exact .inr ⟨g, cap, cur, rfl, hb, hk (by decide) hgg, rest⟩
  rcases h with ⟨hB, v, hb, hrow, hne⟩ | ⟨hB, v, hb, hrow, hne⟩
  · exact .inl ⟨hB, v, hk (by decide) hb, hr hrow, hne⟩
  · exact .inr ⟨hB, v, hk (by decide) hb, hr hrow, hne⟩
theorem play_ok (w : World) (S T : List UInt8) (p : List Fn) (O : OpsD) (Rg : St → Prop) (ls : List (List UInt8)) (hE : EnvT w) (hH : PlayH w p O Rg)
    (HRD : Hid (∀ u, Kept w u → Calls Tryz.prog 12 #[.string ⟨S.toArray⟩] u fun e w' => ∃ oa n cap, e = .returned (.tuple #[.slice oa n cap, .int .i64 0]) ∧ ProgAt w' (.slice oa n cap) p ∧ Kept u w'))
    (hT : T.length ≤ 8192) (hc : Lib.countByte T 10 ≤ 40) (hls : linesT T = some ls) :
    Calls Tryz.prog 5 #[.string ⟨S.toArray⟩, .string ⟨T.toArray⟩] w fun e w' => e = .returned (.tuple #[.string ⟨(linesD O O.beg ls).2.toArray⟩, .int .i64 0]) ∧ Kept w w' := by
  have HH := hide hH
  have HE := hide hE
  have hsz : (ByteArray.mk T.toArray).size = T.length := by simp [ByteArray.size]
  have hbig : ¬ (8192 : Int) < (T.length : Int) := by omega
  have HCN : Hid (∀ u, Calls Tryz.prog 13 #[.string ⟨T.toArray⟩, .string ⟨#[10]⟩] u fun e w' => e = .returned (.int .i64 (Lib.countByte T 10)) ∧ u = w') := hide fun u => by
    have := Tryz.strings_Count_one ⟨T.toArray⟩ 10 u
    exact this.mono fun e w' ⟨h1, h2⟩ => ⟨by simpa using h1, h2.symm⟩
  have hcb : ¬ (40 : Int) < Lib.countByte T 10 := by omega
  have HLI : Hid (∀ u, Kept w u → Calls Tryz.prog 14 #[.string ⟨T.toArray⟩] u fun e w' => ∃ oa n cap, e = .returned (.tuple #[.slice oa n cap, .bool true]) ∧ n = ls.length ∧ StrsW w' (.slice oa n cap) ls ∧ Kept u w') := hide fun u hu => by
    have := lines_any u T (by omega) (hE.kept hu)
    unfold LinesPost at this
    rw [hls] at this
    exact this
  have hlen := linesT_len hls hT
  have HLEN := hide hlen
  generalize (ByteArray.mk T.toArray) = TT at *
  generalize (ByteArray.mk S.toArray) = SS at *
  generalize T.length = tn at *
  generalize Lib.countByte T 10 = cn at *
  clear hE hH hls hlen hc hT
  go_enter Tryz.func5, Tryz.ntmps5
  go_wp2_with fail
  refine ((unhide HRD) w (Kept.refl w)).mono ?_
  rintro _ w1 ⟨oa, n, cap, rfl, hp, k1⟩
  have HP := hide hp
  have HK := hide k1
  clear hp k1 HRD
  go_wp2_with fail
  refine ((unhide HCN) _).mono ?_
  rintro _ _ ⟨rfl, rfl⟩
  go_wp2_with fail
  refine ((unhide HLI) _ (unhide HK)).mono ?_
  rintro _ w2 ⟨ol, nl, cl, rfl, hnl, hsl, k2⟩
  replace HP := hide ((unhide HP).kept k2)
  replace HK := hide ((unhide HK).trans k2)
  have HSL := hide hsl
  have HNL := hide hnl
  clear hsl k2 HCN HLI hnl
  go_wp2_with fail
  have kD := (Kept.refl w2).alloc (.cells #[.slice oa n cap, .slice none 0 0, .int .i64 0, .slice none 0 0] 46)
  have hdk : DkAt (w2.alloc (.cells #[.slice oa n cap, .slice none 0 0, .int .i64 0, .slice none 0 0] 46)) w2.heap.size (.slice oa n cap) ⟨[], 0, []⟩ := ⟨_, _, _, lays_new rfl, StFar.zero _ _⟩
  have HA := hide (dAgain _ _ _ _ O.beg hdk (hide fun u hu => (unhide HH).beg u _ ((unhide HK).trans (kD.trans hu)) ((unhide HP).kept (kD.trans hu))))
  have HKD := hide kD
  clear kD hdk
  refine (unhide HA).mono ?_
  rintro _ w3 ⟨v3, rfl, -, hd3, hx3⟩
  have HW2 := hide (KeptX.kept (unhide HKD) (Nat.le_refl _) hx3)
  have HD3 := hide hd3
  clear hd3 hx3 HA HKD
  generalize hDD : w2.heap.size = D at *
  have HDD := hide hDD
  clear hDD
  go_wp2_with fail
  obtain ⟨B, hB⟩ : ∃ r, r = w3.heap.size := ⟨_, rfl⟩
  have HB : Hid (B = w3.heap.size) := hide hB
  have H0 : Hid (Kept w2 (w3.alloc (.cells #[.pointer none, .slice none 0 0] 51)) ∧ DkAt (w3.alloc (.cells #[.pointer none, .slice none 0 0] 51)) D (.slice oa n cap) (linesD O O.beg (ls.take 0)).1 ∧ BuI B B (Lib.byteCells (linesD O O.beg (ls.take 0)).2) (w3.alloc (.cells #[.pointer none, .slice none 0 0] 51)) ∧ Rg (linesD O O.beg (ls.take 0)).1 ∧ B ≤ (w3.alloc (.cells #[.pointer none, .slice none 0 0] 51)).heap.size) := hide (by
    refine ⟨(unhide HW2).alloc _, (unhide HD3).kept ((Kept.refl w3).alloc _), ?_, (unhide HH).rbeg, ?_⟩
    · rw [hB]; exact BuI.new w3
    · rw [hB]; simp)
  have HBD : Hid (w2.heap.size ≤ B) := hide (by rw [hB]; exact (unhide HW2).size)
  rw [← hB]
  clear hB
  generalize w3.alloc (.cells #[.pointer none, .slice none 0 0] 51) = w4 at *
  have hnl8 : nl ≤ 8193 := by have := unhide HNL; have := (unhide HLEN).1; omega
  have HOUT : Hid (∀ k, k ≤ nl → Rg (linesD O O.beg (ls.take k)).1 ∧ (linesD O O.beg (ls.take k)).2.length ≤ k * 100001) := hide (fun k => by
    induction k with
    | zero => exact fun _ => ⟨(unhide HH).rbeg, by simp [linesD]⟩
    | succ k ih =>
      intro hk
      obtain ⟨h1, h2⟩ := ih (by omega)
      rw [linesD_take O O.beg (List.getElem?_eq_getElem (show k < ls.length by have := unhide HNL; omega))]
      refine ⟨(unhide HH).rans _ _ h1, ?_⟩
      have := ((unhide HH).few _ (splitT 32 ls[k]) h1).2.1
      simp only [List.length_append, List.length_cons, List.length_nil]
      omega)
  clear HD3
  go_loopw [44] (fun s44 wr => ∃ k : Nat, k ≤ nl ∧ s44 = .int .i64 (k : Int) ∧ Hid (Kept w2 wr ∧ DkAt wr D (.slice oa n cap) (linesD O O.beg (ls.take k)).1 ∧ BuI B B (Lib.byteCells (linesD O O.beg (ls.take k)).2) wr ∧ Rg (linesD O O.beg (ls.take k)).1 ∧ B ≤ wr.heap.size)) (fun s44 _ => nl - (intOf s44).toNat)
  case atStart => exact ⟨0, Nat.zero_le _, rfl, H0⟩
  case round =>
    obtain ⟨k, hkn, rfl, HW⟩ := hrel
    clear H0
    by_cases hk : k < nl
    · obtain ⟨l, hl⟩ : ∃ l, ls[k]? = some l := ⟨_, List.getElem?_eq_getElem (by have := unhide HNL; omega)⟩
      obtain ⟨oa', cap', e', _, hi⟩ := unhide HSL
      simp only [Value.slice.injEq] at e'
      obtain ⟨rfl, -, rfl⟩ := e'
      obtain ⟨b, o, rfl, hcell⟩ := hi k l hl
      replace hcell := (unhide HW).1.cell hcell
      unfold strV at hcell
      have hl8 := (unhide HLEN).2 l (List.mem_of_getElem? hl)
      have hk0 : (0 : Int) ≤ (k : Int) := by omega
      have hk1 : (k : Int) < (nl : Int) := by omega
      have HOF := hide (of_any wr l (by omega) ((unhide HE).kept ((unhide HK).trans (unhide HW).1)))
      have HL := hide hl
      have HL8 := hide hl8
      clear hi hl hl8
      generalize hLB : (ByteArray.mk l.toArray) = LB at *
      clear hLB
      go_wp2_with fail
      refine (unhide HOF).mono ?_
      rintro _ w5 ⟨g5, n5, rfl, -, hs5, k5⟩
      have hkw5 : Kept w2 w5 := (unhide HW).1.trans k5
      have hdk5 := (unhide HW).2.1.kept k5
      have hP5 : PartsD w5 D (.slice oa n cap) (linesD O O.beg (ls.take k)).1 O := (unhide HH).parts w5 D _ _ ((unhide HK).trans hkw5) (by rw [← unhide HDD]; exact (unhide HK).size) ((unhide HP).kept hkw5) hdk5 (unhide HW).2.2.2.1
      have hkx : ∀ u, KeptX D w5 u → Kept w2 u := fun u hu => KeptX.kept hkw5 (by rw [unhide HDD]; exact Nat.le_refl _) hu
      have HAN := hide (dAnswer w5 D _ _ O hP5 _ _ hs5 (fun x hx => by have := splitT_len hx; have := unhide HL8; omega) (fun z hz => (unhide HH).iz _ _ z (unhide HW).2.2.2.1 hz) (fun u hu => (unhide HE).tab.kept ((unhide HK).trans (hkx u hu))))
      have HKX := hide hkx
      have HBU5 := hide ((unhide HW).2.2.1.kept k5)
      have HDK5 := hide hdk5
      have HB5 : Hid (B ≤ w5.heap.size) := hide (Nat.le_trans (unhide HW).2.2.2.2 k5.size)
      clear hcell HOF hs5 k5 hkw5 hdk5 hP5 hkx
      go_wp2_with fail
      refine (unhide HAN).mono ?_
      rintro _ w6 ⟨v6, rfl, hr6, hd6, hx6⟩
      obtain ⟨hfew1, hfew2, hfew3⟩ := (unhide HH).few (linesD O O.beg (ls.take k)).1 (splitT 32 l) (unhide HW).2.2.2.1
      obtain ⟨g6, c6, rfl, hg6, hc6⟩ := hr6.cells
      obtain ⟨hg6a, hg6b⟩ := hg6 hfew3
      have HLN := hide (wLine_any w6 g6 c6 (ansD O (linesD O O.beg (ls.take k)).1 (splitT 32 l)).2 hg6b hc6 hg6a (by omega) hfew1)
      have hplD : w5.heap[D]? = some (.cells _ 46) := (unhide HDK5).choose_spec.choose_spec.choose_spec.1
      have HBU6 := hide ((unhide HBU5).x hplD hx6)
      have HDK6 := hide hd6
      have HKW6 := hide ((unhide HKX) w6 hx6)
      have HB6 : Hid (B ≤ w6.heap.size) := hide (Nat.le_trans (unhide HB5) hx6.size)
      have HF2 := hide hfew2
      clear hr6 hd6 hx6 hg6 hc6 hg6a hg6b hfew1 hfew2 hfew3 hplD HAN HBU5 HDK5 HB5 HKX
      generalize (ansD O (linesD O O.beg (ls.take k)).1 (splitT 32 l)).2.length = al at *
      go_wp2_with fail
      refine (unhide HLN).mono ?_
      rintro _ w7 ⟨rfl, k7⟩
      have ho := ((unhide HOUT) k (by omega)).2
      have ho2 : k * 100001 ≤ 8193 * 100001 := Nat.mul_le_mul_right _ (by omega)
      have HWR := hide (writeD w7 B B _ (Lib.join (ansD O (linesD O O.beg (ls.take k)).1 (splitT 32 l)).2 [32] ++ [10]) ((unhide HBU6).kept k7) (Nat.le_trans (unhide HB6) k7.size) (by have := unhide HF2; simp only [List.length_append, List.length_cons, List.length_nil]; omega))
      have HKW7 := hide ((unhide HKW6).trans k7)
      have HDK7 := hide ((unhide HDK6).kept k7)
      have HB7 : Hid (B ≤ w7.heap.size) := hide (Nat.le_trans (unhide HB6) k7.size)
      clear k7 HLN ho ho2 HF2 HBU6 HDK6 HKW6 HB6
      unfold strV
      generalize hLT : (ByteArray.mk (Lib.join (ansD O (linesD O O.beg (ls.take k)).1 (splitT 32 l)).2 [32] ++ [10]).toArray) = LT at *
      generalize (Lib.join (ansD O (linesD O O.beg (ls.take k)).1 (splitT 32 l)).2 [32] ++ [10]).length = ltn at *
      clear hLT
      go_wp2_with fail
      refine (unhide HWR).mono ?_
      rintro _ w8 ⟨rfl, b8, k8, bk8⟩
      have HNX : Hid (Kept w2 w8 ∧ DkAt w8 D (.slice oa n cap) (linesD O O.beg (ls.take (k + 1))).1 ∧ BuI B B (Lib.byteCells (linesD O O.beg (ls.take (k + 1))).2) w8 ∧ Rg (linesD O O.beg (ls.take (k + 1))).1 ∧ B ≤ w8.heap.size) := hide (by
        refine ⟨?_, ?_, ?_, ((unhide HOUT) (k + 1) (by omega)).1, Nat.le_trans (unhide HB7) k8.size⟩
        · have hk7 := unhide HKW7
          have hb := unhide HBD
          exact ⟨k8.os.trans hk7.os, k8.tape.trans hk7.tape, k8.output.trans hk7.output, Nat.le_trans hk7.size k8.size, fun j hj => (k8.block j (by omega)).trans (hk7.block j hj)⟩
        · rw [linesD_take O O.beg (unhide HL)]
          exact (unhide HDK7).odd fun b c t ht hb => bk8 b c t (fun e => ht (.inr (.inl e))) (fun e => ht (.inr (.inr e))) hb
        · rw [linesD_take O O.beg (unhide HL)]
          exact b8)
      clear b8 k8 bk8 HWR
      go_wp2_with fail
      go_roundw
      case rel => exact ⟨k + 1, by omega, by go_num, HNX⟩
      case measure => simp [intOf]; omega
    · obtain rfl : k = nl := by omega
      have hall : ls.take k = ls := List.take_of_length_le (by have := unhide HNL; omega)
      rw [hall] at HW
      have HST : Hid (Calls Tryz.prog 20 #[.pointer (some ⟨B, 0, none⟩)] wr fun e w' => e = .returned (.string ⟨(linesD O O.beg ls).2.toArray⟩) ∧ Below B wr w') := hide (Tryz.Builder_String_any B B _ wr (unhide HW).2.2.1 (unhide HW).2.2.2.2)
      have HKW := hide (unhide HW).1
      clear HW hall
      generalize hOT : (ByteArray.mk (linesD O O.beg ls).2.toArray) = OT at *
      go_wp2_with fail
      refine (unhide HST).mono ?_
      rintro _ w9 ⟨rfl, k9⟩
      have HK9 : Hid (Kept w w9) := hide (by
        have hk7 := unhide HKW
        have hb := unhide HBD
        exact (unhide HK).trans ⟨k9.os.trans hk7.os, k9.tape.trans hk7.tape, k9.output.trans hk7.output, Nat.le_trans hk7.size k9.size, fun j hj => (k9.block j (by omega)).trans (hk7.block j hj)⟩)
      clear k9 HST
      go_wp2_with fail
      go_ret2
      exact ⟨by rw [hOT]; rfl, unhide HK9⟩
def hgt (p : List Fn) (k : Nat) : List Int := (heightsS p (codeOf p k)).getD []
def hAt (p : List Fn) (x : Fr) : Int := (hgt p x.fn.toNat).getD x.at_.toNat 0
def opAhead (p : List Fn) (x : Fr) : Int × Int := (codeOf p x.fn.toNat).getD (x.at_.toNat - 1) (0, 0)
def frameB (p : List Fn) (x : Fr) : Bool :=
  ixB x.fn p.length && (decide ((x.locals.length : Int) = (p.getD x.fn.toNat Fn.zero).locals) && (ixB x.at_ (codeOf p x.fn.toNat).length && decide (0 ≤ hAt p x)))
def waitB (p : List Fn) (x : Fr) (kd ofn : Int) : Bool :=
  (!decide (x.at_ = 0) && decide ((x.stack.length : Int) = hAt p x - 1)) && (decide ((opAhead p x).1 = kd) && (!decide (kd = 11) || decide ((opAhead p x).2 = ofn)))
def zerosB (l : List Int) : Bool := l.all fun z => decide (z = 0)
def freshB (p : List Fn) (b : Fb) : Bool :=
  match b.frames with
  | [x] => (decide (x.at_ = 0) && (decide ((p.getD x.fn.toNat Fn.zero).args = 1) && decide (x.stack.length = 0))) && zerosB x.locals
  | _ => false
def framesB (p : List Fn) : List Fr → Bool
  | [] => true
  | [x] => frameB p x
  | x :: y :: r => frameB p x && (ixB y.fn p.length && waitB p x 11 y.fn) && framesB p (y :: r)
def fiberB (p : List Fn) (b : Fb) (on runs : Bool) : Bool :=
  match b.frames.getLast? with
  | none => !on && decide (b.caller = -1)
  | some t => framesB p b.frames &&
      (if runs = true then decide ((t.stack.length : Int) = hAt p t)
       else if on = true then waitB p t 14 0
       else decide (b.caller = -1) && (freshB p b || waitB p t 15 0))
def callerOf (fs : List Fb) (n : Int) : Int := (fs.getD n.toNat Fb.zero).caller
def lineF (fs : List Fb) : Nat → Int → List Int → Option (List Int)
  | 0, _, _ => none
  | k + 1, n, acc => if n < 0 then some acc else if n ∈ acc then none else lineF fs k (callerOf fs n) (acc ++ [n])
def lineS (s : St) : Option (List Int) :=
  match lineF s.fibers (s.fibers.length + 1) s.now [] with
  | none => none
  | some l => if l = [] ∨ l.getLast? = some 0 then some l else none
def limS (s : St) : Int :=
  if s.fibers.length ≤ 5 ∧ s.out.length ≤ 30 then
    if (s.fibers.all fun b => decide (b.frames.length ≤ 6)) = true then
      if 0 < s.fibers.length then
        if inB s.now (-1) (s.fibers.length - 1) = true then
          if (s.fibers.all fun b => inB b.caller (-1) (s.fibers.length - 1)) = true then 0 else 3
        else 3
      else 5
    else 2
  else 2
def formR (p : List Fn) (s : St) : Bool :=
  match lineS s with
  | none => false
  | some l => !(decide (s.now = -1) && !(s.fibers.getD 0 Fb.zero).frames.isEmpty) &&
      (List.range s.fibers.length).all fun k => fiberB p (s.fibers.getD k Fb.zero) (decide ((k : Int) ∈ l)) (decide ((k : Int) = s.now)) && !(decide (k = 0) && (!decide ((0 : Int) ∈ l) && !(s.fibers.getD 0 Fb.zero).frames.isEmpty))
def stErrS (p : List Fn) (s : St) : Int :=
  if progS p = 0 then (if limS s = 0 then (if formR p s = true then 0 else 1) else limS s) else progS p
def jwaitB (p : List Fn) (x : Fr) (op : Int × Int) : Bool :=
  (decide (0 < x.at_) && decide ((x.stack.length : Int) = hAt p x - 1)) && decide (opAhead p x = op)
def jwaitsB (p : List Fn) : List Fr → Bool
  | x :: y :: r => jwaitB p x (11, y.fn) && jwaitsB p (y :: r)
  | _ => true
def jlineF (fs : List Fb) : Nat → Int → List Bool → Option (List Bool)
  | 0, _, _ => none
  | k + 1, n, B => if n = -1 then some B else if B.getD n.toNat false = true ∨ (decide (callerOf fs n = -1)) ≠ (decide (n = 0)) then none else jlineF fs k (callerOf fs n) (B.set n.toNat true)
def jlineS (s : St) : Option (List Bool) :=
  match jlineF s.fibers (s.fibers.length + 1) s.now (List.replicate s.fibers.length false) with
  | none => none
  | some B => if ((List.range s.fibers.length).all fun k => B.getD k false || decide ((s.fibers.getD k Fb.zero).caller = -1)) = true then some B else none
def jfiberB (p : List Fn) (s : St) (n : Nat) (on : Bool) : Bool :=
  match (s.fibers.getD n Fb.zero).frames.getLast? with
  | none => !on
  | some t => (on || !decide (n = 0)) && ((!on && freshB p (s.fibers.getD n Fb.zero)) || (jwaitsB p (s.fibers.getD n Fb.zero).frames &&
      (if (n : Int) = s.now then decide ((t.stack.length : Int) = hAt p t) else if on = true then jwaitB p t (14, 0) else jwaitB p t (15, 0))))
def formJ (p : List Fn) (s : St) : Bool :=
  (s.fibers.all fun b => b.frames.all (frameB p)) &&
  match jlineS s with
  | none => false
  | some B => (List.range s.fibers.length).all fun n => jfiberB p s n (B.getD n false)
def judgeS (p : List Fn) (s : St) : Int := if limS s = 0 then (if formJ p s = true then 0 else 1) else limS s
end Go.Proofs.YtokhibfenccijaaGreatDoor
