/- TextN, OpA, OpE -/
import Derived.Test.YtjioipkfnekigaaGreatDoorTB06
import Derived.Test.YtjioipkfnekigaaGreatDoorChecked
import Derived.Test.YtjioipkfnekigaaGreatDoorTB01
import Derived.Laws.EntriesVeiled
set_option maxRecDepth 100000
set_option maxHeartbeats 8000000
namespace Go.Proofs.YtjioipkfnekigaaGreatDoor
open Go.RowKit Go.Maps
theorem StrsW.keptX {w w' : World} {R : Nat} {v : Value} {u : Value} {l : List (List UInt8)} (h : StrsW w v l) (hR : w.heap[R]? = some (.cells #[u] 22)) (hu : ∃ oa n c, u = .slice oa n c) (k : KeptX R w w') : StrsW w' v l := by
  obtain ⟨oa, cap, e, hn, hi⟩ := h
  refine ⟨oa, cap, e, hn, fun i x hx => ?_⟩
  obtain ⟨b, o, q1, q2⟩ := hi i x hx
  refine ⟨b, o, q1, k.cell (fun e => ?_) q2⟩
  simp only at e
  subst e
  rw [cell_lays hR] at q2
  obtain ⟨_, _, _, rfl⟩ := hu
  generalize o + i = j at q2
  cases j with
  | zero => simp [strV] at q2
  | succ j => simp at q2
theorem linesT_len {l : List UInt8} {ls : List (List UInt8)} (h : linesT l = some ls) (hl : l.length ≤ 8192) : ls.length ≤ 8193 ∧ ∀ x ∈ ls, x.length ≤ 8192 := by
  unfold linesT at h
  split at h
  · cases h; exact ⟨by simp, fun x hx => by simp at hx⟩
  · split at h
    · cases h
      refine ⟨?_, fun x hx => ?_⟩
      · rw [split_length]
        have := List.count_le_length (a := (10 : UInt8)) (l := l.dropLast)
        simp at this
        omega
      · have := splitT_len hx
        simp at this
        omega
    · cases h
theorem leaves_tmps {P : Program} {fn : Func} {R : Ending → World → Prop} {t t' : Array Value} (h : results fn t = results fn t') : ∀ (ds : List Deferred) (u : FrameMode) (w : World), Leaves P fn t R ds u w → Leaves P fn t' R ds u w
  | [], .returning, w, hl => by
    obtain ⟨v, h1, h2⟩ := hl
    exact ⟨v, by rw [← h]; exact h1, h2⟩
  | [], .panicking _, _, hl => hl
  | [], .run, _, hl => hl
  | d :: ds, u, w, hl => by
    obtain ⟨h0, fv, cap, f, args, h1, h2, h3⟩ := hl
    refine ⟨h0, fv, cap, f, args, h1, h2, h3.mono ?_⟩
    intro e u' w' hq
    cases e with
    | returned v => exact leaves_tmps h ds _ _ hq
    | panicked c => exact leaves_tmps h ds _ _ hq
    | outgrown => exact hq
theorem res_put (a : Act) (i : Nat) (v : Value) (h2 : i ≠ 2) (h3 : i ≠ 3) : results Tryz.f27 (a.put (some i) v).tmps = results Tryz.f27 a.tmps := by
  simp [results, Tryz.results27, Act.put, Array.getElem?_setIfInBounds_ne h2, Array.getElem?_setIfInBounds_ne h3]
theorem PrR.setR {b m R i : Nat} {w : World} {v u : Value} {p : List Fn} {d : Array Value} (h : PrR b m w v p) (hR : w.heap[R]? = some (.cells d 22)) (hb : R < b) : PrR b m (w.setCell ⟨R, i, none⟩ u) v p := by
  obtain ⟨h1, hm, c, hr, hc⟩ := h
  have hrow : ∀ {e : TypeId} {size n base : Nat} {v : Value} {xs : List Value}, b ≤ base → w.ownsRow base e size v n xs → (w.setCell ⟨R, i, none⟩ u).ownsRow base e size v n xs := fun {e size n base v xs} hbb hh => by
    obtain ⟨a1, hcase⟩ := hh
    refine ⟨a1, ?_⟩
    rcases hcase with hn | ⟨g', cap', cur', h0, a2, hh, a3⟩
    · exact .inl hn
    · exact .inr ⟨g', cap', cur', h0, a2, lays_other hh (by simp only; omega) _, a3⟩
  have st : StayT 44 w (w.setCell ⟨R, i, none⟩ u) := fun g c hg => lays_other hg (fun e => by
    simp only at e
    subst e
    rw [hR] at hg
    simp only [Option.some.injEq, Obj.cells.injEq] at hg
    exact absurd hg.2.1 (by decide)) _
  refine ⟨h1, by simpa [World.setCell] using hm, c, hrow (Nat.le_refl _) hr, fun j f hf => ?_⟩
  obtain ⟨cv, q1, q2, q3, q4, q5, q6⟩ := hc j f hf
  exact ⟨cv, q1, q2, q3, q4, fun hq => hrow h1 (q5 hq), fun hq => (q6 hq).stayT (Nat.le_refl _) (Nat.le_refl _) st⟩
theorem PrR.setE {b m R i : Nat} {w : World} {v u : Value} {p : List Fn} {d : Array Value} (h : PrR b m w v p) (hR : w.heap[R]? = some (.cells d 23)) (hb : R < b) : PrR b m (w.setCell ⟨R, i, none⟩ u) v p := by
  obtain ⟨h1, hm, c, hr, hc⟩ := h
  have hrow : ∀ {e : TypeId} {size n base : Nat} {v : Value} {xs : List Value}, b ≤ base → w.ownsRow base e size v n xs → (w.setCell ⟨R, i, none⟩ u).ownsRow base e size v n xs := fun {e size n base v xs} hbb hh => by
    obtain ⟨a1, hcase⟩ := hh
    refine ⟨a1, ?_⟩
    rcases hcase with hn | ⟨g', cap', cur', h0, a2, hh, a3⟩
    · exact .inl hn
    · exact .inr ⟨g', cap', cur', h0, a2, lays_other hh (by simp only; omega) _, a3⟩
  have st : StayT 44 w (w.setCell ⟨R, i, none⟩ u) := fun g c hg => lays_other hg (fun e => by
    simp only at e
    subst e
    rw [hR] at hg
    simp only [Option.some.injEq, Obj.cells.injEq] at hg
    exact absurd hg.2.1 (by decide)) _
  refine ⟨h1, by simpa [World.setCell] using hm, c, hrow (Nat.le_refl _) hr, fun j f hf => ?_⟩
  obtain ⟨cv, q1, q2, q3, q4, q5, q6⟩ := hc j f hf
  exact ⟨cv, q1, q2, q3, q4, fun hq => hrow h1 (q5 hq), fun hq => (q6 hq).stayT (Nat.le_refl _) (Nat.le_refl _) st⟩
def LoopT (w w1 : World) (R b : Nat) (p : List Fn) (wr : World) (oa : Option Addr) (cap m : Nat) : Prop :=
  wr.heap[R]? = some (.cells #[.slice oa p.length cap] 22) ∧ wr.heap[R + 1]? = some (.cells #[.int .i64 0] 23) ∧ PrR b m wr (.slice oa p.length cap) p ∧ KeptX R w1 wr ∧ Kept w wr
theorem whole_any (w : World) (l : List UInt8) (hl : l.length ≤ 8192) (he : EnvT w) : Calls Tryz.prog 27 #[.string ⟨l.toArray⟩] w (WholePost l w) := by
  have HLI : Hid (∀ u, Kept w u → Calls Tryz.prog 49 #[.string ⟨l.toArray⟩] u (LinesPost l u)) := hide fun u hu => lines_any u l (by omega) (he.kept hu)
  have HZ : Hid (Kept w ((w.alloc (.cells #[.slice none 0 0] 22)).alloc (.cells #[.int .i64 0] 23)) ∧ ((w.alloc (.cells #[.slice none 0 0] 22)).alloc (.cells #[.int .i64 0] 23)).heap[w.heap.size]? = some (.cells #[.slice none 0 0] 22) ∧ ((w.alloc (.cells #[.slice none 0 0] 22)).alloc (.cells #[.int .i64 0] 23)).heap[w.heap.size + 1]? = some (.cells #[.int .i64 0] 23)) := hide ⟨((Kept.refl w).alloc _).alloc _, lays_alloc (lays_new rfl) _, lays_new (by simp)⟩
  have HE := hide he
  have HY : Hid (∀ u, Calls Tryz.prog 50 #[.bool true] u fun e w' => e = .returned (.tuple #[]) ∧ u = w') := hide fun u => (ask_yes u).mono fun _ _ h => ⟨h.1, h.2.symm⟩
  have HO : Hid (∀ u, Calls Tryz.prog 50 #[.bool false] u fun e w' => e = leftT ∧ u = w') := hide fun u => (ask_no u).mono fun _ _ h => ⟨h.1, h.2.symm⟩
  generalize (ByteArray.mk l.toArray) = S at *
  clear he
  go_enter_defers Tryz.func27, Tryz.ntmps27
  go_wp2_with fail
  generalize (w.alloc (.cells #[.slice none 0 0] 22)).alloc (.cells #[.int .i64 0] 23) = w0 at *
  obtain ⟨R, hR⟩ : ∃ r, r = w.heap.size := ⟨_, rfl⟩
  have HR : Hid (w.heap.size ≤ R) := hide (by omega)
  rw [← hR] at HZ ⊢
  clear hR
  refine ((unhide HLI) w0 (unhide HZ).1).mono ?_
  intro e w1 hpost
  unfold LinesPost at hpost
  cases hli : linesT l with
  | none =>
    rw [hli] at hpost
    obtain ⟨rfl, k1⟩ := hpost
    have HK := hide (And.intro ((unhide HZ).1.trans k1) (And.intro (lays_kept k1 (unhide HZ).2.1) (lays_kept k1 (unhide HZ).2.2)))
    have HW : Hid (wholeT l = none) := hide (by unfold wholeT; rw [hli])
    clear k1 HZ hli HLI
    go_wp2_with fail
    refine ((unhide HO) _).mono ?_
    rintro _ _ ⟨rfl, rfl⟩
    dsimp only [leftT]
    go_wp2_with fail
    refine leaves_cons (f := 48) (args := #[.pointer (some ⟨R, 0, none⟩), .pointer (some ⟨R + 1, 0, none⟩)]) (by simp) (by simp [go_sem]) ?_
    refine (catchT R (R + 1) 0 1 _ [] _ (unhide HK).2.1 (unhide HK).2.2 (by omega)).mono ?_
    rintro e u' w'' ⟨rfl, rfl, h1, h2, h3⟩
    have t0 := cell_lays h1 0
    have t1 := cell_lays h2 0
    simp only [List.getElem?_toArray, List.getElem?_cons_zero] at t0 t1
    have hk := h3 w (unhide HK).1 (unhide HR) (by have := unhide HR; omega)
    simp [Leaves, settle, results, Tryz.results27, go_sem, t0, t1]
    unfold WholePost
    rw [unhide HW]
    exact ⟨rfl, hk⟩
  | some ls =>
    rw [hli] at hpost
    obtain ⟨oa, n, cap, rfl, hn, hs, k1⟩ := hpost
    have hls : ls.length ≤ 8193 ∧ ∀ x ∈ ls, x.length ≤ 8192 := linesT_len hli hl
    obtain ⟨K, P, hP0, hKn, hPs, hend⟩ : ∃ (K : Nat) (P : Nat → List Fn), P 0 = [] ∧ K ≤ n ∧ (∀ k x, k < K → ls[k]? = some x → stepT (P k) (splitT 32 x) = some (P (k + 1))) ∧ ((K = n ∧ wholeT l = some (P n)) ∨ (K < n ∧ wholeT l = none ∧ ∃ x, ls[K]? = some x ∧ stepT (P K) (splitT 32 x) = none)) := by
      rcases foldT_cases ls [] with ⟨P, h0, h1, h2⟩ | ⟨K, P, x, h0, h1, h2, h3, h4⟩
      · exact ⟨n, P, h0, Nat.le_refl _, fun k x _ hx => h1 k x hx, .inl ⟨rfl, by unfold wholeT; rw [hli, hn]; exact h2⟩⟩
      · have := (List.getElem?_eq_some_iff.1 h1).1
        exact ⟨K, P, h0, by omega, h2, .inr ⟨by omega, by unfold wholeT; rw [hli]; exact h4, x, h1, h3⟩⟩
    have hsize : ∀ k, k ≤ K → SizeT (P k) k := by
      intro k
      induction k with
      | zero => intro _; rw [hP0]; exact ⟨by simp, fun f hf => by simp at hf⟩
      | succ k ih =>
        intro hk
        obtain ⟨x, hx⟩ : ∃ x, ls[k]? = some x := ⟨_, List.getElem?_eq_getElem (by omega)⟩
        exact stepT_size (hPs k x (by omega) hx) (ih (by omega))
    have HL0 : Hid (LoopT w w1 R w1.heap.size (P 0) w1 none 0 w1.heap.size ∧ R + 1 < w1.heap.size) := hide (by
      have h1 := lays_kept k1 (unhide HZ).2.1
      have h2 := lays_kept k1 (unhide HZ).2.2
      rw [hP0]
      exact ⟨⟨h1, h2, PrR.nil _ _ (Nat.le_refl _), KeptX.refl _ _, (unhide HZ).1.trans k1⟩, (Array.getElem?_eq_some_iff.1 h2).1⟩)
    have HPS := hide hPs
    have HEND := hide hend
    have HSZ := hide hsize
    have HLS := hide hls
    have HS := hide hs
    have HN := hide hn
    have hn8 : n ≤ 8193 := by omega
    have HR1 : Hid (w1.heap[R]? = some (.cells #[.slice none 0 0] 22)) := hide (lays_kept k1 (unhide HZ).2.1)
    clear k1 HZ hli HLI hs hn hls hsize hPs hend hP0
    go_wp2_with fail
    refine ((unhide HY) _).mono ?_
    rintro _ _ ⟨rfl, rfl⟩
    go_wp2_with fail
    go_loopw [18] (fun s18 wr => ∃ k : Nat, k ≤ K ∧ s18 = .int .i64 k ∧ Hid (∃ oa cap m, LoopT w w1 R w1.heap.size (P k) wr oa cap m)) (fun s18 _ => n - (intOf s18).toNat)
    case atStart => exact ⟨0, Nat.zero_le _, rfl, hide ⟨_, _, _, (unhide HL0).1⟩⟩
    case round =>
      obtain ⟨k, hkK, rfl, HW⟩ := hrel
      by_cases hk : k < n
      · obtain ⟨ov, cv, m, a1, a2, a3, a4, a5⟩ := unhide HW
        obtain ⟨x, hx⟩ : ∃ x, ls[k]? = some x := ⟨_, List.getElem?_eq_getElem (by rw [← unhide HN]; exact hk)⟩
        have hsw := (unhide HS).keptX (unhide HR1) ⟨_, _, _, rfl⟩ a4
        obtain ⟨oa', cap', e, _, hi⟩ := hsw
        simp only [Value.slice.injEq] at e
        obtain ⟨rfl, hq9, rfl⟩ := e
        clear hq9
        obtain ⟨bl, ol, rfl, c0⟩ := hi k x hx
        unfold strV at c0
        have hk0 : (0 : Int) ≤ (k : Int) := by omega
        have hk1 : (k : Int) < (n : Int) := by omega
        have hxl := (unhide HLS).2 x (List.mem_of_getElem? hx)
        have HOF := hide (of_any wr.drew x (by omega) ((unhide HE).kept (a5.drew)))
        obtain ⟨wd, r, hwd⟩ : ∃ wd r, splitT 32 x = wd :: r := by
          cases hq : splitT 32 x with
          | nil => exact absurd hq (splitT_ne 32 x)
          | cons wd r => exact ⟨wd, r, rfl⟩
        have HWD := hide hwd
        have HX := hide hx
        have hbR : R + 1 < w1.heap.size := (unhide HL0).2
        have HSA : Hid (wr.drew.cell? ⟨R, 0, none⟩ = some (.slice ov (P k).length cv)) := hide (cell_lays a1 0)
        have HA := hide (And.intro a1 (And.intro a2 (And.intro a3 (And.intro a4 a5))))
        have HXL := hide hxl
        have hsz := (unhide HSZ) k hkK
        have HSK := hide hsz
        generalize (ByteArray.mk x.toArray) = X at *
        generalize hpl : (P k).length = pl at *
        clear a1 a2 a3 a4 a5 hx hwd hi HW hxl hsz
        go_wp2_with fail
        refine wp_regionP 4 [0, 1] (fun u => u.cell? ⟨R, 0, none⟩ = some (.slice ov pl cv)) (by kernel_rfl) ?_
        have hHeld := unhide HSA
        refine takeP (v := ?_) (hQ := by intro _ a w h; exact leaves_tmps (res_put a 22 _ (by decide) (by decide)) _ _ _ h) hHeld (fun u hSu => ?_) ?_
        rotate_left
        · ((try dsimp only at hSu); go_simp) <;> with_reducible rfl
        try simp only [Act.put, List.setIfInBounds_toArray, List.set_cons_zero, List.set_cons_succ]
        refine takeP (v := ?_) (hQ := by intro _ a w h; exact leaves_tmps (res_put a 23 _ (by decide) (by decide)) _ _ _ h) hHeld (fun u hSu => ?_) ?_
        rotate_left
        · ((try dsimp only at hSu); go_simp) <;> with_reducible rfl
        try simp only [Act.put, List.setIfInBounds_toArray, List.set_cons_zero, List.set_cons_succ]
        refine takeP_end ?_
        refine takeT_one (i := 2) rfl (by kernel_rfl) (fun Kx hK => ?_)
        go_simp
        refine (unhide HOF).mono ?_
        rintro _ w3 ⟨g, nn, rfl, hnn, hs3, k3⟩
        rw [unhide HWD] at hnn hs3
        obtain ⟨a1, a2, a3, a4, a5⟩ := unhide HA
        have kw : Kept wr w3 := ((Kept.refl wr).drew).trans k3
        have HWL := hide (withLine_any w3 w1.heap.size m (.slice ov pl cv) _ (P k) wd r (by rw [← hpl]; rw [← hpl] at a3; exact a3.kept kw) (by have := (unhide HSK).1; omega) (fun f hf => by have := (unhide HSK).2 f hf; omega) hs3 (fun y hy => by
          have := splitT_len (c := 32) (l := x) (x := y) (by rw [unhide HWD]; exact hy)
          have := unhide HXL
          omega) ((unhide HE).kept (a5.trans kw)))
        have HB3 := hide (And.intro (lays_kept kw a1) (And.intro (lays_kept kw a2) (And.intro ((KeptX.of (B := R) kw) |> a4.trans) (a5.trans kw))))
        refine hK.out _ _ (fun _ => k3.cell hHeld) ?_
        clear hK Kx a1 a2 a3 a4 a5 kw k3 hs3 HOF hnn
        try simp only [Act.put, List.setIfInBounds_toArray, List.set_cons_zero, List.set_cons_succ]
        refine takeT_one (i := 3) rfl (by kernel_rfl) (fun Kx hK => ?_)
        go_simp
        refine (unhide HWL).mono ?_
        intro e w4 hpost
        unfold LinePost at hpost
        rw [← unhide HWD] at hpost
        obtain ⟨b1, b2, b3, b4⟩ := unhide HB3
        have hRw := unhide HR
        by_cases hkk : k < K
        · rw [(unhide HPS) k x hkk (unhide HX)] at hpost
          obtain ⟨v', m', rfl, hpr, hbl⟩ := hpost
          obtain ⟨ov', cv', rfl⟩ : ∃ oa c, v' = .slice oa (P (k + 1)).length c := by
            obtain ⟨_, _, c, hr, _⟩ := hpr
            obtain ⟨oa, cp, e, _⟩ := rowT_at hr
            exact ⟨oa, cp, e⟩
          have r1 := (hbl.block R (by omega)).trans b1
          have r2 := (hbl.block (R + 1) hbR).trans b2
          have x0 := cell_lays r1 0
          have z0 := frozen_lays r1 0
          have HNX : Hid (∃ oa cap m, LoopT w w1 R w1.heap.size (P (k + 1)) (w4.setCell ⟨R, 0, none⟩ (.slice ov' (P (k + 1)).length cv')) oa cap m) := hide (by
            have hk4 : KeptX R w1 w4 := ⟨hbl.os.trans b3.os, hbl.tape.trans b3.tape, hbl.output.trans b3.output, Nat.le_trans b3.size hbl.size, fun j hj hne => (hbl.block j hj).trans (b3.block j hj hne)⟩
            have hw1 : w.heap.size ≤ w1.heap.size := by omega
            have hkw : Kept w w4 := ⟨hbl.os.trans b4.os, hbl.tape.trans b4.tape, hbl.output.trans b4.output, Nat.le_trans b4.size hbl.size, fun j hj => (hbl.block j (by omega)).trans (b4.block j hj)⟩
            refine ⟨ov', cv', m', by have := lays_set r1 0 (.slice ov' (P (k + 1)).length cv'); simpa using this, lays_other r2 (by simp) _, hpr.setR r1 (by omega), hk4.setCell (.inl rfl) _, hkw.setCell (p := ⟨R, 0, none⟩) hRw _⟩)
          generalize (P (k + 1)).length = pl' at *
          refine hK.out _ _ (fun _ => x0) ?_
          clear hK Kx hpr hbl r1 r2 b1 b2 b3 b4 HWL HB3
          try simp only [Act.put, List.setIfInBounds_toArray, List.set_cons_zero, List.set_cons_succ]
          refine takeT_one (i := 4) rfl (by kernel_rfl) (fun Kx hK => ?_)
          go_simp
          refine hK.out _ _ (fun h => absurd rfl h) ?_
          clear hK Kx
          try simp only [Act.put, List.setIfInBounds_toArray, List.set_cons_zero, List.set_cons_succ]
          refine takeT_done (by kernel_rfl) ?_ _
          clear x0 z0 hHeld c0
          go_wp2_with fail
          go_roundw
          case rel => exact ⟨k + 1, by omega, by go_num, HNX⟩
          case measure => simp [intOf]; omega
        · obtain rfl : k = K := by omega
          rcases unhide HEND with ⟨h0, _⟩ | ⟨_, hno, x', hx', hst⟩
          · omega
          · rw [unhide HX] at hx'
            cases hx'
            rw [hst] at hpost
            obtain ⟨rfl, hbl⟩ := hpost
            have r1 := (hbl.block R (by omega)).trans b1
            have r2 := (hbl.block (R + 1) hbR).trans b2
            have hw1 : w.heap.size ≤ w1.heap.size := by omega
            have hkw : Kept w w4 := ⟨hbl.os.trans b4.os, hbl.tape.trans b4.tape, hbl.output.trans b4.output, Nat.le_trans b4.size hbl.size, fun j hj => (hbl.block j (by omega)).trans (b4.block j hj)⟩
            have HNO := hide hno
            clear hK hst b1 b2 b3 b4 hbl HWL HB3 hno
            dsimp only [leftT]
            refine leaves_cons (f := 48) (args := #[.pointer (some ⟨R, 0, none⟩), .pointer (some ⟨R + 1, 0, none⟩)]) (by simp) (by simp [go_sem]) ?_
            refine (catchT R (R + 1) 0 1 _ [] _ r1 r2 (by omega)).mono ?_
            rintro e u' w'' ⟨rfl, rfl, h1, h2, h3⟩
            have t0 := cell_lays h1 0
            have t1 := cell_lays h2 0
            simp only [List.getElem?_toArray, List.getElem?_cons_zero] at t0 t1
            have hk := h3 w hkw hRw (by omega)
            simp [Leaves, settle, results, Tryz.results27, go_sem, t0, t1]
            unfold WholePost
            rw [unhide HNO]
            exact ⟨rfl, hk⟩
      · obtain ⟨h0, hwh⟩ : K = n ∧ wholeT l = some (P n) := by
          rcases unhide HEND with h | ⟨h0, _⟩
          · exact h
          · omega
        obtain rfl : k = n := by omega
        obtain ⟨ov, cv, m, a1, a2, a3, a4, a5⟩ := unhide HW
        have hRw := unhide HR
        have hbR : R + 1 < w1.heap.size := (unhide HL0).2
        have x0 := cell_lays a1 0
        have z0 := frozen_lays a1 0
        have x1 := cell_lays a2 0
        have z1 := frozen_lays a2 0
        have l1 := lays_set a1 0 (.slice ov (P k).length cv)
        have l2 := lays_other (a := ⟨R, 0, none⟩) a2 (by simp) (.slice ov (P k).length cv)
        have l3 := lays_other (a := ⟨R + 1, 0, none⟩) l1 (by simp) (.int .i64 0)
        have l4 := lays_set l2 0 (.int .i64 0)
        have y1 := cell_lays l2 0
        have f1 := frozen_lays l2 0
        have hpr : PrR w1.heap.size m ((wr.setCell ⟨R, 0, none⟩ (.slice ov (P k).length cv)).setCell ⟨R + 1, 0, none⟩ (.int .i64 0)) (.slice ov (P k).length cv) (P k) := (a3.setR a1 (by omega)).setE l2 hbR
        have HPR := hide hpr
        have HKF := hide ((a5.setCell (p := ⟨R, 0, none⟩) hRw (.slice ov (P k).length cv)).setCell (p := ⟨R + 1, 0, none⟩) (by show w.heap.size ≤ R + 1; omega) (.int .i64 0))
        have t0 := cell_lays l3 0
        have t1 := cell_lays l4 0
        simp only [List.setIfInBounds_toArray, List.set_cons_zero, List.getElem?_toArray, List.getElem?_cons_zero] at x0 x1 y1 t0 t1
        have HT := hide (And.intro t0 t1)
        have HWH := hide hwh
        have HB1 : Hid (w.heap.size ≤ w1.heap.size) := hide (by omega)
        generalize (P k).length = pl at *
        clear a1 a2 a3 a4 a5 l1 l2 l3 l4 t0 t1 HW hwh hpr
        go_wp2_with fail
        generalize (wr.setCell ⟨R, 0, none⟩ (.slice ov pl cv)).setCell ⟨R + 1, 0, none⟩ (.int .i64 0) = wy at *
        refine leaves_cons (f := 48) (args := #[.pointer (some ⟨R, 0, none⟩), .pointer (some ⟨R + 1, 0, none⟩)]) (by simp) (by simp [go_sem]) ?_
        refine (idleT R (R + 1) _).mono ?_
        rintro e u' w'' ⟨rfl, rfl, rfl⟩
        obtain ⟨t0, t1⟩ := unhide HT
        simp [Leaves, settle, results, Tryz.results27, go_sem, t0, t1]
        unfold WholePost
        rw [unhide HWH]
        exact ⟨_, _, m, rfl, unhide HB1, unhide HPR, unhide HKF⟩
open Go.RowKit
theorem isIndex_any (i n : Int) (w : World) :
    Calls Tryz.prog 58 #[.int .i64 i, .int .i64 n] w fun e w' => e = .returned (.bool (ixB i n)) ∧ w = w' := by
  by_cases h1 : 0 ≤ i
  · by_cases h2 : i < n
    · rw [ixB_true h1 h2]
      go_enter Tryz.func58, Tryz.ntmps58
      go_wp2
      go_ret
      exact ⟨rfl, rfl⟩
    · rw [ixB_false (by omega)]
      go_enter Tryz.func58, Tryz.ntmps58
      go_wp2
      go_ret
      exact ⟨rfl, rfl⟩
  · rw [ixB_false (by omega)]
    go_enter Tryz.func58, Tryz.ntmps58
    go_wp2
    go_ret
    exact ⟨rfl, rfl⟩
theorem hasRoom_any (a l : Int) (c : Value) (w : World) :
    Calls Tryz.prog 59 #[.agg #[.int .i64 a, .int .i64 l, c]] w fun e w' => e = .returned (.bool (roomB a l)) ∧ w' = w.alloc (.cells #[.int .i64 a, .int .i64 l, c] 42) := by
  by_cases h1 : 0 ≤ a
  · by_cases h2 : a ≤ l
    · by_cases h3 : l ≤ 4
      · rw [show roomB a l = true from by rw [roomB_iff]; exact ⟨h1, h2, h3⟩]
        go_enter Tryz.func59, Tryz.ntmps59
        go_wp2
        go_ret
        exact ⟨rfl, rfl⟩
      · rw [show roomB a l = false from by rw [← Bool.not_eq_true, roomB_iff]; omega]
        go_enter Tryz.func59, Tryz.ntmps59
        go_wp2
        go_ret
        exact ⟨rfl, rfl⟩
    · rw [show roomB a l = false from by rw [← Bool.not_eq_true, roomB_iff]; omega]
      go_enter Tryz.func59, Tryz.ntmps59
      go_wp2
      go_ret
      exact ⟨rfl, rfl⟩
  · rw [show roomB a l = false from by rw [← Bool.not_eq_true, roomB_iff]; omega]
    go_enter Tryz.func59, Tryz.ntmps59
    go_wp2
    go_ret
    exact ⟨rfl, rfl⟩
theorem may0_any (a : Int) (w : World) :
    Calls Tryz.prog 74 #[.int .i64 a] w fun e w' => e = .returned (.bool (a == 0)) ∧ w' = w := by
  go_enter Tryz.func74, Tryz.ntmps74
  go_wp2
  go_ret
  exact ⟨rfl, rfl⟩
theorem may1_any (a : Int) (w : World) :
    Calls Tryz.prog 75 #[.int .i64 a] w fun e w' => e = .returned (.bool (inB a 0 999)) ∧ w' = w := by
  by_cases h1 : 0 ≤ a
  · by_cases h2 : a ≤ 999
    · rw [inB_true h1 h2]
      go_enter Tryz.func75, Tryz.ntmps75
      go_wp2
      go_ret
      exact ⟨rfl, rfl⟩
    · rw [inB_false (by omega)]
      go_enter Tryz.func75, Tryz.ntmps75
      go_wp2
      go_ret
      exact ⟨rfl, rfl⟩
  · rw [inB_false (by omega)]
    go_enter Tryz.func75, Tryz.ntmps75
    go_wp2
    go_ret
    exact ⟨rfl, rfl⟩
theorem may2_any (a l : Int) (B : Nat) (w : World) (h : w.cell? ⟨B, 1, none⟩ = some (.int .i64 l)) :
    Calls Tryz.prog 76 #[.int .i64 a, .pointer (some ⟨B, 0, none⟩)] w fun e w' => e = .returned (.bool (ixB a l)) ∧ w' = w := by
  go_enter Tryz.func76, Tryz.ntmps76
  go_wp2_with (go_at_call 58; refine (isIndex_any _ _ _).mono ?_; rintro e w' ⟨rfl, rfl⟩)
  go_ret
  exact ⟨rfl, rfl⟩
theorem may3_any (a : Int) (B : Nat) (oa : Option Addr) (n cap : Nat) (w : World) (h : w.cell? ⟨B, 2, none⟩ = some (.slice oa n cap)) :
    Calls Tryz.prog 77 #[.int .i64 a, .pointer (some ⟨B, 0, none⟩)] w fun e w' => e = .returned (.bool (ixB a n)) ∧ w' = w := by
  go_enter Tryz.func77, Tryz.ntmps77
  go_wp2_with (go_at_call 58; refine (isIndex_any _ _ _).mono ?_; rintro e w' ⟨rfl, rfl⟩)
  go_ret
  exact ⟨rfl, rfl⟩
theorem may4_no (a : Int) (B : Nat) (oa : Option Addr) (n cap : Nat) (w : World) (h : w.cell? ⟨B, 0, none⟩ = some (.slice oa n cap)) (ha : ixB a n = false) :
    Calls Tryz.prog 78 #[.int .i64 a, .pointer (some ⟨B, 0, none⟩)] w fun e w' => e = .returned (.bool false) ∧ w' = w := by
  go_enter Tryz.func78, Tryz.ntmps78
  go_wp2_with (go_at_call 58; refine (isIndex_any _ _ _).mono ?_; rintro e w' ⟨rfl, rfl⟩)
  go_ret
  exact ⟨rfl, rfl⟩
theorem may4_yes (i B b o n cap : Nat) (ar lo : Int) (cv : Value) (w : World) (h : w.cell? ⟨B, 0, none⟩ = some (.slice (some ⟨b, o, none⟩) n cap)) (hi : i < n)
    (c0 : w.cell? ⟨b, o + i * 3, none⟩ = some (.int .i64 ar)) (c1 : w.cell? ⟨b, o + i * 3 + 1, none⟩ = some (.int .i64 lo)) (c2 : w.cell? ⟨b, o + i * 3 + 2, none⟩ = some cv) :
    Calls Tryz.prog 78 #[.int .i64 i, .pointer (some ⟨B, 0, none⟩)] w fun e w' => e = .returned (.bool (roomB ar lo)) ∧ Kept w w' := by
  have ha : ixB i n = true := ixB_true (by omega) (by omega)
  go_enter Tryz.func78, Tryz.ntmps78
  go_wp2_with (first | (go_at_call 58; refine (isIndex_any _ _ _).mono ?_; rintro e w' ⟨rfl, rfl⟩) | (go_at_call 59; refine (hasRoom_any _ _ _ _).mono ?_; rintro e w' ⟨rfl, rfl⟩))
  go_ret
  exact ⟨rfl, (Kept.refl _).alloc _⟩
theorem may4_any (p : List Fn) (v : Value) (a : Int) (B : Nat) (w : World) (h : w.cell? ⟨B, 0, none⟩ = some v) (hp : ProgAt w v p) :
    Calls Tryz.prog 78 #[.int .i64 a, .pointer (some ⟨B, 0, none⟩)] w fun e w' => e = .returned (.bool (ixB a p.length && roomB (p.getD a.toNat Fn.zero).args (p.getD a.toNat Fn.zero).locals)) ∧ Kept w w' := by
  obtain ⟨oa, cap, rfl, hl, hi⟩ := hp
  by_cases ha : 0 ≤ a ∧ a < p.length
  · obtain ⟨i, rfl⟩ := Int.eq_ofNat_of_zero_le ha.1
    obtain ⟨b, o, cv, rfl, c0, c1, c2, _⟩ := hi i _ (getD_of_lt p i Fn.zero (by omega))
    rw [Int.toNat_natCast, ixB_true ha.1 ha.2, Bool.true_and]
    exact may4_yes i B b o p.length cap _ _ cv w h (by omega) c0 c1 c2
  · rw [ixB_false ha, Bool.false_and]
    exact (may4_no a B oa p.length cap w h (ixB_false ha)).mono fun e w' ⟨h1, h2⟩ => ⟨h1, h2 ▸ Kept.refl _⟩
def mayV (Bp Bf : Nat) : Value := .agg #[.func (.func 74) #[] #[], .func (.func 75) #[] #[], .func (.func 76) #[] #[.pointer (some ⟨Bf, 0, none⟩)], .func (.func 77) #[] #[.pointer (some ⟨Bf, 0, none⟩)], .func (.func 78) #[] #[.pointer (some ⟨Bp, 0, none⟩)]]
theorem bounds_any (oa : Option Addr) (n cap : Nat) (ar lo : Int) (oc : Option Addr) (m cc : Nat) (w : World) :
    Calls Tryz.prog 60 #[.slice oa n cap, .agg #[.int .i64 ar, .int .i64 lo, .slice oc m cc]] w fun e w' => ∃ Bp Bf, e = .returned (mayV Bp Bf) ∧ w'.cell? ⟨Bp, 0, none⟩ = some (.slice oa n cap) ∧ w'.cell? ⟨Bf, 1, none⟩ = some (.int .i64 lo) ∧ w'.cell? ⟨Bf, 2, none⟩ = some (.slice oc m cc) ∧ Kept w w' := by
  go_enter Tryz.func60, Tryz.ntmps60
  go_wp2
  refine bodyPost_ret (v := mayV w.heap.size (w.heap.size + 1)) (by simp [results, Tryz.results60, go_sem, mayV]) rfl ⟨w.heap.size, w.heap.size + 1, rfl, ?_, ?_, ?_, ?_⟩
  · exact cell_lays (lays_alloc (lays_alloc (lays_new rfl) _) _) 0
  · exact cell_lays (lays_alloc (lays_new (by simp)) _) 1
  · exact cell_lays (lays_alloc (lays_new (by simp)) _) 2
  · exact (((Kept.refl _).alloc _).alloc _).alloc _
end Go.Proofs.YtjioipkfnekigaaGreatDoor
