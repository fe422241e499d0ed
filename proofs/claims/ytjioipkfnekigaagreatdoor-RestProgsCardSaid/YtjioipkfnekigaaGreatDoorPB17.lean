/- TextN, ProgA, TextO, TextP -/
import Derived.Test.YtjioipkfnekigaaGreatDoorPB16
import Derived.Test.YtjioipkfnekigaaGreatDoorPB12
import Derived.Test.YtjioipkfnekigaaGreatDoorPB02
set_option maxRecDepth 100000
set_option maxHeartbeats 8000000
namespace Go.Proofs.YtjioipkfnekigaaGreatDoor
open Go.RowKit Go.Maps
theorem StrsW.keptX {w w' : World} {R : Nat} {v : Value} {u : Value} {l : List (List UInt8)} (h : StrsW w v l) (hR : w.heap[R]? = some (.cells #[u] 22)) (hu : ∃ oa n c, u = .slice oa n c) (k : KeptX R w w') : StrsW w' v l := by
  obtain ⟨oa, cap, e, hn, hi⟩ := h
  refine ⟨oa, cap, e, hn, fun i x hx => ?_⟩
  obtain ⟨b, o, q1, q2⟩ := hi i x hx
  refine ⟨b, o, q1, k.cell (fun e => ?_) q2⟩
  simp only at e
  subst e
  rw [cell_lays hR] at q2
  obtain ⟨_, _, _, rfl⟩ := hu
  generalize o + i = j at q2
  cases j with
  | zero => simp [strV] at q2
  | succ j => simp at q2
theorem linesT_len {l : List UInt8} {ls : List (List UInt8)} (h : linesT l = some ls) (hl : l.length ≤ 8192) : ls.length ≤ 8193 ∧ ∀ x ∈ ls, x.length ≤ 8192 := by
  unfold linesT at h
  split at h
  · cases h; exact ⟨by simp, fun x hx => by simp at hx⟩
  · split at h
    · cases h
      refine ⟨?_, fun x hx => ?_⟩
      · rw [split_length]
        have := List.count_le_length (a := (10 : UInt8)) (l := l.dropLast)
        simp at this
        omega
      · have := splitT_len hx
        simp at this
        omega
    · cases h
theorem leaves_tmps {P : Program} {fn : Func} {R : Ending → World → Prop} {t t' : Array Value} (h : results fn t = results fn t') : ∀ (ds : List Deferred) (u : FrameMode) (w : World), Leaves P fn t R ds u w → Leaves P fn t' R ds u w
  | [], .returning, w, hl => by
    obtain ⟨v, h1, h2⟩ := hl
    exact ⟨v, by rw [← h]; exact h1, h2⟩
  | [], .panicking _, _, hl => hl
  | [], .run, _, hl => hl
  | d :: ds, u, w, hl => by
    obtain ⟨h0, fv, cap, f, args, h1, h2, h3⟩ := hl
    refine ⟨h0, fv, cap, f, args, h1, h2, h3.mono ?_⟩
    intro e u' w' hq
    cases e with
    | returned v => exact leaves_tmps h ds _ _ hq
    | panicked c => exact leaves_tmps h ds _ _ hq
    | outgrown => exact hq
theorem res_put (a : Act) (i : Nat) (v : Value) (h2 : i ≠ 2) (h3 : i ≠ 3) : results Tryz.f27 (a.put (some i) v).tmps = results Tryz.f27 a.tmps := by
  simp [results, Tryz.results27, Act.put, Array.getElem?_setIfInBounds_ne h2, Array.getElem?_setIfInBounds_ne h3]
theorem PrR.setR {b m R i : Nat} {w : World} {v u : Value} {p : List Fn} {d : Array Value} (h : PrR b m w v p) (hR : w.heap[R]? = some (.cells d 22)) (hb : R < b) : PrR b m (w.setCell ⟨R, i, none⟩ u) v p := by
  obtain ⟨h1, hm, c, hr, hc⟩ := h
  have hrow : ∀ {e : TypeId} {size n base : Nat} {v : Value} {xs : List Value}, b ≤ base → w.ownsRow base e size v n xs → (w.setCell ⟨R, i, none⟩ u).ownsRow base e size v n xs := fun {e size n base v xs} hbb hh => by
    obtain ⟨a1, hcase⟩ := hh
    refine ⟨a1, ?_⟩
    rcases hcase with hn | ⟨g', cap', cur', h0, a2, hh, a3⟩
    · exact .inl hn
    · exact .inr ⟨g', cap', cur', h0, a2, lays_other hh (by simp only; omega) _, a3⟩
  have st : StayT 44 w (w.setCell ⟨R, i, none⟩ u) := fun g c hg => lays_other hg (fun e => by
    simp only at e
    subst e
    rw [hR] at hg
    simp only [Option.some.injEq, Obj.cells.injEq] at hg
    exact absurd hg.2.1 (by decide)) _
  refine ⟨h1, by simpa [World.setCell] using hm, c, hrow (Nat.le_refl _) hr, fun j f hf => ?_⟩
  obtain ⟨cv, q1, q2, q3, q4, q5, q6⟩ := hc j f hf
  exact ⟨cv, q1, q2, q3, q4, fun hq => hrow h1 (q5 hq), fun hq => (q6 hq).stayT (Nat.le_refl _) (Nat.le_refl _) st⟩
theorem PrR.setE {b m R i : Nat} {w : World} {v u : Value} {p : List Fn} {d : Array Value} (h : PrR b m w v p) (hR : w.heap[R]? = some (.cells d 23)) (hb : R < b) : PrR b m (w.setCell ⟨R, i, none⟩ u) v p := by
  obtain ⟨h1, hm, c, hr, hc⟩ := h
  have hrow : ∀ {e : TypeId} {size n base : Nat} {v : Value} {xs : List Value}, b ≤ base → w.ownsRow base e size v n xs → (w.setCell ⟨R, i, none⟩ u).ownsRow base e size v n xs := fun {e size n base v xs} hbb hh => by
    obtain ⟨a1, hcase⟩ := hh
    refine ⟨a1, ?_⟩
    rcases hcase with hn | ⟨g', cap', cur', h0, a2, hh, a3⟩
    · exact .inl hn
    · exact .inr ⟨g', cap', cur', h0, a2, lays_other hh (by simp only; omega) _, a3⟩
  have st : StayT 44 w (w.setCell ⟨R, i, none⟩ u) := fun g c hg => lays_other hg (fun e => by
    simp only at e
    subst e
    rw [hR] at hg
    simp only [Option.some.injEq, Obj.cells.injEq] at hg
    exact absurd hg.2.1 (by decide)) _
  refine ⟨h1, by simpa [World.setCell] using hm, c, hrow (Nat.le_refl _) hr, fun j f hf => ?_⟩
  obtain ⟨cv, q1, q2, q3, q4, q5, q6⟩ := hc j f hf
  exact ⟨cv, q1, q2, q3, q4, fun hq => hrow h1 (q5 hq), fun hq => (q6 hq).stayT (Nat.le_refl _) (Nat.le_refl _) st⟩
def LoopT (w w1 : World) (R b : Nat) (p : List Fn) (wr : World) (oa : Option Addr) (cap m : Nat) : Prop :=
  wr.heap[R]? = some (.cells #[.slice oa p.length cap] 22) ∧ wr.heap[R + 1]? = some (.cells #[.int .i64 0] 23) ∧ PrR b m wr (.slice oa p.length cap) p ∧ KeptX R w1 wr ∧ Kept w wr
theorem whole_any (w : World) (l : List UInt8) (hl : l.length ≤ 8192) (he : EnvT w) : Calls Tryz.prog 27 #[.string ⟨l.toArray⟩] w (WholePost l w) := by
  have HLI : Hid (∀ u, Kept w u → Calls Tryz.prog 49 #[.string ⟨l.toArray⟩] u (LinesPost l u)) := hide fun u hu => lines_any u l (by omega) (he.kept hu)
  have HZ : Hid (Kept w ((w.alloc (.cells #[.slice none 0 0] 22)).alloc (.cells #[.int .i64 0] 23)) ∧ ((w.alloc (.cells #[.slice none 0 0] 22)).alloc (.cells #[.int .i64 0] 23)).heap[w.heap.size]? = some (.cells #[.slice none 0 0] 22) ∧ ((w.alloc (.cells #[.slice none 0 0] 22)).alloc (.cells #[.int .i64 0] 23)).heap[w.heap.size + 1]? = some (.cells #[.int .i64 0] 23)) := hide ⟨((Kept.refl w).alloc _).alloc _, lays_alloc (lays_new rfl) _, lays_new (by simp)⟩
  have HE := hide he
  have HY : Hid (∀ u, Calls Tryz.prog 50 #[.bool true] u fun e w' => e = .returned (.tuple #[]) ∧ u = w') := hide fun u => (ask_yes u).mono fun _ _ h => ⟨h.1, h.2.symm⟩
  have HO : Hid (∀ u, Calls Tryz.prog 50 #[.bool false] u fun e w' => e = leftT ∧ u = w') := hide fun u => (ask_no u).mono fun _ _ h => ⟨h.1, h.2.symm⟩
  generalize (ByteArray.mk l.toArray) = S at *
  clear he
  go_enter_defers Tryz.func27, Tryz.ntmps27
  go_wp2_with fail
  generalize (w.alloc (.cells #[.slice none 0 0] 22)).alloc (.cells #[.int .i64 0] 23) = w0 at *
  obtain ⟨R, hR⟩ : ∃ r, r = w.heap.size := ⟨_, rfl⟩
  have HR : Hid (w.heap.size ≤ R) := hide (by omega)
  rw [← hR] at HZ ⊢
  clear hR
  refine ((unhide HLI) w0 (unhide HZ).1).mono ?_
  intro e w1 hpost
  unfold LinesPost at hpost
  cases hli : linesT l with
  | none =>
    rw [hli] at hpost
    obtain ⟨rfl, k1⟩ := hpost
    have HK := hide (And.intro ((unhide HZ).1.trans k1) (And.intro (lays_kept k1 (unhide HZ).2.1) (lays_kept k1 (unhide HZ).2.2)))
    have HW : Hid (wholeT l = none) := hide (by unfold wholeT; rw [hli])
    clear k1 HZ hli HLI
    go_wp2_with fail
    refine ((unhide HO) _).mono ?_
    rintro _ _ ⟨rfl, rfl⟩
    dsimp only [leftT]
    go_wp2_with fail
    refine leaves_cons (f := 48) (args := #[.pointer (some ⟨R, 0, none⟩), .pointer (some ⟨R + 1, 0, none⟩)]) (by simp) (by simp [go_sem]) ?_
    refine (catchT R (R + 1) 0 1 _ [] _ (unhide HK).2.1 (unhide HK).2.2 (by omega)).mono ?_
    rintro e u' w'' ⟨rfl, rfl, h1, h2, h3⟩
    have t0 := cell_lays h1 0
    have t1 := cell_lays h2 0
    simp only [List.getElem?_toArray, List.getElem?_cons_zero] at t0 t1
    have hk := h3 w (unhide HK).1 (unhide HR) (by have := unhide HR; omega)
    simp [Leaves, settle, results, Tryz.results27, go_sem, t0, t1]
    unfold WholePost
    rw [unhide HW]
    exact ⟨rfl, hk⟩
  | some ls =>
    rw [hli] at hpost
    obtain ⟨oa, n, cap, rfl, hn, hs, k1⟩ := hpost
    have hls : ls.length ≤ 8193 ∧ ∀ x ∈ ls, x.length ≤ 8192 := linesT_len hli hl
    obtain ⟨K, P, hP0, hKn, hPs, hend⟩ : ∃ (K : Nat) (P : Nat → List Fn), P 0 = [] ∧ K ≤ n ∧ (∀ k x, k < K → ls[k]? = some x → stepT (P k) (splitT 32 x) = some (P (k + 1))) ∧ ((K = n ∧ wholeT l = some (P n)) ∨ (K < n ∧ wholeT l = none ∧ ∃ x, ls[K]? = some x ∧ stepT (P K) (splitT 32 x) = none)) := by
      rcases foldT_cases ls [] with ⟨P, h0, h1, h2⟩ | ⟨K, P, x, h0, h1, h2, h3, h4⟩
      · exact ⟨n, P, h0, Nat.le_refl _, fun k x _ hx => h1 k x hx, .inl ⟨rfl, by unfold wholeT; rw [hli, hn]; exact h2⟩⟩
      · have := (List.getElem?_eq_some_iff.1 h1).1
        exact ⟨K, P, h0, by omega, h2, .inr ⟨by omega, by unfold wholeT; rw [hli]; exact h4, x, h1, h3⟩⟩
    have hsize : ∀ k, k ≤ K → SizeT (P k) k := by
      intro k
      induction k with
      | zero => intro _; rw [hP0]; exact ⟨by simp, fun f hf => by simp at hf⟩
      | succ k ih =>
        intro hk
        obtain ⟨x, hx⟩ : ∃ x, ls[k]? = some x := ⟨_, List.getElem?_eq_getElem (by omega)⟩
        exact stepT_size (hPs k x (by omega) hx) (ih (by omega))
    have HL0 : Hid (LoopT w w1 R w1.heap.size (P 0) w1 none 0 w1.heap.size ∧ R + 1 < w1.heap.size) := hide (by
      have h1 := lays_kept k1 (unhide HZ).2.1
      have h2 := lays_kept k1 (unhide HZ).2.2
      rw [hP0]
      exact ⟨⟨h1, h2, PrR.nil _ _ (Nat.le_refl _), KeptX.refl _ _, (unhide HZ).1.trans k1⟩, (Array.getElem?_eq_some_iff.1 h2).1⟩)
    have HPS := hide hPs
    have HEND := hide hend
    have HSZ := hide hsize
    have HLS := hide hls
    have HS := hide hs
    have HN := hide hn
    have hn8 : n ≤ 8193 := by omega
    have HR1 : Hid (w1.heap[R]? = some (.cells #[.slice none 0 0] 22)) := hide (lays_kept k1 (unhide HZ).2.1)
    clear k1 HZ hli HLI hs hn hls hsize hPs hend hP0
    go_wp2_with fail
    refine ((unhide HY) _).mono ?_
    rintro _ _ ⟨rfl, rfl⟩
    go_wp2_with fail
    go_loopw [18] (fun s18 wr => ∃ k : Nat, k ≤ K ∧ s18 = .int .i64 k ∧ Hid (∃ oa cap m, LoopT w w1 R w1.heap.size (P k) wr oa cap m)) (fun s18 _ => n - (intOf s18).toNat)
    case atStart => exact ⟨0, Nat.zero_le _, rfl, hide ⟨_, _, _, (unhide HL0).1⟩⟩
    case round =>
      obtain ⟨k, hkK, rfl, HW⟩ := hrel
      by_cases hk : k < n
      · obtain ⟨ov, cv, m, a1, a2, a3, a4, a5⟩ := unhide HW
        obtain ⟨x, hx⟩ : ∃ x, ls[k]? = some x := ⟨_, List.getElem?_eq_getElem (by rw [← unhide HN]; exact hk)⟩
        have hsw := (unhide HS).keptX (unhide HR1) ⟨_, _, _, rfl⟩ a4
        obtain ⟨oa', cap', e, _, hi⟩ := hsw
        simp only [Value.slice.injEq] at e
        obtain ⟨rfl, hq9, rfl⟩ := e
        clear hq9
        obtain ⟨bl, ol, rfl, c0⟩ := hi k x hx
        unfold strV at c0
        have hk0 : (0 : Int) ≤ (k : Int) := by omega
        have hk1 : (k : Int) < (n : Int) := by omega
        have hxl := (unhide HLS).2 x (List.mem_of_getElem? hx)
        have HOF := hide (of_any wr.drew x (by omega) ((unhide HE).kept (a5.drew)))
        obtain ⟨wd, r, hwd⟩ : ∃ wd r, splitT 32 x = wd :: r := by
          cases hq : splitT 32 x with
          | nil => exact absurd hq (splitT_ne 32 x)
          | cons wd r => exact ⟨wd, r, rfl⟩
        have HWD := hide hwd
        have HX := hide hx
        have hbR : R + 1 < w1.heap.size := (unhide HL0).2
        have HSA : Hid (wr.drew.cell? ⟨R, 0, none⟩ = some (.slice ov (P k).length cv)) := hide (cell_lays a1 0)
        have HA := hide (And.intro a1 (And.intro a2 (And.intro a3 (And.intro a4 a5))))
        have HXL := hide hxl
        have hsz := (unhide HSZ) k hkK
        have HSK := hide hsz
        generalize (ByteArray.mk x.toArray) = X at *
        generalize hpl : (P k).length = pl at *
        clear a1 a2 a3 a4 a5 hx hwd hi HW hxl hsz
        go_wp2_with fail
        refine wp_regionP 4 [0, 1] (fun u => u.cell? ⟨R, 0, none⟩ = some (.slice ov pl cv)) (by kernel_rfl) ?_
        have hHeld := unhide HSA
        refine takeP (v := ?_) (hQ := by intro _ a w h; exact leaves_tmps (res_put a 22 _ (by decide) (by decide)) _ _ _ h) hHeld (fun u hSu => ?_) ?_
        rotate_left
        · ((try dsimp only at hSu); go_simp) <;> with_reducible rfl
        try simp only [Act.put, List.setIfInBounds_toArray, List.set_cons_zero, List.set_cons_succ]
        refine takeP (v := ?_) (hQ := by intro _ a w h; exact leaves_tmps (res_put a 23 _ (by decide) (by decide)) _ _ _ h) hHeld (fun u hSu => ?_) ?_
        rotate_left
        · ((try dsimp only at hSu); go_simp) <;> with_reducible rfl
        try simp only [Act.put, List.setIfInBounds_toArray, List.set_cons_zero, List.set_cons_succ]
        refine takeP_end ?_
        refine takeT_one (i := 2) rfl (by kernel_rfl) (fun Kx hK => ?_)
        go_simp
        refine (unhide HOF).mono ?_
        rintro _ w3 ⟨g, nn, rfl, hnn, hs3, k3⟩
        rw [unhide HWD] at hnn hs3
        obtain ⟨a1, a2, a3, a4, a5⟩ := unhide HA
        have kw : Kept wr w3 := ((Kept.refl wr).drew).trans k3
        have HWL := hide (withLine_any w3 w1.heap.size m (.slice ov pl cv) _ (P k) wd r (by rw [← hpl]; rw [← hpl] at a3; exact a3.kept kw) (by have := (unhide HSK).1; omega) (fun f hf => by have := (unhide HSK).2 f hf; omega) hs3 (fun y hy => by
          have := splitT_len (c := 32) (l := x) (x := y) (by rw [unhide HWD]; exact hy)
          have := unhide HXL
          omega) ((unhide HE).kept (a5.trans kw)))
        have HB3 := hide (And.intro (lays_kept kw a1) (And.intro (lays_kept kw a2) (And.intro ((KeptX.of (B := R) kw) |> a4.trans) (a5.trans kw))))
        refine hK.out _ _ (fun _ => k3.cell hHeld) ?_
        clear hK Kx a1 a2 a3 a4 a5 kw k3 hs3 HOF hnn
        try simp only [Act.put, List.setIfInBounds_toArray, List.set_cons_zero, List.set_cons_succ]
        refine takeT_one (i := 3) rfl (by kernel_rfl) (fun Kx hK => ?_)
        go_simp
        refine (unhide HWL).mono ?_
        intro e w4 hpost
        unfold LinePost at hpost
        rw [← unhide HWD] at hpost
        obtain ⟨b1, b2, b3, b4⟩ := unhide HB3
        have hRw := unhide HR
        by_cases hkk : k < K
        · rw [(unhide HPS) k x hkk (unhide HX)] at hpost
          obtain ⟨v', m', rfl, hpr, hbl⟩ := hpost
          obtain ⟨ov', cv', rfl⟩ : ∃ oa c, v' = .slice oa (P (k + 1)).length c := by
            obtain ⟨_, _, c, hr, _⟩ := hpr
            obtain ⟨oa, cp, e, _⟩ := rowT_at hr
            exact ⟨oa, cp, e⟩
          have r1 := (hbl.block R (by omega)).trans b1
          have r2 := (hbl.block (R + 1) hbR).trans b2
          have x0 := cell_lays r1 0
          have z0 := frozen_lays r1 0
          have HNX : Hid (∃ oa cap m, LoopT w w1 R w1.heap.size (P (k + 1)) (w4.setCell ⟨R, 0, none⟩ (.slice ov' (P (k + 1)).length cv')) oa cap m) := hide (by
            have hk4 : KeptX R w1 w4 := ⟨hbl.os.trans b3.os, hbl.tape.trans b3.tape, hbl.output.trans b3.output, Nat.le_trans b3.size hbl.size, fun j hj hne => (hbl.block j hj).trans (b3.block j hj hne)⟩
            have hw1 : w.heap.size ≤ w1.heap.size := by omega
            have hkw : Kept w w4 := ⟨hbl.os.trans b4.os, hbl.tape.trans b4.tape, hbl.output.trans b4.output, Nat.le_trans b4.size hbl.size, fun j hj => (hbl.block j (by omega)).trans (b4.block j hj)⟩
            refine ⟨ov', cv', m', by have := lays_set r1 0 (.slice ov' (P (k + 1)).length cv'); simpa using this, lays_other r2 (by simp) _, hpr.setR r1 (by omega), hk4.setCell (.inl rfl) _, hkw.setCell (p := ⟨R, 0, none⟩) hRw _⟩)
          generalize (P (k + 1)).length = pl' at *
          refine hK.out _ _ (fun _ => x0) ?_
          clear hK Kx hpr hbl r1 r2 b1 b2 b3 b4 HWL HB3
          try simp only [Act.put, List.setIfInBounds_toArray, List.set_cons_zero, List.set_cons_succ]
          refine takeT_one (i := 4) rfl (by kernel_rfl) (fun Kx hK => ?_)
          go_simp
          refine hK.out _ _ (fun h => absurd rfl h) ?_
          clear hK Kx
          try simp only [Act.put, List.setIfInBounds_toArray, List.set_cons_zero, List.set_cons_succ]
          refine takeT_done (by kernel_rfl) ?_ _
          clear x0 z0 hHeld c0
          go_wp2_with fail
          go_roundw
          case rel => exact ⟨k + 1, by omega, by go_num, HNX⟩
          case measure => simp [intOf]; omega
        · obtain rfl : k = K := by omega
          rcases unhide HEND with ⟨h0, _⟩ | ⟨_, hno, x', hx', hst⟩
          · omega
          · rw [unhide HX] at hx'
            cases hx'
            rw [hst] at hpost
            obtain ⟨rfl, hbl⟩ := hpost
            have r1 := (hbl.block R (by omega)).trans b1
            have r2 := (hbl.block (R + 1) hbR).trans b2
            have hw1 : w.heap.size ≤ w1.heap.size := by omega
            have hkw : Kept w w4 := ⟨hbl.os.trans b4.os, hbl.tape.trans b4.tape, hbl.output.trans b4.output, Nat.le_trans b4.size hbl.size, fun j hj => (hbl.block j (by omega)).trans (b4.block j hj)⟩
            have HNO := hide hno
            clear hK hst b1 b2 b3 b4 hbl HWL HB3 hno
            dsimp only [leftT]
            refine leaves_cons (f := 48) (args := #[.pointer (some ⟨R, 0, none⟩), .pointer (some ⟨R + 1, 0, none⟩)]) (by simp) (by simp [go_sem]) ?_
            refine (catchT R (R + 1) 0 1 _ [] _ r1 r2 (by omega)).mono ?_
            rintro e u' w'' ⟨rfl, rfl, h1, h2, h3⟩
            have t0 := cell_lays h1 0
            have t1 := cell_lays h2 0
            simp only [List.getElem?_toArray, List.getElem?_cons_zero] at t0 t1
            have hk := h3 w hkw hRw (by omega)
            simp [Leaves, settle, results, Tryz.results27, go_sem, t0, t1]
            unfold WholePost
            rw [unhide HNO]
            exact ⟨rfl, hk⟩
      · obtain ⟨h0, hwh⟩ : K = n ∧ wholeT l = some (P n) := by
          rcases unhide HEND with h | ⟨h0, _⟩
          · exact h
          · omega
        obtain rfl : k = n := by omega
        obtain ⟨ov, cv, m, a1, a2, a3, a4, a5⟩ := unhide HW
        have hRw := unhide HR
        have hbR : R + 1 < w1.heap.size := (unhide HL0).2
        have x0 := cell_lays a1 0
        have z0 := frozen_lays a1 0
        have x1 := cell_lays a2 0
        have z1 := frozen_lays a2 0
        have l1 := lays_set a1 0 (.slice ov (P k).length cv)
        have l2 := lays_other (a := ⟨R, 0, none⟩) a2 (by simp) (.slice ov (P k).length cv)
        have l3 := lays_other (a := ⟨R + 1, 0, none⟩) l1 (by simp) (.int .i64 0)
        have l4 := lays_set l2 0 (.int .i64 0)
        have y1 := cell_lays l2 0
        have f1 := frozen_lays l2 0
        have hpr : PrR w1.heap.size m ((wr.setCell ⟨R, 0, none⟩ (.slice ov (P k).length cv)).setCell ⟨R + 1, 0, none⟩ (.int .i64 0)) (.slice ov (P k).length cv) (P k) := (a3.setR a1 (by omega)).setE l2 hbR
        have HPR := hide hpr
        have HKF := hide ((a5.setCell (p := ⟨R, 0, none⟩) hRw (.slice ov (P k).length cv)).setCell (p := ⟨R + 1, 0, none⟩) (by show w.heap.size ≤ R + 1; omega) (.int .i64 0))
        have t0 := cell_lays l3 0
        have t1 := cell_lays l4 0
        simp only [List.setIfInBounds_toArray, List.set_cons_zero, List.getElem?_toArray, List.getElem?_cons_zero] at x0 x1 y1 t0 t1
        have HT := hide (And.intro t0 t1)
        have HWH := hide hwh
        have HB1 : Hid (w.heap.size ≤ w1.heap.size) := hide (by omega)
        generalize (P k).length = pl at *
        clear a1 a2 a3 a4 a5 l1 l2 l3 l4 t0 t1 HW hwh hpr
        go_wp2_with fail
        generalize (wr.setCell ⟨R, 0, none⟩ (.slice ov pl cv)).setCell ⟨R + 1, 0, none⟩ (.int .i64 0) = wy at *
        refine leaves_cons (f := 48) (args := #[.pointer (some ⟨R, 0, none⟩), .pointer (some ⟨R + 1, 0, none⟩)]) (by simp) (by simp [go_sem]) ?_
        refine (idleT R (R + 1) _).mono ?_
        rintro e u' w'' ⟨rfl, rfl, rfl⟩
        obtain ⟨t0, t1⟩ := unhide HT
        simp [Leaves, settle, results, Tryz.results27, go_sem, t0, t1]
        unfold WholePost
        rw [unhide HWH]
        exact ⟨_, _, m, rfl, unhide HB1, unhide HPR, unhide HKF⟩
open Go.RowKit
theorem hgtS_E {p : List Fn} {k : Nat} (h : chkS p k = 0) : (hgtS p k).2 = hgtE p k := by
  unfold hgtS hgtE codeOf
  rw [if_pos h, Int.toNat_natCast]
  cases heightsS p (p.getD k Fn.zero).code <;> rfl
theorem progCheck_many (oa : Option Addr) (n cap : Nat) (w : World) (h : 5 < (n : Int)) :
    Calls Tryz.prog 17 #[.slice oa n cap] w fun e w' => e = .returned (.int .i64 2) ∧ Kept w w' := by
  go_enter Tryz.func17, Tryz.ntmps17
  go_wp2
  go_ret
  exact ⟨rfl, Kept.refl _⟩
theorem progCheck_none (oa : Option Addr) (cap : Nat) (w : World) :
    Calls Tryz.prog 17 #[.slice oa 0 cap] w fun e w' => e = .returned (.int .i64 5) ∧ Kept w w' := by
  go_enter Tryz.func17, Tryz.ntmps17
  go_wp2
  go_ret
  exact ⟨rfl, Kept.refl _⟩
theorem progCheck_args (b o n cap : Nat) (ar : Int) (w : World) (h : ¬ 5 < (n : Int)) (h0 : ((n : Int) == 0) = false) (hn : 0 < n) (c0 : w.cell? ⟨b, o, none⟩ = some (.int .i64 ar)) (ha : (ar != 0) = true) :
    Calls Tryz.prog 17 #[.slice (some ⟨b, o, none⟩) n cap] w fun e w' => e = .returned (.int .i64 1) ∧ Kept w w' := by
  go_enter Tryz.func17, Tryz.ntmps17
  go_wp2
  go_ret
  exact ⟨rfl, Kept.refl _⟩
theorem progCheck_go (p : List Fn) (b o n cap : Nat) (w : World) (hp : ProgAt w (.slice (some ⟨b, o, none⟩) n cap) p) (hk : KindsAt w) (hl : n = p.length) (h : ¬ 5 < (n : Int)) (h0 : ((n : Int) == 0) = false) (hn : 0 < n) (c0 : w.cell? ⟨b, o, none⟩ = some (.int .i64 0)) (rr : Int) (hrr : (if firstS (fun k => chkS p k) 0 p.length = 0 then firstS (hgtE p) 0 p.length else firstS (fun k => chkS p k) 0 p.length) = rr) :
    Calls Tryz.prog 17 #[.slice (some ⟨b, o, none⟩) n cap] w fun e w' => e = .returned (.int .i64 rr) ∧ Kept w w' := by
  have HRR := hide hrr
  clear hrr
  have HP := hide hp
  have HK := hide hk
  have HL := hide hl
  clear hp hk hl
  go_enter Tryz.func17, Tryz.ntmps17
  go_wp2
  go_loopw [21] (fun s wr => ∃ k : Nat, k ≤ n ∧ s = .int .i64 k ∧ Hid (firstS (fun k => chkS p k) k (n - k) = firstS (fun k => chkS p k) 0 p.length) ∧ Hid (Kept w wr)) (fun s _ => n - (intOf s).toNat)
  case atStart => exact ⟨0, Nat.zero_le _, rfl, by have := unhide HL; subst this; rfl, Kept.refl _⟩
  case round =>
    obtain ⟨k, hkm, rfl, HO, HKr⟩ := hrel
    by_cases hlt : k < n
    · have hst := firstS_step (e := fun k => chkS p k) hlt
      have HST := hide hst
      have hck := check_any p (.slice (some ⟨b, o, none⟩) n cap) k wr ((unhide HP).kept (unhide HKr)) ((unhide HK).kept (unhide HKr))
      have HCK := hide hck
      clear hst hck
      go_wp2_with fail
      refine (unhide HCK).mono ?_
      clear HCK
      rintro e w2 ⟨rfl, hk2⟩
      have HK2 := hide ((unhide HKr).trans hk2)
      clear hk2
      by_cases hz : chkS p k = 0
      · have hst := unhide HST
        simp only [hz, if_true] at hst
        have HS2 := hide (hst.symm.trans (unhide HO))
        rw [hz]
        clear hst hz HST HO
        go_wp2
        go_roundw
        case rel => exact ⟨k + 1, by omega, by go_num, HS2, HK2⟩
        case measure => simp [intOf]; omega
      · have hst := unhide HST
        simp only [hz, if_false] at hst
        have hs2 := hst.symm.trans (unhide HO)
        have hz' : (chkS p k != 0) = true := by rw [bne_iff_ne]; exact hz
        generalize chkS p k = r at *
        have HS2 := hide hs2
        have HZ := hide hz
        clear hst hz HST HO hs2
        go_wp2
        go_ret
        have hrr := unhide HRR
        rw [← unhide HS2, if_neg (unhide HZ)] at hrr
        exact ⟨by rw [← hrr]; rfl, unhide HK2⟩
    · have hf0 : firstS (fun k => chkS p k) 0 p.length = 0 := by
        rw [← unhide HO, show n - k = 0 by omega]
        rfl
      have HF := hide hf0
      clear hf0 HO
      go_wp2
      go_loopw [33] (fun s wq => ∃ k : Nat, k ≤ n ∧ s = .int .i64 k ∧ Hid (firstS (hgtE p) k (n - k) = firstS (hgtE p) 0 p.length) ∧ Hid (Kept w wq)) (fun s _ => n - (intOf s).toNat)
      case atStart => exact ⟨0, Nat.zero_le _, rfl, by have := unhide HL; subst this; rfl, HKr⟩
      case round =>
        obtain ⟨k, hkm, rfl, HO, HKq⟩ := hrel
        by_cases hlt : k < n
        · have hst := firstS_step (e := hgtE p) hlt
          have hz0 : chkS p k = 0 := firstS_zero (unhide HF) k (by omega) (by have := unhide HL; omega)
          have hge := hgtS_E hz0
          have HST := hide hst
          have hck := heights_any p (.slice (some ⟨b, o, none⟩) n cap) k _ ((unhide HP).kept (unhide HKq)) ((unhide HK).kept (unhide HKq))
          have HCK := hide hck
          have HGE := hide hge
          clear hst hck hge hz0
          go_wp2_with fail
          refine (unhide HCK).mono ?_
          clear HCK
          rintro e w2 ⟨v2, rfl, _, hk2⟩
          have HK2 := hide ((unhide HKq).trans hk2)
          clear hk2
          rw [unhide HGE]
          by_cases hz : hgtE p k = 0
          · have hst := unhide HST
            simp only [hz, if_true] at hst
            have HS2 := hide (hst.symm.trans (unhide HO))
            rw [hz]
            clear hst hz HST HO
            go_wp2
            go_roundw
            case rel => exact ⟨k + 1, by omega, by go_num, HS2, HK2⟩
            case measure => simp [intOf]; omega
          · have hst := unhide HST
            simp only [hz, if_false] at hst
            have hs2 := hst.symm.trans (unhide HO)
            have hz' : (hgtE p k != 0) = true := by rw [bne_iff_ne]; exact hz
            generalize hgtE p k = r at *
            have HS2 := hide hs2
            clear hst hz HST HO hs2
            go_wp2
            go_ret
            have hrr := unhide HRR
            rw [if_pos (unhide HF), ← unhide HS2] at hrr
            exact ⟨by rw [← hrr]; rfl, unhide HK2⟩
        · have hf1 : firstS (hgtE p) 0 p.length = 0 := by
            rw [← unhide HO, show n - k = 0 by omega]
            rfl
          have HF1 := hide hf1
          clear hf1 HO
          go_wp2
          go_ret
          have hrr := unhide HRR
          rw [if_pos (unhide HF), unhide HF1] at hrr
          exact ⟨by rw [← hrr]; rfl, unhide HKq⟩
theorem progCheck_any (p : List Fn) (v : Value) (w : World) (hp : ProgAt w v p) (hk : KindsAt w) :
    Calls Tryz.prog 17 #[v] w fun e w' => e = .returned (.int .i64 (progS p)) ∧ Kept w w' := by
  obtain ⟨oa, cap, rfl, hl, hi⟩ := id hp
  unfold progS
  by_cases h5 : 5 < p.length
  · rw [if_pos h5]
    exact progCheck_many oa p.length cap w (by omega)
  · rw [if_neg h5]
    by_cases h0 : p.length = 0
    · rw [if_pos h0, h0]
      exact progCheck_none oa cap w
    · rw [if_neg h0]
      have h0' : ((p.length : Int) == 0) = false := by rw [beq_eq_false_iff_ne]; omega
      obtain ⟨b, o, cv, rfl, c0, c1, c2, hc⟩ := hi 0 _ (getD_of_lt p 0 Fn.zero (by omega))
      simp only [Nat.zero_mul, Nat.add_zero] at c0
      by_cases ha : (p.getD 0 Fn.zero).args = 0
      · rw [if_neg (not_not_intro ha)]
        rw [ha] at c0
        exact progCheck_go p b o p.length cap w hp hk rfl (by omega) h0' (by omega) c0 _ rfl
      · rw [if_pos ha]
        exact progCheck_args b o p.length cap _ w (by omega) h0' (by omega) c0 (by rw [bne_iff_ne]; exact ha)
theorem progCheck_is (p : List Fn) (v : Value) (r : Int) (w : World) (hp : ProgAt w v p) (hk : KindsAt w) (h : progS p = r) :
    Calls Tryz.prog 17 #[v] w fun e w' => e = .returned (.int .i64 r) ∧ Kept w w' := by
  have := progCheck_any p v w hp hk
  rw [h] at this
  exact this
def readR (l : List UInt8) : List Fn × Int := if l.length ≤ 8192 then match wholeT l with
  | some p => if progS p = 0 then (p, 0) else ([], 1)
  | none => ([], 1) else ([], 2)
def ReadPost (l : List UInt8) (w : World) (e : Ending) (w' : World) : Prop := ∃ oa n cap, e = .returned (.tuple #[.slice oa n cap, .int .i64 (readR l).2]) ∧ n = (readR l).1.length ∧ ProgAt w' (.slice oa n cap) (readR l).1 ∧ Kept w w' ∧ ∃ b m, w.heap.size ≤ b ∧ PrR b m w' (.slice oa n cap) (readR l).1
theorem progNil (w : World) : ProgAt w (.slice none 0 0) [] := ⟨none, 0, rfl, by simp, fun i f h => by simp at h⟩
theorem foldT_size : ∀ (ls : List (List UInt8)) (p p' : List Fn) (k : Nat), foldT p ls = some p' → SizeT p k → SizeT p' (k + ls.length)
  | [], p, p', k, h, hs => by cases h; exact hs
  | l :: ls, p, p', k, h, hs => by
    cases hq : stepT p (splitT 32 l) with
    | none => simp only [foldT, hq] at h; cases h
    | some q =>
      simp only [foldT, hq] at h
      have := foldT_size ls q p' (k + 1) h (stepT_size hq hs)
      rw [List.length_cons, show k + (ls.length + 1) = k + 1 + ls.length by omega]
      exact this
theorem wholeT_size {l : List UInt8} {p : List Fn} (h : wholeT l = some p) (hl : l.length ≤ 8192) : p.length ≤ 8193 := by
  unfold wholeT at h
  cases hq : linesT l with
  | none => rw [hq] at h; cases h
  | some ls =>
    rw [hq] at h
    have h1 := (linesT_len hq hl).1
    have h2 := (foldT_size ls [] p 0 h ⟨by simp, fun f hf => by simp at hf⟩).1
    omega
theorem read_any (w : World) (l : List UInt8) (he : EnvT w) (hk : KindsAt w) : Calls Tryz.prog 8 #[.string ⟨l.toArray⟩] w (ReadPost l w) := by
  have hsz : (ByteArray.mk l.toArray).size = l.length := by simp [ByteArray.size]
  have HNIL : Hid (∀ u, Kept w u → ∃ b m, w.heap.size ≤ b ∧ PrR b m u (.slice none 0 0) []) := hide fun u hu => ⟨_, _, hu.size, PrR.nil _ u (Nat.le_refl _)⟩
  by_cases hl : l.length ≤ 8192
  · have HW := hide (whole_any w l hl he)
    have HPC : Hid (∀ u v p, Kept w u → ProgAt u v p → Calls Tryz.prog 17 #[v] u fun e w' => e = .returned (.int .i64 (progS p)) ∧ Kept u w') := hide fun u v p hu hp => progCheck_any p v u hp (hk.kept hu)
    have hl1 : ¬ (8192 : Int) < (l.length : Int) := by omega
    have HRR : Hid (readR l = match wholeT l with
      | some p => if progS p = 0 then (p, 0) else ([], 1)
      | none => ([], 1)) := hide (by unfold readR; rw [if_pos hl])
    have HWS : Hid (∀ p, wholeT l = some p → p.length ≤ 8193) := hide fun p h => wholeT_size h hl
    generalize (ByteArray.mk l.toArray) = S at *
    generalize l.length = N at *
    clear he hk hl
    go_enter Tryz.func8, Tryz.ntmps8
    go_wp2_with fail
    refine (unhide HW).mono ?_
    intro e w1 hpost
    unfold WholePost at hpost
    cases hwt : wholeT l with
    | none =>
      rw [hwt] at hpost
      obtain ⟨rfl, k1⟩ := hpost
      have HR2 : Hid (readR l = ([], 1)) := hide (by rw [unhide HRR, hwt])
      have HK := hide k1
      clear k1 hwt HW HRR HWS
      go_wp2_with fail
      go_ret2
      unfold ReadPost
      rw [unhide HR2]
      exact ⟨none, 0, 0, rfl, rfl, progNil _, unhide HK, (unhide HNIL) _ (unhide HK)⟩
    | some p =>
      rw [hwt] at hpost
      obtain ⟨v, b, m, rfl, hbw, hpr, k1⟩ := hpost
      have hps := (unhide HWS) p hwt
      have hpa := hpr.prog (by omega)
      obtain ⟨oa, cap, rfl, _⟩ := id hpa
      have HC := hide ((unhide HPC) w1 _ p k1 hpa)
      have HQ := hide (And.intro hpa (And.intro hpr (And.intro k1 hbw)))
      generalize hpl : p.length = pl at *
      have HPL := hide hpl
      by_cases hz : progS p = 0
      · have HR2 : Hid (readR l = (p, 0)) := hide (by rw [unhide HRR, hwt]; simp only [hz, if_true])
        rw [hz] at HC
        clear hpa hpr k1 hwt HW HRR HWS hpl hz hbw
        go_wp2_with fail
        refine (unhide HC).mono ?_
        rintro _ w2 ⟨rfl, k2⟩
        have HK2 := hide k2
        clear k2 HC
        go_wp2_with fail
        go_ret2
        unfold ReadPost
        rw [unhide HR2]
        obtain ⟨q1, q2, q3, q4⟩ := unhide HQ
        have k2 := unhide HK2
        exact ⟨oa, pl, cap, rfl, (unhide HPL).symm, q1.kept k2, q3.trans k2, b, m, q4, q2.kept k2⟩
      · have HR2 : Hid (readR l = ([], 1)) := hide (by rw [unhide HRR, hwt]; simp only [hz, if_false])
        have HZ := hide hz
        generalize progS p = er at *
        have hz2 : (er == 0) = false := by simpa using hz
        clear hpa hpr k1 hwt HW HRR HWS hpl hbw
        go_wp2_with fail
        refine (unhide HC).mono ?_
        rintro _ w2 ⟨rfl, k2⟩
        have HK2 := hide ((unhide HQ).2.2.1.trans k2)
        clear k2 HC
        go_wp2_with fail
        go_ret2
        unfold ReadPost
        rw [unhide HR2]
        exact ⟨none, 0, 0, rfl, rfl, progNil _, unhide HK2, (unhide HNIL) _ (unhide HK2)⟩
  · have HR2 : Hid (readR l = ([], 2)) := hide (by unfold readR; rw [if_neg hl])
    have hl1 : (8192 : Int) < (l.length : Int) := by omega
    generalize (ByteArray.mk l.toArray) = S at *
    generalize l.length = N at *
    clear he hk hl
    go_enter Tryz.func8, Tryz.ntmps8
    go_wp2_with fail
    go_ret2
    unfold ReadPost
    rw [unhide HR2]
    exact ⟨none, 0, 0, rfl, rfl, progNil _, Kept.refl w, (unhide HNIL) _ (Kept.refl w)⟩
theorem parse_app : ∀ (l : List UInt8) (acc v : Nat) (c : UInt8), Lib.parseUint10 acc l = .ok v → Lib.parseUint10 acc (l ++ [c]) = Lib.parseUint10 v [c]
  | [], acc, v, c, h => by
    simp only [Lib.parseUint10, Lib.NumEnd.ok.injEq] at h
    subst h
    rfl
  | x :: l, acc, v, c, h => by
    rw [List.cons_append]
    unfold Lib.parseUint10 at h ⊢
    split at h
    · rename_i h1
      rw [if_pos h1]
      split at h
      · cases h
      · rename_i h2
        rw [if_neg h2]
        split at h
        · cases h
        · rename_i h3
          rw [if_neg h3]
          exact parse_app l _ v c h
    · cases h
theorem digit_nat {d : Nat} (h : d < 10) : (UInt8.ofNat (48 + d)).toNat = 48 + d := by rw [UInt8.toNat_ofNat']; omega
theorem parse_dec (n : Nat) : n < 1000000 → Lib.parseUint10 0 (Lib.decDigits n) = .ok n := by
  induction n using Nat.strongRecOn with
  | ind n ih =>
    intro hn
    unfold Lib.decDigits
    split
    · rename_i h
      unfold Lib.parseUint10
      rw [digit_nat h, if_pos (by omega), if_neg (by omega), if_neg (by omega)]
      simp [Lib.parseUint10]
    · rename_i h
      rw [parse_app _ 0 (n / 10) _ (ih (n / 10) (by omega) (by omega))]
      unfold Lib.parseUint10
      rw [digit_nat (by omega), if_pos (by omega), if_neg (by omega), if_neg (by omega)]
      simp only [Lib.parseUint10, Lib.NumEnd.ok.injEq]
      omega
theorem dec_digits (n : Nat) : ∀ c ∈ Lib.decDigits n, 48 ≤ c.toNat ∧ c.toNat ≤ 57 := by
  induction n using Nat.strongRecOn with
  | ind n ih =>
    unfold Lib.decDigits
    split
    · rename_i h
      intro c hc
      obtain rfl := List.mem_singleton.1 hc
      rw [digit_nat h]
      omega
    · rename_i h
      intro c hc
      rcases List.mem_append.1 hc with hc | hc
      · exact ih (n / 10) (by omega) c hc
      · obtain rfl := List.mem_singleton.1 hc
        rw [digit_nat (by omega)]
        omega
theorem dec_ne (n : Nat) : Lib.decDigits n ≠ [] := by
  unfold Lib.decDigits
  split <;> simp
theorem numT_itoa {n : Int} (h0 : 0 ≤ n) (h1 : n ≤ 999) : numT (Lib.itoa n) = some n := by
  obtain ⟨k, rfl⟩ := Int.eq_ofNat_of_zero_le h0
  have hi : Lib.itoa (k : Int) = Lib.decDigits k := by unfold Lib.itoa; rw [if_neg (by omega), Int.toNat_natCast]
  have ha : Lib.atoiAll (Lib.decDigits k) = .ok (k : Int) := by
    have hp := parse_dec k (by omega)
    have hd := dec_digits k
    have hne := dec_ne k
    cases hq : Lib.decDigits k with
    | nil => exact absurd hq hne
    | cons c r =>
      rw [hq] at hp hd
      have hc := hd c (by simp)
      unfold Lib.atoiAll
      simp only
      rw [if_neg (show ¬ (c.toNat = 43 ∨ c.toNat = 45) by omega)]
      unfold Lib.parseMag
      rw [if_neg (by simp), hp]
      simp only
      rw [if_neg (by omega), if_neg (by omega), if_neg (by omega)]
  unfold numT
  rw [hi, ha]
  simp only
  rw [if_pos ⟨by omega, by have := dec_len k 3 (by omega) (by omega); omega, hi⟩]
theorem numsT_itoa : ∀ {l : List Int}, (∀ z ∈ l, 0 ≤ z ∧ z ≤ 999) → numsT (l.map Lib.itoa) = some l
  | [], _ => rfl
  | z :: l, h => by
    have h1 := numT_itoa (h z (by simp)).1 (h z (by simp)).2
    have h2 := numsT_itoa (l := l) (fun y hy => h y (by simp [hy]))
    simp only [List.map_cons, numsT, h1, h2]
theorem tk_nums (k : Nat) : (tkS.getD k ([], 0)).2 ≤ 1 := by
  by_cases h : k < 17
  · revert h; revert k; decide
  · rw [show tkS.getD k ([], 0) = ([], 0) by simp [List.getD, List.getElem?_eq_none (show tkS.length ≤ k by simp [tkS]; omega)]]; simp
theorem flat_join (c : UInt8) : ∀ {ls : List (List UInt8)}, ls ≠ [] → ls.flatMap (· ++ [c]) = Lib.join ls [c] ++ [c]
  | [], h => absurd rfl h
  | [x], _ => by simp [Lib.join_one]
  | x :: y :: ls, _ => by
    have ih := flat_join c (ls := y :: ls) (by simp)
    rw [List.flatMap_cons, ih, Lib.join_cons x (y :: ls)]
    have : Lib.joinTail [c] (y :: ls) = c :: Lib.join (y :: ls) [c] := by rw [Lib.join_cons]; simp [Lib.joinTail]
    rw [this]
    simp
end Go.Proofs.YtjioipkfnekigaaGreatDoor
