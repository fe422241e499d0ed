/- FlowE -/
import Derived.Test.YtkepbeeioalmbabDoorTM09
import Derived.Test.YtkepbeeioalmbabDoorTM01
import Derived.Deep.RegionWith
import Derived.Deep.DeepCutAuto
set_option maxRecDepth 100000
set_option maxHeartbeats 8000000
namespace Go.Proofs.YtkepbeeioalmbabDoor
open Go.RowKit Go.Shelf
attribute [local go_sem] Oper.semAt_some
theorem wp_calm {P : Program} {s : Code} {K : Act → World → Prop} {Q : Exit → Act → World → Prop} {a : Act} {w : World} (h : s.wp P (Exit.then K (fun _ _ _ => False)) a w) : s.wp P (Exit.then K Q) a w := by
  refine wp_mono h ?_
  intro e a' w' hq
  cases e with
  | normal => exact hq
  | exit id => exact hq.elim
  | goto l => exact hq.elim
  | ret => exact hq.elim
  | panic ch => exact hq.elim
  | outgrown => exact hq.elim
theorem kpAt_put {Ba l : Nat} {W : World} {o : Obj} (h : Ba ≠ l) : KpAt Ba W (W.putObj l o) := World.cell?_of_block (World.putObj_heap_other h)
def LoopI (p : List Fn) (g : Fn) (n : Nat) (H : List Int) (at_ : Nat) (h m : Int) (B : Nat) (W2 : World) (pre : List Nat) (W : World) : Prop :=
  ∃ H', comesS (comeS p g.code n) pre (H.set at_ h) m = (true, H') ∧ HeightsAt W B H' ∧ KeptX B W2 W
def LoopX (p : List Fn) (g : Fn) (n : Nat) (H : List Int) (at_ : Nat) (h m : Int) (B Br : Nat) (w W2 : World) (c : Code) (pre : List Nat) (W : World) : Prop :=
  c = .ret ∧ ∃ H', comesS (comeS p g.code n) pre (H.set at_ h) m = (false, H') ∧ HeightsAt W B H' ∧ W.cell? ⟨Br, 0, none⟩ = some (.bool false) ∧ KeptX B w W ∧ W2.heap.size ≤ W.heap.size
theorem grown_below {N : Nat} {W W' : World} {row : Option Nat} (hN : N ≤ W.heap.size) (hg : W.grownBy W' row) (hr : ∀ r, row = some r → N ≤ r) : Below N W W' :=
  (Below.refl N W).grown hg hN hr
theorem KeptX.below {B : Nat} {a b c : World} (h : KeptX B a b) (k : Below a.heap.size b c) : KeptX B a c :=
  ⟨k.os.trans h.os, k.tape.trans h.tape, k.output.trans h.output, Nat.le_trans h.size k.size, fun i hi hn => (k.block i hi).trans (h.block i hi hn)⟩
theorem loopI_own {p : List Fn} {g : Fn} {n : Nat} {H : List Int} {at_ : Nat} {h m : Int} {B : Nat} {W2 : World} (hB : B < W2.heap.size) : OwnFrom W2.heap.size (LoopI p g n H at_ h m B W2) := by
  rintro s W W' row ⟨H', h1, h2, h3⟩ hg hr
  have hb := grown_below h3.size hg (fun r e => (hr r e).1)
  exact ⟨H', h1, (hb.block B hB).trans h2, h3.below hb⟩
theorem loopX_own {p : List Fn} {g : Fn} {n : Nat} {H : List Int} {at_ : Nat} {h m : Int} {B Br : Nat} {w W2 : World} (hB : B < W2.heap.size) (hBr : Br < W2.heap.size) (hw : w.heap.size ≤ W2.heap.size) (c : Code) : OwnFrom W2.heap.size (LoopX p g n H at_ h m B Br w W2 c) := by
  rintro s W W' row ⟨h0, H', h1, h2, h4, h3, h5⟩ hg hr
  have hb := grown_below h5 hg (fun r e => (hr r e).1)
  exact ⟨h0, H', h1, (hb.block B hB).trans h2, (hb.cell (p := ⟨Br, 0, none⟩) hBr).trans h4, h3.below (hb.mono hw), Nat.le_trans h5 hb.size⟩
theorem come_new (n : Nat) (p : List Fn) (g : Fn) (oa : Option Addr) (bc oc lp cp lc cc B : Nat) (H : List Int) (at_ : Nat) (h : Int) (x : Int × Int) (w0 w : World)
    (hw : ComeAt w0 w p g (.slice oa lp cp) (.slice (some ⟨bc, oc, none⟩) lc cc) B H) (hlc : lc = g.code.length) (hat : ¬ ((lc : Int) ≤ at_)) (hx : g.code[at_]? = some x)
    (x0 : w0.cell? ⟨bc, oc + at_ * 2, none⟩ = some (.int .i64 x.1)) (x1 : w0.cell? ⟨bc, oc + at_ * 2 + 1, none⟩ = some (.int .i64 x.2)) (hs : H.getD at_ 0 = -1) (h0 : 0 ≤ h) (h8 : h ≤ 8) (hun : unv H < n + 1)
    (IH : ∀ (H' : List Int) (at' : Nat) (h' : Int) (w' : World), ComeAt w0 w' p g (.slice oa lp cp) (.slice (some ⟨bc, oc, none⟩) lc cc) B H' → 0 ≤ h' → h' ≤ 8 → unv H' < n →
      Calls Tryd.prog 34 #[.agg #[.slice oa lp cp, .slice (some ⟨bc, oc, none⟩) lc cc, .slice (some ⟨B, 0, none⟩) lc lc], .int .i64 at', .int .i64 h'] w' fun e w'' => ComePost p g n H' at' h' B w' e w'') :
    Calls Tryd.prog 34 #[.agg #[.slice oa lp cp, .slice (some ⟨bc, oc, none⟩) lc cc, .slice (some ⟨B, 0, none⟩) lc lc], .int .i64 at_, .int .i64 h] w fun e w' => ComePost p g (n + 1) H at_ h B w e w' := by
  have hlen := hw.len
  have q := hw.hs.cell (k := at_) (by omega)
  rw [hs] at q
  have d := (((Kept.refl w).alloc (.cells #[.slice oa lp cp, .slice (some ⟨bc, oc, none⟩) lc cc, .slice (some ⟨B, 0, none⟩) lc lc] 59)).alloc (.cells #[.bool false] 4)).cell q
  have hfz : ((w.alloc (.cells #[.slice oa lp cp, .slice (some ⟨bc, oc, none⟩) lc cc, .slice (some ⟨B, 0, none⟩) lc lc] 59)).alloc (.cells #[.bool false] 4)).frozen? ⟨B, at_, none⟩ = false := (hw.hs.kept (((Kept.refl w).alloc _).alloc _)).frozen at_
  have HW := hide hw
  have HL := hide hlc
  have HX := hide hx
  have X0 := hide x0
  have X1 := hide x1
  have HS := hide hs
  have HI := hide IH
  have HU := hide hun
  have HN := hide hlen
  clear hw hlc hx x0 x1 hs IH hun hlen q
  refine (callsIn_wide (n := 9)).1 (callsIn_of_wp_marks Tryd.func34 rfl trivial ?_ rfl)
  refine wpIn_wide.2 ?_
  simp only [Tryd.ntmps34, List.size_toArray, List.length_cons, List.length_nil, Nat.reduceAdd, Nat.reduceSub, Array.replicate_succ, Array.replicate_zero, List.push_toArray, List.append_toArray, List.nil_append, List.cons_append]
  go_wp2_with fail
  generalize hW1 : ((w.alloc (.cells #[.slice oa lp cp, .slice (some ⟨bc, oc, none⟩) lc cc, .slice (some ⟨B, 0, none⟩) lc lc] 59)).alloc (.cells #[.bool false] 4)).setCell ⟨B, at_, none⟩ (.int .i64 h) = W1
  have hBw : B < w.heap.size := (unhide HW).hs.lt
  have K1 : Hid (KeptX B w W1) := by
    rw [← hW1]
    exact hide ((KeptX.of (((Kept.refl w).alloc _).alloc _)).setCell (p := ⟨B, at_, none⟩) (.inl rfl) _)
  have HH1 : Hid (HeightsAt W1 B (H.set at_ h)) := by
    rw [← hW1]
    exact ((unhide HW).hs.kept (((Kept.refl w).alloc _).alloc _)).set at_ h
  have L0 : Hid (W1.heap[w.heap.size]? = some (.cells #[.slice oa lp cp, .slice (some ⟨bc, oc, none⟩) lc cc, .slice (some ⟨B, 0, none⟩) lc lc] 59)) := by
    rw [← hW1]
    exact lays_other (lays_alloc (lays_new rfl) _) (by simp; omega) _
  have L1 : Hid (W1.heap[w.heap.size + 1]? = some (.cells #[.bool false] 4)) := by
    rw [← hW1]
    exact lays_other (lays_new (by simp)) (by simp; omega) _
  have KK1 : Hid (Kept w0 W1) := KeptX.kept (unhide HW).kept (unhide HW).new (unhide K1)
  clear hW1 d hfz
  have e0 := cell_lays (unhide L0) 0
  have e1 := cell_lays (unhide L0) 1
  have e2 := cell_lays (unhide L0) 2
  simp only [List.getElem?_toArray, List.getElem?_cons_zero, List.getElem?_cons_succ] at e0 e1 e2
  have y0 := (unhide KK1).cell (unhide X0)
  have y1 := (unhide KK1).cell (unhide X1)
  have e0' : ∀ o1, (W1.alloc o1).cell? ⟨w.heap.size, 0, none⟩ = _ := fun o1 => ((Kept.refl W1).alloc o1).cell e0
  have e1' : ∀ o1, (W1.alloc o1).cell? ⟨w.heap.size, 1, none⟩ = _ := fun o1 => ((Kept.refl W1).alloc o1).cell e1
  have e2' : ∀ o1, (W1.alloc o1).cell? ⟨w.heap.size, 2, none⟩ = _ := fun o1 => ((Kept.refl W1).alloc o1).cell e2
  have y0' : ∀ o1, (W1.alloc o1).cell? ⟨bc, oc + at_ * 2, none⟩ = _ := fun o1 => ((Kept.refl W1).alloc o1).cell y0
  have y1' : ∀ o1, (W1.alloc o1).cell? ⟨bc, oc + at_ * 2 + 1, none⟩ = _ := fun o1 => ((Kept.refl W1).alloc o1).cell y1
  have hop : Hid (opS p g x = 0) := (unhide HW).right x (List.mem_of_getElem? (unhide HX))
  have HB : Hid (∀ u, Kept W1 u → Calls Tryd.prog 44 #[.agg #[.slice oa lp cp, .slice (some ⟨bc, oc, none⟩) lc cc, .slice (some ⟨B, 0, none⟩) lc lc], .agg #[.int .i64 x.1, .int .i64 x.2], .int .i64 h] u fun e u' => BehPost p x h u e u') :=
    fun u hu => behind_any p g _ _ _ _ _ _ _ x h u ((unhide HW).prog.kept ((unhide KK1).trans hu)) ((unhide HW).kinds.kept ((unhide KK1).trans hu)) (unhide hop) h0 h8
  go_cut [7, 8] from 33 to 43 (fun s7 s8 wx => ∃ Bm r, s7 = .pointer (some ⟨Bm, 0, none⟩) ∧ s8 = .bool (beh p x h).isSome ∧ wx.cell? ⟨Bm, 0, none⟩ = some (.int .i64 r) ∧ W1.heap.size ≤ Bm ∧ Hid (∀ m, beh p x h = some m → r = m) ∧ Hid (Kept W1 wx))
  case first =>
    refine wp_calm ?_
    go_region_with (go_at_call 44; refine ((unhide HB) _ ?_).mono ?_; (repeat (first | exact Kept.refl _ | refine Kept.drew ?_ | refine Kept.alloc ?_ _)); rintro e w' ⟨r, rfl, hr, hkk⟩; (first | (have hz := lays_kept hkk (lays_new (o := .cells #[.int .i64 0] 3) (b := W1.heap.size) rfl); have hz0 := cell_lays hz 0; have hz1 := frozen_lays hz 0; have HZ := hide hz; clear hz) | (have hz := lays_kept hkk (lays_drew (lays_new (o := .cells #[.int .i64 0] 3) (b := W1.heap.size) rfl)); have hz0 := cell_lays hz 0; have hz1 := frozen_lays hz 0; have HZ := hide hz; clear hz) | skip))
    all_goals go_wp2_with fail
    all_goals go_meet
    all_goals first
      | exact ⟨w'.heap.size, r, rfl, rfl, cell_lays (lays_new rfl) 0, hkk.size, hide hr, hide (((Kept.refl W1).trans hkk).alloc _)⟩
      | exact ⟨w'.heap.size, r, rfl, rfl, cell_lays (lays_new rfl) 0, hkk.size, hide hr, hide ((((Kept.refl W1).drew).trans hkk).alloc _)⟩
      | exact ⟨W1.heap.size, r, rfl, rfl, cell_lays (lays_set (unhide HZ) 0 _) 0, Nat.le_refl _, hide hr, hide ((((Kept.refl W1).alloc _).trans hkk).setCell (p := ⟨W1.heap.size, 0, none⟩) (Nat.le_refl _) _)⟩
      | exact ⟨W1.heap.size, r, rfl, rfl, cell_lays (lays_set (unhide HZ) 0 _) 0, Nat.le_refl _, hide hr, hide (((((Kept.refl W1).alloc _).drew).trans hkk).setCell (p := ⟨W1.heap.size, 0, none⟩) (Nat.le_refl _) _)⟩
      | exact ⟨W1.heap.size, r, rfl, rfl, cell_lays (lays_set (unhide HZ) 0 _) 0, Nat.le_refl _, hide hr, hide (((((Kept.refl W1).drew).alloc _).trans hkk).setCell (p := ⟨W1.heap.size, 0, none⟩) (Nat.le_refl _) _)⟩
  case rest =>
    obtain ⟨Bm, r, rfl, rfl, em, hBm, HR, HKW⟩ := hcut
    clear HB e0 e1 e2 y0 y1 e0' e1' e2' y0' y1'
    have L0c : Hid (wc.heap[w.heap.size]? = _) := lays_kept HKW.out (unhide L0)
    have L1c : Hid (wc.heap[w.heap.size + 1]? = _) := lays_kept HKW.out (unhide L1)
    have HHc : Hid (HeightsAt wc B (H.set at_ h)) := (unhide HH1).kept HKW.out
    have KXc : Hid (KeptX B w wc) := (unhide K1).trans (.of HKW.out)
    have KKc : Hid (Kept w0 wc) := (unhide KK1).trans HKW.out
    have hsz : w.heap.size + 2 ≤ W1.heap.size := by
      have := (Array.getElem?_eq_some_iff.1 (unhide L1)).1
      omega
    have hszc : W1.heap.size ≤ wc.heap.size := HKW.out.size
    have r0 := cell_lays (unhide L1c) 0
    have r1 := frozen_lays (unhide L1c) 0
    simp only [List.getElem?_toArray, List.getElem?_cons_zero] at r0
    cases hb : beh p x h with
    | none =>
      have HBN := hide hb
      clear hb
      go_wp2
      refine ⟨.bool false, by simp [results, Tryd.results34, go_sem, r0], false, H.set at_ h, ?_, rfl, (unhide HHc).other (by simp; omega) _, (unhide KXc).setCell (.inr (by simp)) _⟩
      have := unhide HL
      have hxd := getD_of_lt g.code at_ (0, 0) (by omega)
      rw [unhide HX] at hxd
      unfold comeS
      rw [if_neg (by omega), if_pos (unhide HS), ← Option.some.inj hxd, unhide HBN]
    | some m =>
      obtain rfl : r = m := HR.out m hb
      have HBS := hide hb
      clear hb
      have e1 := cell_lays (unhide L0c) 1
      simp only [List.getElem?_toArray, List.getElem?_cons_zero, List.getElem?_cons_succ] at e1
      have y0 := (unhide KKc).cell (unhide X0)
      have y1 := (unhide KKc).cell (unhide X1)
      go_wp2_with (go_at_call 45; refine (following_any _ _ _ _).mono ?_; rintro e w' ⟨rfl, rfl⟩)
      generalize hW2 : (wc.alloc (.cells #[.int .i64 x.1, .int .i64 x.2] 38)).alloc (.cells #[.int .i64 at_] 3) = W2
      have K2 : Hid (Kept wc W2) := by rw [← hW2]; exact hide (((Kept.refl _).alloc _).alloc _)
      have b0 : Hid (W2.heap[wc.heap.size]? = some (.cells #[.int .i64 x.1, .int .i64 x.2] 38)) := by rw [← hW2]; exact hide (lays_alloc (lays_new rfl) _)
      have b1 : Hid (W2.heap[wc.heap.size + 1]? = some (.cells #[.int .i64 at_] 3)) := by rw [← hW2]; exact hide (lays_new (by simp))
      have hs2 : wc.heap.size + 2 = W2.heap.size := by rw [← hW2]; simp
      clear hW2
      have hright := (unhide HW).right x (List.mem_of_getElem? (unhide HX))
      have hmb : 0 ≤ r ∧ r ≤ 8 := beh_nonneg ⟨g, rfl, (unhide HW).right⟩ (List.mem_of_getElem? (unhide HX)) (unhide HBS)
      have HRT := hide hright
      have HMB := hide hmb
      clear hright hmb
      have hjmp : x.1 = 9 ∨ x.1 = 10 → 0 ≤ x.2 := by
        intro hjz
        obtain ⟨_, _, hm⟩ := opS_kind (unhide HRT)
        have ho : opd x.1.toNat = 3 := by rcases hjz with hjz | hjz <;> rw [hjz] <;> rfl
        rw [ho] at hm
        exact (ixB_iff.1 (show ixB x.2 g.code.length = true from hm)).1
      have HJ := hide hjmp
      clear hjmp e1 y0 y1
      have hat24 : at_ ≤ 8796093022208 := by have := (unhide HW).most; have := unhide HL; omega
      refine (wpIn_wide (n := 9)).1 ?_
      refine wpIn_rangeFunc_ownG (α := Nat) (N := 2) rfl (by decide) (gf := 52) (lb := #[.pointer (some ⟨wc.heap.size, 0, none⟩), .pointer (some ⟨wc.heap.size + 1, 0, none⟩)]) rfl trivial (enters_of Tryd.func52 (by kernel_rfl) rfl)
        (following_stops 8 wc.heap.size (wc.heap.size + 1) x.1 x.2 at_ W2 (by decide) (cell_lays (unhide b0) 0) (cell_lays (unhide b0) 1) (cell_lays (unhide b1) 0) (unhide HJ) hat24)
        (fun h k => Eq.trans k h) (fun W l o o' hl _ _ _ => kpAt_put (by omega)) (Below.refl _ _) (fun _ => rfl)
        (LoopI p g n H at_ h r B W2) (LoopX p g n H at_ h r B (w.heap.size + 1) w W2) (loopI_own (by have := (unhide HHc).lt; omega)) (fun c => loopX_own (by have := (unhide HHc).lt; omega) (by omega) (by omega) c) ?start
        (fun j => { tmps := #[.agg #[.slice oa lp cp, .slice (some ⟨bc, oc, none⟩) lc cc, .slice (some ⟨B, 0, none⟩) lc lc], .int .i64 at_, .int .i64 h, .pointer (some ⟨w.heap.size, 0, none⟩), undef, undef, .pointer (some ⟨w.heap.size + 1, 0, none⟩), .pointer (some ⟨Bm, 0, none⟩), .bool true, .int .i64 j, .int .i64 at_, .pointer (some ⟨w.heap.size, 1, none⟩), .slice (some ⟨bc, oc, none⟩) lc cc, .int .i64 lc, .bool false, .pointer (some ⟨w.heap.size, 2, none⟩), .slice (some ⟨B, 0, none⟩) lc lc, .int .i64 at_, .pointer (some ⟨B, at_, none⟩), .int .i64 (-1), .bool false, undef, undef, undef, undef, undef, undef, undef, .pointer (some ⟨w.heap.size, 2, none⟩), .slice (some ⟨B, 0, none⟩) lc lc, .int .i64 at_, .int .i64 h, .pointer (some ⟨B, at_, none⟩), u33, u34, u35, u36, u37, u38, u39, u40, u41, u42, u43, .bool true, .bool false, .pointer (some ⟨w.heap.size, 1, none⟩), .slice (some ⟨bc, oc, none⟩) lc cc, .int .i64 at_, .pointer (some ⟨bc, oc + at_ * 2, none⟩), .agg #[.int .i64 x.1, .int .i64 x.2], .int .i64 at_, .func (.func 52) #[] #[.pointer (some ⟨wc.heap.size, 0, none⟩), .pointer (some ⟨wc.heap.size + 1, 0, none⟩)], .int .i64 j, undef, undef, undef, undef, undef], defers := [] }) ?assign ?body ?done ?stop
      case start => exact ⟨H.set at_ h, rfl, (unhide HHc).kept (unhide K2), KeptX.refl _ _⟩
      case assign =>
        intro l j W K hK
        gi_wp2
        exact hK
      case body =>
        rintro l pre j W ⟨H', hc', hH', hK'⟩ _
        have hBc := (unhide HHc).lt
        have hW0 := hK'.lays (b := w.heap.size) (by omega) (lays_kept (unhide K2) (unhide L0c))
        have hWr := hK'.lays (b := w.heap.size + 1) (by omega) (lays_kept (unhide K2) (unhide L1c))
        have e0 := cell_lays hW0 0
        have e1 := cell_lays hW0 1
        have e2 := cell_lays hW0 2
        simp only [List.getElem?_toArray, List.getElem?_cons_zero, List.getElem?_cons_succ] at e0 e1 e2
        have em' := hK'.cell (p := ⟨Bm, 0, none⟩) (by simp; omega) ((unhide K2).cell em)
        have hR : Right p g.code := ⟨g, rfl, (unhide HW).right⟩
        have hlen2 : (H.set at_ h).length = g.code.length := by rw [List.length_set]; exact unhide HN
        obtain ⟨hm1, _, _, _⟩ := comes_ok hR (comeS p g.code n) (fun H j m H' a b => come_ok hR n H j m H' a b) pre (H.set at_ h) r H' hlen2 (unhide HMB).1 hc'
        have hu1 := (unv_mono (H.set at_ h) H' hm1.1 hm1.2).1
        have hu2 := unv_set H at_ h (unhide HS) (by omega)
        have hu3 := unhide HU
        have hic := (unhide HI) H' j r W ⟨(unhide HW).prog, (unhide HW).code, (unhide HW).kinds, (unhide HW).right, (unhide HW).most, KeptX.kept ((unhide KKc).trans (unhide K2)) (unhide HW).new hK', (unhide HW).new, hH', hm1.1.trans hlen2⟩ (unhide HMB).1 (unhide HMB).2 (by omega)
        have HIC := hide hic
        have HW0 := hide hW0
        have HWR := hide hWr
        have HC' := hide hc'
        have HK' := hide hK'
        clear hic hW0 hWr hc' hm1 hu1 hu2 hu3 hR hlen2 hK' hH'
        have hd : 1 ≤ 9 - 1 - 1 := by decide
        gi_wp2_with fail
        refine ⟨trivial, (CallsIn.inRound l (callsIn_wide.2 (unhide HIC))).mono ?_⟩
        rintro e w3 ⟨b, H3, hc3, rfl, hH3, hk3⟩
        have HC3 := hide hc3
        have hr0 := hk3.lays (b := w.heap.size + 1) (by omega) (unhide HWR)
        have z0 := cell_lays hr0 0
        have z1 := frozen_lays hr0 0
        simp only [List.getElem?_toArray, List.getElem?_cons_zero] at z0
        have HH3 := hide hH3
        have HK3 := hide hk3
        have HR0 := hide hr0
        clear hc3 hH3 hk3 hr0 HIC
        have hkf : Hid (KeepsFrom W2.heap.size W w3) := ⟨(unhide HK3).size, fun k o hk ho _ => ((unhide HK3).block k (Array.getElem?_eq_some_iff.1 ho).1 (by omega)).trans ho⟩
        have hsnoc := comesS_snoc (comeS p g.code n) pre j (H.set at_ h) r
        rw [unhide HC'] at hsnoc
        have HSN := hide hsnoc
        clear hsnoc
        cases b with
        | true =>
          gi_wp2
          refine ⟨unhide hkf, ?_, H3, ?_, unhide HH3, (unhide HK').trans (unhide HK3)⟩
          · have hbx := (unhide HK').lays (b := wc.heap.size + 1) (by omega) (unhide b1)
            exact World.cell?_of_block ((unhide HK3).block (wc.heap.size + 1) (Array.getElem?_eq_some_iff.1 hbx).1 (by omega))
          · rw [unhide HSN]; exact unhide HC3
        | false =>
          gi_wp2
          refine ⟨(unhide hkf).trans ((KeepsOthers.setCell _ _ _).from _), rfl, H3, ?_, (unhide HH3).other (by simp; omega) _, ?_, ?_, ?_⟩
          · rw [unhide HSN]; exact unhide HC3
          · exact cell_lays (lays_set (unhide HR0) 0 _) 0
          · exact (((unhide KXc).trans (.of (unhide K2))).trans ((unhide HK').trans (unhide HK3))).setCell (.inr (by simp)) _
          · have a1 := (unhide HK').size
            have a2 := (unhide HK3).size
            simp only [World.setCell, Array.size_modify]
            omega
      case done =>
        rintro D xs W hD rfl ⟨H', hc', hH', hK'⟩ hDef
        have hBc := (unhide HHc).lt
        have hWr := hK'.lays (b := w.heap.size + 1) (by omega) (lays_kept (unhide K2) (unhide L1c))
        have z0 := cell_lays hWr 0
        have z1 := frozen_lays hWr 0
        simp only [List.getElem?_toArray, List.getElem?_cons_zero] at z0
        have HWR := hide hWr
        have HC' := hide hc'
        have HK' := hide hK'
        have HH' := hide hH'
        have HD := hide hDef
        clear hWr hc' hK' hH' hDef
        go_wp2
        have hK4 := (KeepsOthers.setCell W ⟨w.heap.size + 1, 0, none⟩ (.bool true)).same D _ (unhide HD) rfl
        have hl5 : ((W.setCell ⟨w.heap.size + 1, 0, none⟩ (.bool true)).putObj D (.deferred none)).heap[w.heap.size + 1]? = _ := (World.putObj_heap_other (by omega)).trans (lays_set (unhide HWR) 0 _)
        have hc5 := cell_lays hl5 0
        simp only [Array.setIfInBounds, List.size_toArray, List.length_cons, List.length_nil] at hc5
        refine ⟨by simp, .inl ⟨_, _, rfl, run_takeDeferred hK4, ?_⟩⟩
        refine ⟨.bool true, by simp [results, Tryd.results34, go_sem, hc5], true, H', ?_, rfl, ?_, ?_⟩
        · have := unhide HL
          have hxd := getD_of_lt g.code at_ (0, 0) (by omega)
          rw [unhide HX] at hxd
          unfold comeS
          rw [if_neg (by omega), if_pos (unhide HS), ← Option.some.inj hxd, unhide HBS]
          exact unhide HC'
        · exact (World.putObj_heap_other (by omega)).trans ((unhide HH').other (p := ⟨w.heap.size + 1, 0, none⟩) (show w.heap.size + 1 ≠ B by omega) _)
        · refine ((((unhide KXc).trans (.of (unhide K2))).trans (unhide HK')).setCell (p := ⟨w.heap.size + 1, 0, none⟩) (.inr (Nat.le_succ _)) (.bool true)).below ?_
          exact belowK_b (w := w) (Nat.le_refl _) _ D _ _ (by omega) hK4 rfl rfl
      case stop =>
        rintro D c pre W hD ⟨rr, hpre⟩ ⟨rfl, H', hc', hH', hcr, hK', _⟩ hDef
        have HC' := hide hc'
        have HP' := hide hpre
        have HK' := hide hK'
        have HH' := hide hH'
        have HD := hide hDef
        have HCR := hide hcr
        clear hc' hpre hK' hH' hDef
        gi_wp2
        have hc5 : (W.putObj D (.deferred none)).cell? ⟨w.heap.size + 1, 0, none⟩ = some (.bool false) := (World.cell?_of_block (World.putObj_heap_other (by simp; omega))).trans hcr
        refine ⟨by simp, .inl ⟨_, _, rfl, run_takeDeferred (unhide HD), ?_⟩⟩
        refine ⟨.bool false, by simp [results, Tryd.results34, go_sem, hc5], false, H', ?_, rfl, ?_, ?_⟩
        · have := unhide HL
          have hxd := getD_of_lt g.code at_ (0, 0) (by omega)
          rw [unhide HX] at hxd
          unfold comeS
          rw [if_neg (by omega), if_pos (unhide HS), ← Option.some.inj hxd, unhide HBS, ← unhide HP']
          exact comesS_prefix _ _ _ _ _ (unhide HC') rr
        · have := (unhide HHc).lt
          exact (World.putObj_heap_other (by omega)).trans (unhide HH')
        · exact (unhide HK').below (belowK_b (w := w) (Nat.le_refl _) _ D _ _ (by omega) (unhide HD) rfl rfl)
end Go.Proofs.YtkepbeeioalmbabDoor
