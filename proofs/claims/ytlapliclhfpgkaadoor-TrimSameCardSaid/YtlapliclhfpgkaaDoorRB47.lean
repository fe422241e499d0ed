/- TrimD, TrimG, StateB -/
import Derived.Test.YtlapliclhfpgkaaDoorRB46
import Derived.Deep.RegionWith
import Derived.Deep.DeepCutAuto
import Derived.Test.YtlapliclhfpgkaaDoorRB12
import Derived.Test.YtlapliclhfpgkaaDoorRB45
import Derived.Lib.SmallJoins
namespace Go.Proofs.YtlapliclhfpgkaaDoor
open Go.RowKit
theorem infoFun : (Tryd.prog.info? 49).map (fun i => (i.zero, i.size, i.bytes)) = some (some (.agg #[.int .i64 0, .int .i64 0, .slice none 0 0]), 3, 40) := by kernel_rfl
theorem make_funcs (m : Nat) (hm : m ≤ 1000000) (u : World) : (Instr.makeSlice 22 (.int .i64 m) (.int .i64 m)).run Tryd.prog u =
    .ok (.slice (some ⟨u.heap.size, 0, none⟩) m m) (u.alloc (.cells (madeCells #[.int .i64 0, .int .i64 0, .slice none 0 0] (m * 3)) 49)) := by
  obtain ⟨i0, hi, hz0, hz1, hz2⟩ := info_parts infoFun
  have h := run_make (P := Tryd.prog) u 22 49 i0 (.agg #[.int .i64 0, .int .i64 0, .slice none 0 0]) Tryd.underlying22 hi hz0 .i64 .i64 (m : Int) (m : Int) (by omega) (by omega) (by rw [hz2]; omega) (by omega)
  rw [Int.toNat_natCast] at h
  simpa [hz1, Value.cells] using h
def FnsIn (N : Nat) (w : World) (B n : Nat) (q : Nat → Fn) (k : Nat) : Prop :=
  ∃ cur : Array Value, w.heap[B]? = some (.cells cur 49) ∧ cur.size = n * 3 ∧ ∀ j, j < k → ∃ cv, cur[j * 3]? = some (.int .i64 (q j).args) ∧ cur[j * 3 + 1]? = some (.int .i64 (q j).locals) ∧ cur[j * 3 + 2]? = some cv ∧ CodeNew N w cv (q j).code
theorem FnsIn.kept {N : Nat} {w w' : World} {B n k : Nat} {q : Nat → Fn} (h : FnsIn N w B n q k) (hk : Kept w w') : FnsIn N w' B n q k := by
  obtain ⟨cur, h1, h2, h3⟩ := h
  refine ⟨cur, lays_kept hk h1, h2, fun j hj => ?_⟩
  obtain ⟨cv, a, b, c, d⟩ := h3 j hj
  exact ⟨cv, a, b, c, d.kept hk⟩
theorem FnsIn.there {N : Nat} {w : World} {B n k : Nat} {q : Nat → Fn} (h : FnsIn N w B n q k) {j : Nat} (hj : j < n * 3) : (∃ u, w.cell? ⟨B, j, none⟩ = some u) ∧ w.frozen? ⟨B, j, none⟩ = false := by
  obtain ⟨cur, h1, h2, _⟩ := h
  refine ⟨⟨cur[j]'(by omega), ?_⟩, frozen_lays h1 j⟩
  rw [cell_lays h1]
  exact Array.getElem?_eq_getElem _
theorem FnsIn.step {N : Nat} {w : World} {B n k : Nat} {q : Nat → Fn} (h : FnsIn N w B n q k) (hk : k < n) (hB : B < N) {cv : Value} (hc : CodeNew N w cv (q k).code) :
    FnsIn N (((w.setCell ⟨B, k * 3, none⟩ (.int .i64 (q k).args)).setCell ⟨B, k * 3 + 1, none⟩ (.int .i64 (q k).locals)).setCell ⟨B, k * 3 + 2, none⟩ cv) B n q (k + 1) := by
  obtain ⟨cur, h1, h2, h3⟩ := h
  have hx : KeptX B w (((w.setCell ⟨B, k * 3, none⟩ (.int .i64 (q k).args)).setCell ⟨B, k * 3 + 1, none⟩ (.int .i64 (q k).locals)).setCell ⟨B, k * 3 + 2, none⟩ cv) :=
    (((KeptX.refl B w).setCell (p := ⟨B, k * 3, none⟩) (.inl rfl) _).setCell (p := ⟨B, k * 3 + 1, none⟩) (.inl rfl) _).setCell (p := ⟨B, k * 3 + 2, none⟩) (.inl rfl) _
  refine ⟨_, lays_set (lays_set (lays_set h1 _ _) _ _) _ _, by simp [h2], fun j hj => ?_⟩
  by_cases e : j = k
  · subst e
    refine ⟨cv, ?_, ?_, ?_, hc.keptX hB hx⟩
    · simp only [Array.getElem?_setIfInBounds, Array.size_setIfInBounds]
      rw [if_neg (by omega), if_neg (by omega), if_pos trivial, if_pos (by omega)]
    · simp only [Array.getElem?_setIfInBounds, Array.size_setIfInBounds]
      rw [if_neg (by omega), if_pos trivial, if_pos (by omega)]
    · simp only [Array.getElem?_setIfInBounds, Array.size_setIfInBounds]
      rw [if_pos trivial, if_pos (by omega)]
  · obtain ⟨cv', a, b, c, d⟩ := h3 j (by omega)
    refine ⟨cv', ?_, ?_, ?_, d.keptX hB hx⟩
    · simp only [Array.getElem?_setIfInBounds, Array.size_setIfInBounds]
      rw [if_neg (by omega), if_neg (by omega), if_neg (by omega)]; exact a
    · simp only [Array.getElem?_setIfInBounds, Array.size_setIfInBounds]
      rw [if_neg (by omega), if_neg (by omega), if_neg (by omega)]; exact b
    · simp only [Array.getElem?_setIfInBounds, Array.size_setIfInBounds]
      rw [if_neg (by omega), if_neg (by omega), if_neg (by omega)]; exact c
theorem FnsIn.prog {N : Nat} {w : World} {B n : Nat} {p q : List Fn} {cap : Nat} (h : FnsIn N w B n (trimF p) n) (hn : n = p.length) (hq : q = trimP p) (h8 : n ≤ 8796093022208) : ProgAt w (.slice (some ⟨B, 0, none⟩) n cap) q := by
  subst hq
  obtain ⟨cur, h1, h2, h3⟩ := h
  have hl : (trimP p).length = n := by simp [trimP, hn]
  refine ⟨_, cap, by rw [hl], by omega, fun j f hf => ?_⟩
  have hj : j < n := by rw [← hl]; exact (List.getElem?_eq_some_iff.1 hf).1
  obtain rfl : trimF p j = f := by
    have := trimP_get (p := p) (k := j) (by omega)
    simp only [List.getD, hf, Option.getD_some] at this
    exact this.symm
  obtain ⟨cv, a, b, c, d⟩ := h3 j hj
  refine ⟨B, 0, cv, rfl, ?_, ?_, ?_, d.code⟩
  · rw [cell_lays h1, Nat.zero_add]; exact a
  · rw [cell_lays h1, Nat.zero_add]; exact b
  · rw [cell_lays h1, Nat.zero_add]; exact c
def taS (p : List Fn) : List Fn := if progS p = 0 then trimP p else []
def TaPost (p : List Fn) (w : World) (e : Ending) (w' : World) : Prop :=
  ∃ v, e = .returned (.tuple #[v, .int .i64 (progS p)]) ∧ ProgAt w' v (taS p) ∧ Kept w w'
theorem tfS_right {p : List Fn} (h : progS p = 0) {k : Nat} (hk : k < p.length) : tfS p k = (trimF p k, 0) := by
  obtain ⟨_, _, hck⟩ := progS_right h
  have hz : (hgtS p k).2 = 0 := by
    rw [hgtS_E (hck k hk)]
    unfold hgtE
    rw [progS_heights h hk]
  unfold tfS
  rw [if_pos hz, Int.toNat_natCast]
set_option maxHeartbeats 2000000 in
theorem trimAll_bad (p : List Fn) (v : Value) (w : World) (hp : ProgAt w v p) (hk : KindsAt w) (hz : progS p ≠ 0) :
    Calls Tryd.prog 8 #[v] w fun e w' => TaPost p w e w' := by
  obtain ⟨oa, cap, rfl, _, _⟩ := id hp
  have hz' : (progS p != 0) = true := by rw [bne_iff_ne]; exact hz
  have ht : taS p = [] := by unfold taS; rw [if_neg hz]
  have hck := progCheck_any p _ w hp hk
  have HCK := hide hck
  unfold TaPost
  rw [ht]
  generalize progS p = r at *
  clear hp hk hz hck ht
  go_enter Tryd.func8, Tryd.ntmps8
  go_wp2_with fail
  refine (unhide HCK).mono ?_
  rintro e w1 ⟨rfl, hk1⟩
  have H1 := hide hk1
  clear hk1 HCK
  go_wp2
  go_ret2
  exact ⟨.slice none 0 0, rfl, nilProg _, unhide H1⟩
set_option maxHeartbeats 4000000 in
theorem trimAll_go (p : List Fn) (oa : Option Addr) (n cap : Nat) (w : World) (hn : n = p.length) (hp : ProgAt w (.slice oa n cap) p) (hk : KindsAt w) (hz : progS p = 0) :
    Calls Tryd.prog 8 #[.slice oa n cap] w fun e w' => TaPost p w e w' := by
  obtain ⟨hn5, hn0, _⟩ := progS_right hz
  have ht : taS p = trimP p := by unfold taS; rw [if_pos hz]
  have htf : ∀ k : Nat, k < n → tfS p k = (trimF p k, 0) := fun k hk => tfS_right hz (by omega)
  have hck := progCheck_is p _ 0 w hp hk hz
  have hmk := make_funcs n (by omega)
  unfold TaPost
  rw [ht, hz]
  have hn5n : n ≤ 5 := by omega
  have HCK := hide hck
  have HP := hide hp
  have HK := hide hk
  have HN := hide hn
  have HTF := hide htf
  clear hp hk hz hck hn ht htf hn0
  go_enter Tryd.func8, Tryd.ntmps8
  go_wp2_with fail
  refine (unhide HCK).mono ?_
  rintro e w1 ⟨rfl, hk1⟩
  have H1 := hide hk1
  have HF0 : Hid (FnsIn (w1.heap.size + 1) (w1.alloc (.cells (madeCells #[.int .i64 0, .int .i64 0, .slice none 0 0] (n * 3)) 49)) w1.heap.size n (trimF p) 0) :=
    ⟨_, lays_new rfl, size_madeCells _ _, fun j hj => by omega⟩
  clear hk1 HCK
  go_wp2
  go_loopw [17] (fun s wr => ∃ k : Nat, k ≤ n ∧ s = .int .i64 k ∧ Hid (FnsIn (w1.heap.size + 1) wr w1.heap.size n (trimF p) k) ∧ Hid (KeptX w1.heap.size w1 wr) ∧ w1.heap.size + 1 ≤ wr.heap.size) (fun s _ => n - (intOf s).toNat)
  case atStart => exact ⟨0, Nat.zero_le _, rfl, HF0, KeptX.of ((Kept.refl _).alloc _), by simp⟩
  case round =>
    obtain ⟨k, hkm, rfl, HF, HKr, hsz⟩ := hrel
    by_cases hlt : k < n
    · have hkr : Kept w wr := KeptX.kept (unhide H1) (unhide H1).size (unhide HKr)
      have hfc := trimFunc_any p (.slice oa n cap) k wr ((unhide HP).kept hkr) ((unhide HK).kept hkr)
      rw [(unhide HTF) k hlt] at hfc
      have HFC := hide hfc
      clear hfc hkr
      go_wp2_with fail
      refine (unhide HFC).mono ?_
      rintro e w2 ⟨cv, rfl, hcv, hk2⟩
      have hF2 := (unhide HF).kept hk2
      obtain ⟨⟨u0, e0⟩, z0⟩ := hF2.there (j := k * 3) (by omega)
      obtain ⟨⟨u1, e1⟩, z1⟩ := hF2.there (j := k * 3 + 1) (by omega)
      obtain ⟨⟨u2, e2⟩, z2⟩ := hF2.there (j := k * 3 + 2) (by omega)
      have hF3 := hF2.step hlt (Nat.lt_succ_self _) (hcv.mono hsz)
      obtain ⟨oa6, cp6, he6, _, _⟩ := id hcv
      subst he6
      have HF3 := hide hF3
      have hs2 := hk2.size
      have HK2 := hide ((unhide HKr).trans (.of hk2))
      clear HFC hF2 hF3 hcv hk2
      go_wp2
      go_roundw
      case rel => exact ⟨k + 1, by omega, by go_num, HF3, (((unhide HK2).setCell (p := ⟨w1.heap.size, k * 3, none⟩) (.inl rfl) _).setCell (p := ⟨w1.heap.size, k * 3 + 1, none⟩) (.inl rfl) _).setCell (p := ⟨w1.heap.size, k * 3 + 2, none⟩) (.inl rfl) _, by simp [World.setCell]; omega⟩
      case measure => simp [intOf]; omega
    · have hke : k = n := by omega
      have hf := unhide HF
      rw [hke] at hf
      have HFN := hide hf
      clear hke hf
      go_wp2
      go_ret2
      exact ⟨_, rfl, (unhide HFN).prog (unhide HN) rfl (by omega), KeptX.kept (unhide H1) (unhide H1).size (unhide HKr)⟩
theorem trimAll_any (p : List Fn) (v : Value) (w : World) (hp : ProgAt w v p) (hk : KindsAt w) :
    Calls Tryd.prog 8 #[v] w fun e w' => TaPost p w e w' := by
  by_cases hz : progS p = 0
  · obtain ⟨oa, cap, rfl, _, _⟩ := id hp
    exact trimAll_go p oa _ cap w rfl hp hk hz
  · exact trimAll_bad p v w hp hk hz
end Go.Proofs.YtlapliclhfpgkaaDoor
namespace Go.Proofs.YtlapliclhfpgkaaDoor
open Go.RowKit
set_option maxHeartbeats 4000000 in
theorem sameFuncs_same (ar lo : Int) (c : List (Int × Int)) (cv1 cv2 : Value) (w : World) (h1 : CodeAt w cv1 c) (h2 : CodeAt w cv2 c) :
    Calls Tryd.prog 23 #[.agg #[.int .i64 ar, .int .i64 lo, cv1], .agg #[.int .i64 ar, .int .i64 lo, cv2]] w fun e w' => e = .returned (.bool true) ∧ Kept w w' := by
  obtain ⟨oa1, cap1, rfl, hl8, i1⟩ := h1
  obtain ⟨oa2, cap2, rfl, _, i2⟩ := h2
  have hn1 : (ar != ar) = false := by simp
  have hn2 : (lo != lo) = false := by simp
  have hn3 : ((c.length : Int) != (c.length : Int)) = false := by simp
  generalize hm : c.length = m at *
  have HI1 := hide i1
  have HI2 := hide i2
  have HM := hide hm
  clear i1 i2 hm
  go_enter Tryd.func23, Tryd.ntmps23
  go_wp2
  have L0 : Hid (((w.alloc (.cells #[.int .i64 ar, .int .i64 lo, .slice oa1 m cap1] 49)).alloc (.cells #[.int .i64 ar, .int .i64 lo, .slice oa2 m cap2] 49)).heap[w.heap.size]? = _) := hide (lays_alloc (lays_new rfl) _)
  have L1 : Hid (((w.alloc (.cells #[.int .i64 ar, .int .i64 lo, .slice oa1 m cap1] 49)).alloc (.cells #[.int .i64 ar, .int .i64 lo, .slice oa2 m cap2] 49)).heap[w.heap.size + 1]? = _) := hide (lays_new (by simp))
  generalize hW : (w.alloc (.cells #[.int .i64 ar, .int .i64 lo, .slice oa1 m cap1] 49)).alloc (.cells #[.int .i64 ar, .int .i64 lo, .slice oa2 m cap2] 49) = W at *
  have HKW : Hid (Kept w W) := by rw [← hW]; exact ((Kept.refl w).alloc _).alloc _
  clear hW
  go_loopw [5] (fun s wr => ∃ k : Nat, k ≤ m ∧ s = .int .i64 k ∧ Hid (Kept W wr)) (fun s _ => m - (intOf s).toNat)
  case atStart => exact ⟨0, Nat.zero_le _, rfl, Kept.refl _⟩
  case round =>
    obtain ⟨k, hkm, rfl, HKr⟩ := hrel
    have b0 := cell_lays (lays_kept (unhide HKr) (unhide L0)) 2
    have b1 := cell_lays (lays_kept (unhide HKr) (unhide L1)) 2
    simp only [List.getElem?_toArray, List.getElem?_cons_zero, List.getElem?_cons_succ] at b0 b1
    by_cases hlt : k < m
    · obtain ⟨⟨kd, a⟩, hx⟩ : ∃ x, c[k]? = some x := ⟨_, List.getElem?_eq_getElem (by rw [unhide HM]; exact hlt)⟩
      obtain ⟨p1, o1, rfl, x0, x1⟩ := (unhide HI1) k _ hx
      obtain ⟨p2, o2, rfl, y0, y1⟩ := (unhide HI2) k _ hx
      have hk := (unhide HKW).trans (unhide HKr)
      have x0' := hk.cell x0
      have x1' := hk.cell x1
      have y0' := hk.cell y0
      have y1' := hk.cell y1
      simp only at x0' x1' y0' y1'
      clear hk x0 x1 y0 y1 hx
      go_wp2
      go_quiet (fail)
      go_wp2
      go_roundw
      case rel => exact ⟨k + 1, by omega, by go_num, (unhide HKr).drewN _⟩
      case measure => simp [intOf]; omega
    · go_wp2
      go_ret
      exact ⟨rfl, (unhide HKW).trans (unhide HKr)⟩
end Go.Proofs.YtlapliclhfpgkaaDoor
namespace Go.Proofs.YtlapliclhfpgkaaDoor
open Go.RowKit Go.ChangeShapes Go.WideShapes Go.ChangeAt
theorem cellsInts : Tryd.prog.cellsOf 27 = 1 := by kernel_rfl
theorem cellsFrame : Tryd.prog.cellsOf 64 = 4 := by kernel_rfl
theorem cellsFrames : Tryd.prog.cellsOf 60 = 1 := by kernel_rfl
theorem cellsFiber : Tryd.prog.cellsOf 62 = 2 := by kernel_rfl
theorem cellsFibers : Tryd.prog.cellsOf 33 = 1 := by kernel_rfl
theorem cellsState : Tryd.prog.cellsOf 35 = 3 := by kernel_rfl
theorem bytesIntT : Tryd.prog.bytesOf 3 = 8 := by kernel_rfl
theorem bytesFrame : Tryd.prog.bytesOf 64 = 64 := by kernel_rfl
theorem bytesFiber : Tryd.prog.bytesOf 62 = 32 := by kernel_rfl
theorem typeFrame : ∃ f0 f1 f2 f3 : Field, Tryd.prog.underlying 64 = some (.struct #[f0, f1, f2, f3]) ∧ f0.type = 3 ∧ f0.offset = 0 ∧ f1.type = 3 ∧ f1.offset = 1 ∧ f2.type = 27 ∧ f2.offset = 2 ∧ f3.type = 27 ∧ f3.offset = 3 := ⟨_, _, _, _, Tryd.underlying64, rfl, rfl, rfl, rfl, rfl, rfl, rfl, rfl⟩
theorem typeFiber : ∃ f0 f1 : Field, Tryd.prog.underlying 62 = some (.struct #[f0, f1]) ∧ f0.type = 60 ∧ f0.offset = 0 ∧ f1.type = 3 ∧ f1.offset = 1 := ⟨_, _, Tryd.underlying62, rfl, rfl, rfl, rfl⟩
theorem typeState : ∃ f0 f1 f2 : Field, Tryd.prog.underlying 35 = some (.struct #[f0, f1, f2]) ∧ f0.type = 33 ∧ f0.offset = 0 ∧ f1.type = 3 ∧ f1.offset = 1 ∧ f2.type = 27 ∧ f2.offset = 2 := ⟨_, _, _, Tryd.underlying35, rfl, rfl, rfl, rfl, rfl, rfl⟩
section
variable {H : Type} {enc : TypeId × Value → H} {w : World} {base : Nat} {spare : Nat → Bool} {held : Bool}
theorem open_ints {fuel : Nat} {v : Value} {x : DataW H × List MemPlace} (h : DataW.trod enc Tryd.prog w base spare held fuel 27 [v] = some x) (hw : ∀ n, n ∈ x.1.weights Tryd.prog 27 → n ≤ reachBytes) : ∃ l, IntsW w v l := by
  rcases Deep.open_slice Tryd.underlying27 h with ⟨e, _⟩ | ⟨a, len, cap, m, n, D, Pl, e, _, hlc, _, hm, hx, hi⟩
  · simp at e
    subst e
    exact ⟨[], IntsW.nil _⟩
  · simp at e
    subst e
    have hlm : len ≤ m := by rw [hm]; split <;> omega
    have hlen : len * 8 ≤ 140737488351232 := by
      have := hw ((((List.range len).map D).length + ((List.range (m - len)).map fun j => D (len + j)).length) * Tryd.prog.bytesOf 3) (by rw [hx]; simp [DataW.weights, Tryd.underlying27])
      rw [bytesIntT, reach_eq] at this
      simp at this
      omega
    have hall : ∀ i, i < len → ∃ y : Int, w.cell? (a.add (i * 1)) = some (.int .i64 y) := by
      intro i hil
      obtain ⟨cs', hc, ht⟩ := hi i (by omega)
      rw [cellsInt] at hc
      obtain ⟨_, hcl, hcell⟩ := World.cells?_some hc
      obtain ⟨k, e0, _, _⟩ := DataW.trod_int Tryd.underlying3 ht
      subst e0
      refine ⟨k, ?_⟩
      have := hcell 0 (by omega); rw [Deep.add_add] at this; simpa using this
    obtain ⟨g, hg⟩ := Deep.choose_lt hall
    refine ⟨(List.range len).map g, some a, cap, by simp, by simp; omega, fun i y hy => ?_⟩
    rw [List.getElem?_map, Option.map_eq_some_iff] at hy
    obtain ⟨j, hj, rfl⟩ := hy
    have hjl : i < len := by simpa using (List.getElem?_eq_some_iff.1 hj).1
    obtain rfl : i = j := by simpa [hjl] using hj
    have hs : a.spot = none := by
      have := hg 0 (by omega)
      exact spot_none (by simpa [Addr.add] using this)
    refine ⟨a.block, a.off, by cases a; simp_all, ?_⟩
    have := hg i hjl; rwa [add_of_spot hs, Nat.mul_one] at this
theorem open_frames {fuel : Nat} {v : Value} {x : DataW H × List MemPlace} (h : DataW.trod enc Tryd.prog w base spare held fuel 60 [v] = some x) (hw : ∀ n, n ∈ x.1.weights Tryd.prog 60 → n ≤ reachBytes) : ∃ l, FramesAt w v l := by
  rcases Deep.open_slice Tryd.underlying60 h with ⟨e, _⟩ | ⟨a, len, cap, m, n, D, Pl, e, _, hlc, _, hm, hx, hi⟩
  · simp at e
    subst e
    exact ⟨[], FramesAt.nil _⟩
  · simp at e
    subst e
    have hlm : len ≤ m := by rw [hm]; split <;> omega
    have hlen : len * 64 ≤ 140737488351232 := by
      have := hw ((((List.range len).map D).length + ((List.range (m - len)).map fun j => D (len + j)).length) * Tryd.prog.bytesOf 64) (by rw [hx]; simp [DataW.weights, Tryd.underlying60])
      rw [bytesFrame, reach_eq] at this
      simp at this
      omega
    have hall : ∀ i, i < len → ∃ y : Fr × Value × Value, w.cell? (a.add (i * 4)) = some (.int .i64 y.1.fn) ∧ w.cell? (a.add (i * 4 + 1)) = some (.int .i64 y.1.at_) ∧ w.cell? (a.add (i * 4 + 2)) = some y.2.1 ∧ w.cell? (a.add (i * 4 + 3)) = some y.2.2 ∧ IntsW w y.2.1 y.1.locals ∧ IntsW w y.2.2 y.1.stack := by
      intro i hil
      obtain ⟨cs', hc, ht⟩ := hi i (by omega)
      rw [cellsFrame] at hc
      obtain ⟨_, hcl, hcell⟩ := World.cells?_some hc
      obtain ⟨f0, f1, f2, f3, hu, t0, o0, t1, o1, t2, o2, t3, o3⟩ := typeFrame
      obtain ⟨y0, y1, y2, y3, n', hy, _, g0, g1, g2, g3⟩ := Joins.trod_struct4 hu ht
      rw [t0, o0, cellsInt] at g0
      rw [t1, o1, cellsInt] at g1
      rw [t2, o2, cellsInts] at g2
      rw [t3, o3, cellsInts] at g3
      obtain ⟨fn, e0, r0, _⟩ := DataW.trod_int Tryd.underlying3 g0
      obtain ⟨at_, e1, r1, _⟩ := DataW.trod_int Tryd.underlying3 g1
      match cs', hcl with
      | [c0, c1, c2, c3], _ =>
        simp at e0 e1
        subst e0 e1
        simp only [List.drop, List.take] at g2 g3
        have hD : D i = .agg [y0.1, y1.1, y2.1, y3.1] := congrArg Prod.fst hy
        have hmem : ∀ q, (q ∈ y2.1.weights Tryd.prog 27 ∨ q ∈ y3.1.weights Tryd.prog 27) → q ≤ reachBytes := fun q hq => hw q (by
          rw [hx]
          simp only [DataW.weights, Tryd.underlying60, List.mem_cons, List.mem_append]
          refine Or.inr (Or.inl (weightsAll_mem (d := D i) (List.mem_map.2 ⟨i, by simpa using hil, rfl⟩) q ?_))
          rw [hD]
          simp only [DataW.weights, hu, DataW.weightsEach, List.map_cons, List.map_nil, t0, t1, t2, t3, List.mem_append]
          rcases hq with hq | hq
          · exact Or.inr (Or.inr (Or.inl hq))
          · exact Or.inr (Or.inr (Or.inr (Or.inl hq))))
        obtain ⟨l2, h2⟩ := open_ints g2 (fun q hq => hmem q (.inl hq))
        obtain ⟨l3, h3⟩ := open_ints g3 (fun q hq => hmem q (.inr hq))
        refine ⟨(⟨fn, at_, l2, l3⟩, c2, c3), ?_, ?_, ?_, ?_, h2, h3⟩
        · have := hcell 0 (by omega); rw [Deep.add_add] at this; simpa using this
        · have := hcell 1 (by omega); rw [Deep.add_add] at this; simpa using this
        · have := hcell 2 (by omega); rw [Deep.add_add] at this; simpa using this
        · have := hcell 3 (by omega); rw [Deep.add_add] at this; simpa using this
    have : Inhabited (Fr × Value × Value) := ⟨(Fr.zero, .nilIface, .nilIface)⟩
    obtain ⟨g, hg⟩ := Deep.choose_lt hall
    refine ⟨(List.range len).map fun i => (g i).1, some a, cap, by simp, ⟨by simp; omega, by simpa using hlc⟩, fun i y hy => ?_⟩
    rw [List.getElem?_map, Option.map_eq_some_iff] at hy
    obtain ⟨j, hj, rfl⟩ := hy
    have hjl : i < len := by simpa using (List.getElem?_eq_some_iff.1 hj).1
    obtain rfl : i = j := by simpa [hjl] using hj
    have hs : a.spot = none := by
      have := (hg 0 (by omega)).1
      simp only [Nat.zero_mul] at this
      exact spot_none (by simpa [Addr.add] using this)
    obtain ⟨k0, k1, k2, k3, k4, k5⟩ := hg i hjl
    refine ⟨a.block, a.off, (g i).2.1, (g i).2.2, by cases a; simp_all, ?_, ?_, ?_, ?_, k4, k5⟩
    · rwa [add_of_spot hs] at k0
    · rwa [add_of_spot hs, ← Nat.add_assoc] at k1
    · rwa [add_of_spot hs, ← Nat.add_assoc] at k2
    · rwa [add_of_spot hs, ← Nat.add_assoc] at k3
theorem open_fibers {fuel : Nat} {v : Value} {x : DataW H × List MemPlace} (h : DataW.trod enc Tryd.prog w base spare held fuel 33 [v] = some x) (hw : ∀ n, n ∈ x.1.weights Tryd.prog 33 → n ≤ reachBytes) : ∃ l, FibersAt w v l := by
  rcases Deep.open_slice Tryd.underlying33 h with ⟨e, _⟩ | ⟨a, len, cap, m, n, D, Pl, e, _, hlc, _, hm, hx, hi⟩
  · simp at e
    subst e
    exact ⟨[], FibersAt.nil _⟩
  · simp at e
    subst e
    have hlm : len ≤ m := by rw [hm]; split <;> omega
    have hlen : len * 32 ≤ 140737488351232 := by
      have := hw ((((List.range len).map D).length + ((List.range (m - len)).map fun j => D (len + j)).length) * Tryd.prog.bytesOf 62) (by rw [hx]; simp [DataW.weights, Tryd.underlying33])
      rw [bytesFiber, reach_eq] at this
      simp at this
      omega
    have hall : ∀ i, i < len → ∃ y : Fb × Value, w.cell? (a.add (i * 2)) = some y.2 ∧ w.cell? (a.add (i * 2 + 1)) = some (.int .i64 y.1.caller) ∧ FramesAt w y.2 y.1.frames := by
      intro i hil
      obtain ⟨cs', hc, ht⟩ := hi i (by omega)
      rw [cellsFiber] at hc
      obtain ⟨_, hcl, hcell⟩ := World.cells?_some hc
      obtain ⟨f0, f1, hu, t0, o0, t1, o1⟩ := typeFiber
      obtain ⟨y0, y1, n', hy, _, g0, g1⟩ := trod_struct2 hu ht
      rw [t0, o0, cellsFrames] at g0
      rw [t1, o1, cellsInt] at g1
      obtain ⟨ca, e1, r1, _⟩ := DataW.trod_int Tryd.underlying3 g1
      match cs', hcl with
      | [c0, c1], _ =>
        simp at e1
        subst e1
        simp only [List.drop, List.take] at g0
        have hD : D i = .agg [y0.1, y1.1] := congrArg Prod.fst hy
        obtain ⟨l0, h0⟩ := open_frames g0 (fun q hq => hw q (by
          rw [hx]
          simp only [DataW.weights, Tryd.underlying33, List.mem_cons, List.mem_append]
          refine Or.inr (Or.inl (weightsAll_mem (d := D i) (List.mem_map.2 ⟨i, by simpa using hil, rfl⟩) q ?_))
          rw [hD]
          simp only [DataW.weights, hu, DataW.weightsEach, List.map_cons, List.map_nil, t0, t1, List.mem_append]
          exact Or.inl hq))
        refine ⟨(⟨l0, ca⟩, c0), ?_, ?_, h0⟩
        · have := hcell 0 (by omega); rw [Deep.add_add] at this; simpa using this
        · have := hcell 1 (by omega); rw [Deep.add_add] at this; simpa using this
    have : Inhabited (Fb × Value) := ⟨(Fb.zero, .nilIface)⟩
    obtain ⟨g, hg⟩ := Deep.choose_lt hall
    refine ⟨(List.range len).map fun i => (g i).1, some a, cap, by simp, by simp; omega, fun i y hy => ?_⟩
    rw [List.getElem?_map, Option.map_eq_some_iff] at hy
    obtain ⟨j, hj, rfl⟩ := hy
    have hjl : i < len := by simpa using (List.getElem?_eq_some_iff.1 hj).1
    obtain rfl : i = j := by simpa [hjl] using hj
    have hs : a.spot = none := by
      have := (hg 0 (by omega)).1
      simp only [Nat.zero_mul] at this
      exact spot_none (by simpa [Addr.add] using this)
    obtain ⟨k0, k1, k2⟩ := hg i hjl
    refine ⟨a.block, a.off, (g i).2, by cases a; simp_all, ?_, ?_, k2⟩
    · rwa [add_of_spot hs] at k0
    · rwa [add_of_spot hs, ← Nat.add_assoc] at k1
theorem open_state {fuel : Nat} {cs : List Value} {x : DataW H × List MemPlace} (h : DataW.trod enc Tryd.prog w base spare held fuel 35 cs = some x) (hw : ∀ n, n ∈ x.1.weights Tryd.prog 35 → n ≤ reachBytes) : ∃ s, StAt w (.agg cs.toArray) s := by
  obtain ⟨f0, f1, f2, hu, t0, o0, t1, o1, t2, o2⟩ := typeState
  obtain ⟨y0, y1, y2, n', hy, hl, g0, g1, g2⟩ := Deep.trod_struct3 hu h
  rw [t0, o0, cellsFibers] at g0
  rw [t1, o1, cellsInt] at g1
  rw [t2, o2, cellsInts] at g2
  obtain ⟨nw, e1, r1, _⟩ := DataW.trod_int Tryd.underlying3 g1
  rw [cellsState] at hl
  match cs, hl with
  | [c0, c1, c2], _ =>
    simp at e1
    subst e1
    simp only [List.drop, List.take] at g0 g2
    have hD : x.1 = .agg [y0.1, y1.1, y2.1] := congrArg Prod.fst hy
    have hmem : ∀ q, (q ∈ y0.1.weights Tryd.prog 33 ∨ q ∈ y2.1.weights Tryd.prog 27) → q ≤ reachBytes := fun q hq => hw q (by
      rw [hD]
      simp only [DataW.weights, hu, DataW.weightsEach, List.map_cons, List.map_nil, t0, t1, t2, List.mem_append]
      rcases hq with hq | hq
      · exact Or.inl hq
      · exact Or.inr (Or.inr (Or.inl hq)))
    obtain ⟨lf, h0⟩ := open_fibers g0 (fun q hq => hmem q (.inl hq))
    obtain ⟨lo, h2⟩ := open_ints g2 (fun q hq => hmem q (.inr hq))
    exact ⟨⟨lf, nw, lo⟩, c0, c2, rfl, h0, h2⟩
end
end Go.Proofs.YtlapliclhfpgkaaDoor
