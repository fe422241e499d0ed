/- TextZb, TextZc, SamePr -/
import Derived.Test.YtjioipkfnekigaaGreatDoorTB17
import Derived.Test.YtjioipkfnekigaaGreatDoorTB01
import Derived.Test.YtjioipkfnekigaaGreatDoorChecked
import Derived.Deep.RegionWith
import Derived.Deep.DeepCutAuto
set_option maxRecDepth 100000
set_option maxHeartbeats 8000000
namespace Go.Proofs.YtjioipkfnekigaaGreatDoor
open Go.RowKit Go.Maps
theorem split_le (c : UInt8) : ∀ (l : List UInt8), ∀ x ∈ splitT c l, x.length ≤ l.length
  | [], x, h => by
    simp [splitT] at h
    subst h
    exact Nat.le_refl _
  | d :: l, x, h => by
    have ih := split_le c l
    unfold splitT at h
    split at h
    · rcases List.mem_cons.1 h with rfl | h
      · simp
      · have := ih x h
        simp only [List.length_cons]
        omega
    · cases hs : splitT c l with
      | nil => exact absurd hs (splitT_ne c l)
      | cons y ys =>
        rw [hs] at h ih
        rcases List.mem_cons.1 h with rfl | h
        · have := ih y (by simp)
          simp only [List.length_cons]
          omega
        · have := ih x (by simp [h])
          simp only [List.length_cons]
          omega
theorem split_few (c : UInt8) (l : List UInt8) : (splitT c l).length ≤ l.length + 1 := by
  rw [split_length]
  have := List.count_le_length (a := c) (l := l)
  omega
def SmallF (n : Nat) (p : List Fn) : Prop := p.length ≤ n ∧ ∀ f ∈ p, f.code.length ≤ n
theorem addOpT_snoc (q : List Fn) (f : Fn) (x : Int × Int) : addOpT (q ++ [f]) x = q ++ [⟨f.args, f.locals, f.code ++ [x]⟩] := by
  simp [addOpT]
theorem addOpT_nil (x : Int × Int) : addOpT [] x = [] := rfl
theorem small_step {n : Nat} {p : List Fn} (h : SmallF n p) (ws : List (List UInt8)) : SmallF (n + 1) (stepF p ws) := by
  obtain ⟨h1, h2⟩ := h
  have hk : SmallF (n + 1) p := ⟨by omega, fun f hf => Nat.le_succ_of_le (h2 f hf)⟩
  unfold stepF
  split
  · refine ⟨by simp; omega, fun f hf => ?_⟩
    rcases List.mem_append.1 hf with hf | hf
    · exact Nat.le_succ_of_le (h2 f hf)
    · obtain rfl := List.mem_singleton.1 hf
      simp
  · split
    · by_cases hp : p = []
      · subst hp; exact hk
      · obtain ⟨q, f, rfl⟩ : ∃ q f, p = q ++ [f] := ⟨p.dropLast, p.getLast hp, (List.dropLast_concat_getLast hp).symm⟩
        rw [addOpT_snoc]
        refine ⟨by simpa using hk.1, fun g hg => ?_⟩
        rcases List.mem_append.1 hg with hg | hg
        · exact hk.2 g (by simp [hg])
        · obtain rfl := List.mem_singleton.1 hg
          have := h2 f (by simp)
          simp
          omega
    · exact hk
def fromK (l : List UInt8) (k : Nat) : List Fn := foldF [] ((splitT 10 l).take k)
theorem fromK_zero (l : List UInt8) : fromK l 0 = [] := rfl
theorem fromK_succ {l : List UInt8} {k : Nat} {x : List UInt8} (h : (splitT 10 l)[k]? = some x) : fromK l (k + 1) = stepF (fromK l k) (splitT 32 x ++ [[], []]) := by
  unfold fromK foldF
  rw [List.take_add_one, h, List.foldl_append]
  rfl
theorem fromK_all {l : List UInt8} {k : Nat} (h : (splitT 10 l).length ≤ k) : fromK l k = fromT l := by
  unfold fromK foldF fromT
  rw [List.take_of_length_le h]
theorem fromK_small (l : List UInt8) : ∀ k, k ≤ (splitT 10 l).length → SmallF k (fromK l k)
  | 0, _ => ⟨Nat.le_refl _, fun f hf => by simp [fromK_zero] at hf⟩
  | k + 1, h => by
    rw [fromK_succ (List.getElem?_eq_getElem (show k < (splitT 10 l).length by omega))]
    exact small_step (fromK_small l k (by omega)) _
def WordsIn (w : World) (g : Nat) (cur : Array Value) (ws : List (List UInt8)) : Prop := w.heap[g]? = some (.cells cur 9) ∧ ∀ (j : Nat) x, ws[j]? = some x → cur[j]? = some (strV x)
theorem words_pad {b : Nat} {w : World} {v : Value} {n : Nat} {ws : List (List UInt8)} (h : w.ownsRow b 9 1 v n (ws.map strV)) (h0 : ws ≠ []) : ∃ g cap cur, v = .slice (some ⟨g, 0, none⟩) n cap ∧ WordsIn w g cur ws := by
  obtain ⟨oa, cap, e, _, hi⟩ := rowT_at h
  cases ws with
  | nil => exact absurd rfl h0
  | cons x xs =>
    obtain ⟨g, cur, rfl, _, hg, hc⟩ := hi 0 (strV x) rfl
    exact ⟨g, cap, cur, e, hg, fun j y hy => hc j (strV y) (by rw [List.getElem?_map, hy]; rfl)⟩
theorem getElem_getD {ws : List (List UInt8)} {j : Nat} (h : j < ws.length) : ws[j]? = some (ws.getD j []) := by
  rw [List.getD_eq_getElem?_getD, List.getElem?_eq_getElem h]
  rfl
theorem PrR.addFn_stay {b m : Nat} {w w' : World} {v v' : Value} {p : List Fn} (h : PrR b m w v p) (hl : p.length ≤ 100000) (x y : Int)
    (hrun : (Builtin.append_ #[22, 22] 22 #[v, .slice (some ⟨w.heap.size, 0, none⟩) 1 1]).run Tryz.prog (w.alloc (.cells #[.int .i64 x, .int .i64 y, .slice none 0 0] 42)) = .ok v' w') : StayT 9 w w' := by
  obtain ⟨h1, hm, c, hr, hc⟩ := h
  obtain ⟨v2, w2, q1, q2, q3, q4⟩ := rowT_app 42 22 3 40 _ Tryz.underlying22 fnInfoT rfl (by decide) (by decide) b w v p.length c [.int .i64 x, .int .i64 y, .slice none 0 0] hr (by omega) (by omega) rfl (fun u hu => by
    simp only [List.mem_cons, List.not_mem_nil, or_false] at hu
    rcases hu with rfl | rfl | rfl <;> rfl)
  have e := hrun.symm.trans q1
  cases e
  exact q4 _ (by decide)
theorem PrR.addOp_stay {b m g cap : Nat} {w w' : World} {q : List Fn} {f : Fn} {cv v' : Value} (h : PrR b m w (.slice (some ⟨g, 0, none⟩) (q.length + 1) cap) (q ++ [f])) (hcv : w.cell? ⟨g, q.length * 3 + 2, none⟩ = some cv) (x : Int × Int) (hl : f.code.length < 100000)
    (hrun : (Builtin.append_ #[40, 40] 40 #[cv, .slice (some ⟨w.heap.size, 0, none⟩) 1 1]).run Tryz.prog (w.alloc (.cells #[.int .i64 x.1, .int .i64 x.2] 44)) = .ok v' w') : StayT 9 w (w'.setCell ⟨g, q.length * 3 + 2, none⟩ v') ∧ StayT 9 w w' := by
  obtain ⟨g', cap', cv', oc, cc, e1, rfl, e3, e4, hbg, hrow⟩ := h.last
  simp only [Value.slice.injEq, Option.some.injEq, Addr.mk.injEq, and_true, true_and] at e1
  obtain ⟨rfl, rfl⟩ := e1
  rw [hcv] at e3
  cases e3
  obtain ⟨h1, hm, c, hr, hc⟩ := h
  obtain ⟨v2, w2, q1, q2, q3, q4⟩ := rowT_app 44 40 2 16 _ Tryz.underlying40 opInfoT rfl (by decide) (by decide) m w _ f.code.length (flatOps f.code) [.int .i64 x.1, .int .i64 x.2] hrow hm (by omega) rfl (fun u hu => by
    simp only [List.mem_cons, List.not_mem_nil, or_false] at hu
    rcases hu with rfl | rfl <;> rfl)
  have e := hrun.symm.trans q1
  cases e
  have st := q4 42 (by decide)
  have ss := q4 9 (by decide)
  obtain ⟨cur, hg⟩ : ∃ cur, w.heap[g]? = some (.cells cur 42) := by
    obtain ⟨_, ⟨h0, _⟩ | ⟨g', cap', cur, h0, _, hh, _⟩⟩ := id hr
    · cases h0
    · simp only [Value.slice.injEq, Option.some.injEq, Addr.mk.injEq, and_true] at h0
      obtain ⟨rfl, _⟩ := h0
      exact ⟨cur, hh⟩
  have hg' := st g cur hg
  refine ⟨fun g' c' hh => ?_, ss⟩
  have hh' := ss g' c' hh
  exact lays_other hh' (fun e => by
    simp only at e
    subst e
    rw [hg'] at hh'
    simp only [Option.some.injEq, Obj.cells.injEq] at hh'
    exact absurd hh'.2.1 (by decide)) _
def BuiltAt (w1 wr : World) (v : Value) (p : List Fn) : Prop := Kept w1 wr ∧ ∃ m, PrR w1.heap.size m wr v p
def midP (P : List Fn) (w0 : List UInt8) (z : Int) (j : Nat) : List Fn := match kindT w0 with
  | some i => if i < j then addOpT P ((i : Int), max 0 z) else P
  | none => P
theorem midP_zero (P : List Fn) (w0 : List UInt8) (z : Int) : midP P w0 z 0 = P := by
  unfold midP
  split
  · rw [if_neg (by omega)]
  · rfl
theorem midP_all (P : List Fn) (w0 : List UInt8) (z : Int) : midP P w0 z 17 = match kindT w0 with
    | some i => addOpT P ((i : Int), max 0 z)
    | none => P := by
  unfold midP
  cases h : kindT w0 with
  | none => rfl
  | some i =>
    have := kindT_lt h
    simp only
    rw [if_pos this]
theorem midP_hit (P : List Fn) (z : Int) (j : Nat) (hj : j < 17) : midP P (tkS.getD j ([], 0)).1 z j = P ∧ midP P (tkS.getD j ([], 0)).1 z (j + 1) = addOpT P ((j : Int), max 0 z) := by
  unfold midP
  rw [tk_kind j hj]
  simp only
  rw [if_neg (by omega), if_pos (by omega)]
  exact ⟨rfl, rfl⟩
theorem midP_miss (P : List Fn) (w0 : List UInt8) (z : Int) (j : Nat) (h : (tkS.getD j ([], 0)).1 ≠ w0) : midP P w0 z (j + 1) = midP P w0 z j := by
  unfold midP
  cases hk : kindT w0 with
  | none => rfl
  | some i =>
    have : i ≠ j := fun e => h (by rw [← e]; exact kindT_name hk)
    simp only
    by_cases hi : i < j
    · rw [if_pos hi, if_pos (by omega)]
    · rw [if_neg hi, if_neg (by omega)]
theorem midP_nil (w0 : List UInt8) (z : Int) (j : Nat) : midP [] w0 z j = [] := by
  unfold midP
  split
  · split
    · exact addOpT_nil _
    · rfl
  · rfl
theorem progFrom_w (w : World) (l : List UInt8) (hl : l.length ≤ 8192) (HPE : Hid (∀ u v p, ProgAt u v p → Calls Tryz.prog 6 #[v] u fun e w' => e = .returned (.int .i64 (progS p)) ∧ Kept u w')) :
    Calls Tryz.prog 10 #[.string ⟨l.toArray⟩] w fun e w' => ∃ oa n cap, e = .returned (.tuple #[.slice oa n cap, .bool (fromR l).2]) ∧ ProgAt w' (.slice oa n cap) (fromR l).1 ∧ Kept w w' := by
  have HSP := hide (rsplit_any w l 10 (by omega))
  rw [show ((10 : UInt8).toNat : Nat) = 10 from rfl] at HSP
  have HLL := hide hl
  generalize hS : (ByteArray.mk l.toArray) = S at *
  have HS := hide hS
  clear hS
  go_enter Tryz.func10, Tryz.ntmps10
  go_wp2_with fail
  refine (unhide HSP).mono ?_
  rintro _ w1 ⟨v1, rfl, hr1, k1⟩
  obtain ⟨gl, cl, cur, rfl, HL1⟩ := words_pad hr1 (splitT_ne 10 l)
  have HK1 := hide k1
  have HL := hide HL1
  have hfew := split_few 10 l
  generalize hN : (splitT 10 l).length = n at *
  have HN := hide hN
  clear hr1 k1 HSP hN HL1
  go_wp2_with fail
  have H0 : Hid (BuiltAt w1 w1 (.slice none 0 0) (fromK l 0)) := hide ⟨Kept.refl _, _, PrR.nil _ _ (Nat.le_refl _)⟩
  go_loopw [4, 6] (fun s4 s6 wr => ∃ k : Nat, k ≤ n ∧ s6 = .int .i64 (k : Int) ∧ Hid (BuiltAt w1 wr s4 (fromK l k))) (fun _ s6 _ => n - (intOf s6).toNat)
  case atStart => exact ⟨0, Nat.zero_le _, rfl, H0⟩
  case round =>
    obtain ⟨k, hkn, rfl, HB⟩ := hrel
    clear H0
    have hk0 : (0 : Int) ≤ (k : Int) := by omega
    by_cases hk : k < n
    · obtain ⟨x, hx⟩ : ∃ x, (splitT 10 l)[k]? = some x := ⟨_, List.getElem?_eq_getElem (by rw [unhide HN]; exact hk)⟩
      have hk1 : (k : Int) < (n : Int) := by omega
      have hc0 : wr.cell? ⟨gl, k, none⟩ = some (.string ⟨x.toArray⟩) := by
        rw [cell_lays (lays_kept (unhide HB).1 (unhide HL).1)]
        exact (unhide HL).2 k x hx
      have hxl : x.length ≤ 8192 := by
        have := split_le 10 l x (List.mem_of_getElem? hx)
        have := unhide HLL
        omega
      have HX := hide hx
      clear hx
      have HSP2 := hide fun u => rsplit_any u x 32 (by omega)
      rw [show ((32 : UInt8).toNat : Nat) = 32 from rfl] at HSP2
      generalize (ByteArray.mk x.toArray) = X at *
      go_wp2_with fail
      refine ((unhide HSP2) wr).mono ?_
      rintro _ w2 ⟨v2, rfl, hr2, k2⟩
      clear HSP2
      obtain ⟨v3, w3, hrun, hr3, hb3⟩ := row_pad wr.heap.size w2 v2 (splitT 32 x) hr2 k2.size (by have := split_few 32 x; omega)
      have k3 : Kept wr w3 := Below.trans k2 hb3
      obtain ⟨o2, c2, rfl, _⟩ := rowT_at hr2
      obtain ⟨gw, cw, curw, rfl, hw3⟩ := words_pad hr3 (by simp)
      have hx1 : 1 ≤ (splitT 32 x).length := by
        have := splitT_ne 32 x
        cases hq : splitT 32 x with
        | nil => exact absurd hq this
        | cons => simp
      have hwl : ∀ j, ((splitT 32 x ++ [[], []]).getD j []).length ≤ 100000 := fun j => by
        rw [List.getD_eq_getElem?_getD]
        cases hj : (splitT 32 x ++ [[], []])[j]? with
        | none => simp
        | some y =>
          rcases List.mem_append.1 (List.mem_of_getElem? hj) with h | h
          · have := split_le 32 x y h
            simp only [Option.getD_some]
            omega
          · simp at h
            subst h
            simp
      have a0 := (cell_lays hw3.1 0).trans (hw3.2 0 _ (getElem_getD (by simp)))
      have a1 := (cell_lays hw3.1 1).trans (hw3.2 1 _ (getElem_getD (by simp)))
      have a2 := (cell_lays hw3.1 2).trans (hw3.2 2 _ (getElem_getD (by simp; omega)))
      have d0 := hw3.2 0 _ (getElem_getD (by simp))
      have d1 := hw3.2 1 _ (getElem_getD (by simp))
      have d2 := hw3.2 2 _ (getElem_getD (by simp; omega))
      have HFK : Hid (fromK l (k + 1) = stepF (fromK l k) (splitT 32 x ++ [[], []])) := hide (fromK_succ (unhide HX))
      have HSM : Hid (SmallF k (fromK l k)) := hide (fromK_small l k (by rw [unhide HN]; omega))
      have HWN := hide hw3.1
      have HB3 : Hid (BuiltAt w1 w3 u4 (fromK l k)) := hide ⟨(unhide HB).1.trans k3, by obtain ⟨m, hm⟩ := (unhide HB).2; exact ⟨m, hm.kept k3⟩⟩
      have HR := hide hrun
      have HWL := hide hwl
      generalize (splitT 32 x).length = nx at *
      have hx2 : (2 : Int) < (nx : Int) + 2 := by omega
      have hx3 : (1 : Int) < (nx : Int) + 2 := by omega
      have hx0 : (0 : Int) < (nx : Int) + 2 := by omega
      clear hrun hr2 hr3 k2 k3 hb3 hw3 hwl hc0 HB HX
      unfold strV at a0 a1 a2 d0 d1 d2
      generalize splitT 32 x ++ [[], []] = ws at *
      generalize fromK l k = P at *
      have HN1 : Hid (∀ u, Calls Tryz.prog 30 #[.string ⟨(ws.getD 1 []).toArray⟩] u fun e w' => e = .returned (.int .i64 (numF (ws.getD 1 []))) ∧ Kept u w') := hide fun u => num_any u _ ((unhide HWL) 1)
      have HN2 : Hid (∀ u, Calls Tryz.prog 30 #[.string ⟨(ws.getD 2 []).toArray⟩] u fun e w' => e = .returned (.int .i64 (numF (ws.getD 2 []))) ∧ Kept u w') := hide fun u => num_any u _ ((unhide HWL) 2)
      have HSF : Hid (ws.getD 0 [] = [102, 117, 110, 99] → stepF P ws = P ++ [⟨numF (ws.getD 1 []), numF (ws.getD 2 []), []⟩]) := hide fun h => by unfold stepF; rw [if_pos h]
      have HSK : Hid (ws.getD 0 [] ≠ [102, 117, 110, 99] → stepF P ws = match kindT (ws.getD 0 []) with
        | some i => addOpT P ((i : Int), max 0 (numF (ws.getD 1 [])))
        | none => P) := hide fun h => by
        unfold stepF
        rw [if_neg h]
        cases kindT (ws.getD 0 []) <;> rfl
      generalize hW0 : (ByteArray.mk (ws.getD 0 []).toArray) = W0 at *
      generalize (ByteArray.mk (ws.getD 1 []).toArray) = W1 at *
      generalize (ByteArray.mk (ws.getD 2 []).toArray) = W2 at *
      generalize numF (ws.getD 1 []) = z1 at *
      generalize numF (ws.getD 2 []) = z2 at *
      generalize ws.getD 0 [] = w0 at *
      obtain ⟨ov, cv, rfl⟩ : ∃ oa c, u4 = .slice oa P.length c := by
        obtain ⟨_, _, _, _, c, hr, _⟩ := unhide HB3
        obtain ⟨oa, cp, e, _⟩ := rowT_at hr
        exact ⟨oa, cp, e⟩
      go_wp2_with (at_builtin; refine unhide ?_)
      refine hide ?_
      refine wpList_appR _ rfl _ _ 62 rfl rfl rfl (unhide HR) ?_
      clear HR
      by_cases hf : w0 = [102, 117, 110, 99]
      · have hq : (W0.toList == [102, 117, 110, 99]) = true := by rw [← hW0, ByteArray.toList_mk, hf]; rfl
        go_wp2_with fail
        have HS0 : Hid (Kept w1 w3.drew ∧ w3.drew.heap[gw]? = some (.cells curw 9)) := hide ⟨(unhide HB3).1.drew, unhide HWN⟩
        refine wp_region_held_drew (S := fun y => Kept w1 y ∧ y.heap[gw]? = some (.cells curw 9)) (by kernel_rfl) (unhide HS0) (fun hHeld => ?_)
        refine planY [0, 1, 2, 3, 5, 6, 7] ?_
        repeat
          refine takeY (v := ?_) hHeld (fun u hSu => ?_) ?_
          rotate_left
          · (have y1 := (cell_lays hSu.2 1).trans d1; have y2 := (cell_lays hSu.2 2).trans d2; (try dsimp only at y1 y2); go_simp) <;> with_reducible rfl
          try simp only [Act.put, List.setIfInBounds_toArray, List.set_cons_zero, List.set_cons_succ]
        refine endY ?_
        refine take_one (i := 4) rfl (by kernel_rfl) (fun K hK => ?_)
        go_simp
        refine ((unhide HN1) _).mono ?_
        rintro _ w4 ⟨rfl, k4⟩
        have hS4 : Kept w1 w4 ∧ w4.heap[gw]? = some (.cells curw 9) := ⟨hHeld.1.trans k4, lays_kept k4 hHeld.2⟩
        refine hK.out _ _ hS4 (fun hHeld => ?_)
        clear hK K
        try simp only [Act.put, List.setIfInBounds_toArray, List.set_cons_zero, List.set_cons_succ]
        refine take_one (i := 8) rfl (by kernel_rfl) (fun K hK => ?_)
        go_simp
        refine ((unhide HN2) _).mono ?_
        rintro _ w5 ⟨rfl, k5⟩
        have hS5 : Kept w1 w5 ∧ w5.heap[gw]? = some (.cells curw 9) := ⟨hHeld.1.trans k5, lays_kept k5 hHeld.2⟩
        obtain ⟨m, hm⟩ := (unhide HB3).2
        have hP5 := (hm.kept ((Kept.refl w3).drew)).kept (k4.trans k5)
        obtain ⟨v6, w6, hrun, hpr, hbl, _⟩ := hP5.addFn (by have := (unhide HSM).1; omega) z1 z2
        have hst := hP5.addFn_stay (by have := (unhide HSM).1; omega) _ _ hrun
        have hS6 : Kept w1 w6 ∧ w6.heap[gw]? = some (.cells curw 9) := ⟨Below.trans hS5.1 hbl, hst _ _ hS5.2⟩
        have hS5a : Kept w1 (w5.alloc (.cells #[.int .i64 z1, .int .i64 z2, .slice none 0 0] 42)) ∧ (w5.alloc (.cells #[.int .i64 z1, .int .i64 z2, .slice none 0 0] 42)).heap[gw]? = some (.cells curw 9) := ⟨hS5.1.alloc _, lays_alloc hS5.2 _⟩
        have HNB : Hid (BuiltAt w1 w6 v6 (fromK l (k + 1))) := hide ⟨hS6.1, _, by
          rw [unhide HFK, (unhide HSF) hf]
          exact hpr⟩
        have HR := hide hrun
        have HS5 := hide hS5
        have HS5A := hide hS5a
        have HS6 := hide hS6
        clear hrun hpr hbl hst hP5 hm k4 k5 hS4 hS5 hS5a hS6 a0 a1 a2 hf
        refine hK.out _ _ (unhide HS5) (fun hHeld => ?_)
        clear hK K
        try simp only [Act.put, List.setIfInBounds_toArray, List.set_cons_zero, List.set_cons_succ]
        refine take_one (i := 9) rfl (by kernel_rfl) (fun K hK => ?_)
        go_simp
        refine hK.out _ _ hHeld (fun hHeld => ?_)
        clear hK K
        try simp only [Act.put, List.setIfInBounds_toArray, List.set_cons_zero, List.set_cons_succ]
        refine take_one (i := 10) rfl (by kernel_rfl) (fun K hK => ?_)
        go_simp
        refine hK.out _ _ (unhide HS5A) (fun hHeld => ?_)
        clear hK K
        try simp only [Act.put, List.setIfInBounds_toArray, List.set_cons_zero, List.set_cons_succ]
        refine take_one (i := 11) rfl (by kernel_rfl) (fun K hK => ?_)
        rw [if_pos (by rfl)]
        refine wp_appR _ _ _ 22 rfl rfl rfl (unhide HR) ?_
        refine hK.out _ _ (unhide HS6) (fun hHeld => ?_)
        clear hK K HR
        try simp only [Act.put, List.setIfInBounds_toArray, List.set_cons_zero, List.set_cons_succ]
        refine take_one (i := 12) rfl (by kernel_rfl) (fun K hK => ?_)
        go_simp
        refine hK.out _ _ hHeld (fun hHeld => ?_)
        clear hK K
        try simp only [Act.put, List.setIfInBounds_toArray, List.set_cons_zero, List.set_cons_succ]
        refine wpAnyH_done (by kernel_rfl) ?_ _
        clear hHeld
        go_wp2_with fail
        go_roundw
        case rel => exact ⟨k + 1, by omega, by go_num, HNB⟩
        case measure => simp [intOf]; omega
      · have hq : (W0.toList == [102, 117, 110, 99]) = false := by rw [← hW0, ByteArray.toList_mk]; simpa using hf
        clear HSF HN2 a1 a2 d2
        go_wp2_with fail
        go_loopw [8] (fun s8 wi => ∃ j : Nat, j ≤ 17 ∧ s8 = .int .i64 (j : Int) ∧ Hid (BuiltAt w1 wi (.slice ov P.length cv) (midP P w0 z1 j) ∧ wi.heap[gw]? = some (.cells curw 9))) (fun s8 _ => 17 - (intOf s8).toNat)
        case atStart => exact ⟨0, Nat.zero_le _, rfl, hide ⟨by rw [midP_zero]; exact unhide HB3, unhide HWN⟩⟩
        case round =>
          obtain ⟨j, hj17, rfl, HJ⟩ := hrel
          have hj0 : (0 : Int) ≤ (j : Int) := by omega
          clear HB3 HWN a0
          by_cases hj : j < 17
          · have hj1 : (j : Int) < 17 := by omega
            by_cases hp0 : P = []
            · subst hp0
              simp only [List.length_nil] at HJ ⊢
              go_wp2_with fail
              refine (names_any _).mono ?_
              rintro _ w4 ⟨g4, rfl, -, k4⟩
              have HNB : Hid (BuiltAt w1 w4 (.slice ov 0 cv) (fromK l (k + 1))) := hide (by
                have h := (unhide HJ).1
                have e1 : stepF [] ws = [] := by
                  rw [(unhide HSK) hf]
                  cases kindT w0 <;> rfl
                rw [midP_nil] at h
                rw [unhide HFK, e1]
                exact ⟨h.1.trans k4, by obtain ⟨m, hm⟩ := h.2; exact ⟨m, hm.kept k4⟩⟩)
              clear k4 HSK
              go_wp2_with fail
              go_roundw
              case rel => exact ⟨k + 1, by omega, by go_num, HNB⟩
              case measure => simp [intOf]; omega
            · obtain ⟨q, f, rfl⟩ : ∃ q f, P = q ++ [f] := ⟨P.dropLast, P.getLast hp0, (List.dropLast_concat_getLast hp0).symm⟩
              simp only [List.length_append, List.length_cons, List.length_nil, Nat.zero_add] at HJ ⊢
              have hql : (0 : Int) < (q.length : Int) + 1 := by omega
              go_wp2_with fail
              refine (names_any _).mono ?_
              rintro _ w4 ⟨g4, rfl, -, k4⟩
              have HJ4 : Hid (BuiltAt w1 w4 (.slice ov (q.length + 1) cv) (midP (q ++ [f]) w0 z1 j) ∧ w4.heap[gw]? = some (.cells curw 9)) := hide ⟨⟨(unhide HJ).1.1.trans k4, by obtain ⟨m, hm⟩ := (unhide HJ).1.2; exact ⟨m, hm.kept k4⟩⟩, lays_kept k4 (unhide HJ).2⟩
              clear k4 HJ
              go_wp2_with fail
              have HS0 : Hid (Kept w4 w4.drew) := hide ((Kept.refl w4).drew)
              refine wp_region_held_drew (S := fun y => Kept w4 y) (by kernel_rfl) (unhide HS0) (fun hHeld => ?_)
              have hG := (unhide HJ4).2
              refine planY [1, 4, 5, 6] ?_
              repeat
                refine takeY (v := ?_) hHeld (fun u hSu => ?_) ?_
                rotate_left
                · (have y0 := (cell_lays (lays_kept hSu hG) 0).trans d0; (try dsimp only at y0); go_simp) <;> with_reducible rfl
                try simp only [Act.put, List.setIfInBounds_toArray, List.set_cons_zero, List.set_cons_succ]
              refine endY ?_
              refine take_one (i := 0) rfl (by kernel_rfl) (fun K hK => ?_)
              go_simp
              refine (names_any _).mono ?_
              rintro _ w5 ⟨g5, rfl, n5, k5⟩
              have hS5 : Kept w4 w5 := hHeld.trans k5
              have m5 := n5 j hj
              clear k5 n5
              refine hK.out _ _ hS5 (fun hHeld => ?_)
              clear hK K
              try simp only [Act.put, List.setIfInBounds_toArray, List.set_cons_zero, List.set_cons_succ]
              unfold strV at m5
              generalize hTK : (tkS.getD j ([], 0)).1 = tk at *
              generalize hTM : (ByteArray.mk tk.toArray) = TM at *
              refine take_one (i := 2) rfl (by kernel_rfl) (fun K hK => ?_)
              go_simp
              refine hK.out _ _ hHeld (fun hHeld => ?_)
              clear hK K
              try simp only [Act.put, List.setIfInBounds_toArray, List.set_cons_zero, List.set_cons_succ]
              refine take_one (i := 3) rfl (by kernel_rfl) (fun K hK => ?_)
              go_simp
              refine hK.out _ _ hHeld (fun hHeld => ?_)
              clear hK K
              try simp only [Act.put, List.setIfInBounds_toArray, List.set_cons_zero, List.set_cons_succ]
              by_cases hhit : tk = w0
              · have he : (TM.toList == W0.toList) = true := by rw [← hTM, ← hW0, hhit]; simp
                refine take_one (i := 7) rfl (by kernel_rfl) (fun K hK => ?_)
                go_simp
                refine hK.out _ _ hHeld (fun hHeld => ?_)
                clear hK K
                try simp only [Act.put, List.setIfInBounds_toArray, List.set_cons_zero, List.set_cons_succ]
                refine wpAnyH_done (by kernel_rfl) ?_ _
                clear hHeld
                obtain ⟨e5, e6⟩ := midP_hit (q ++ [f]) z1 j hj
                rw [hTK, hhit, addOpT_snoc] at e6
                rw [hTK, hhit] at e5
                obtain ⟨m, hm4⟩ := (unhide HJ4).1.2
                rw [e5] at hm4
                have hm := hm4.kept hS5
                have hK5 := (unhide HJ4).1.1.trans hS5
                have hG5 := lays_kept hS5 hG
                obtain ⟨gp, cap0, cvv, oc, cc, e1, rfl, e3, _, _, _⟩ := hm.last
                simp only [Value.slice.injEq] at e1
                obtain ⟨rfl, _, rfl⟩ := e1
                have hqk : (q.length : Int) ≤ 10000 := by
                  have := (unhide HSM).1
                  simp only [List.length_append, List.length_cons, List.length_nil] at this
                  omega
                have hqk0 : (0 : Int) ≤ (q.length : Int) := by omega
                have hqk1 : (q.length : Int) < (q.length : Int) + 1 := by omega
                have hlf : f.code.length < 100000 := by
                  have := (unhide HSM).2 f (by simp)
                  omega
                have HM := hide hm
                have HK5 := hide hK5
                have HE6 := hide e6
                have HSA : Hid (w5.drew.cell? ⟨gp, q.length * 3 + 2, none⟩ = some (.slice oc f.code.length cc) ∧ w5.drew.heap[gw]? = some (.cells curw 9)) := hide ⟨e3, hG5⟩
                generalize hFC : f.code.length = fc at *
                have HFC := hide hFC
                clear e3 e5 e6 hm hm4 hK5 hG5 hG hS5 m5 HJ4 HS0 hFC hTK hTM hW0 hhit he
                go_wp2_with fail
                refine wp_regionP 16 [0, 1, 2, 3, 4, 5, 6, 7, 8] (fun u => u.cell? ⟨gp, q.length * 3 + 2, none⟩ = some (.slice oc fc cc) ∧ u.heap[gw]? = some (.cells curw 9)) (by kernel_rfl) ?_
                have hHeld := unhide HSA
                repeat
                  refine takeP (v := ?_) hHeld (fun u hSu => ?_) ?_
                  rotate_left
                  · (have y0 := hSu.1; have y1 := (cell_lays hSu.2 1).trans d1; (try dsimp only at y0 y1); go_simp) <;> with_reducible rfl
                  try simp only [Act.put, List.setIfInBounds_toArray, List.set_cons_zero, List.set_cons_succ]
                refine takeP_end ?_
                refine takeT_one (i := 9) rfl (by kernel_rfl) (fun K hK => ?_)
                go_simp
                refine ((unhide HN1) _).mono ?_
                rintro _ w6 ⟨rfl, k6⟩
                have hS6 : w6.cell? ⟨gp, q.length * 3 + 2, none⟩ = some (.slice oc fc cc) ∧ w6.heap[gw]? = some (.cells curw 9) := ⟨k6.cell hHeld.1, lays_kept k6 hHeld.2⟩
                have hM6 := ((unhide HM).kept ((Kept.refl w5).drew)).kept k6
                have hlf' : f.code.length < 100000 := by rw [unhide HFC]; exact hlf
                obtain ⟨v7, w7, hrun, ⟨oc7, nc7, cc7, rfl⟩, z3, z4, hpr, hbl⟩ := hM6.addOp hS6.1 ((j : Int), max 0 z1) hlf'
                obtain ⟨st1, st2⟩ := hM6.addOp_stay hS6.1 ((j : Int), max 0 z1) hlf' hrun
                have HNB : Hid (BuiltAt w1 (w7.setCell ⟨gp, q.length * 3 + 2, none⟩ (.slice oc7 nc7 cc7)) (.slice (some ⟨gp, 0, none⟩) (q.length + 1) cv) (midP (q ++ [f]) w0 z1 (j + 1)) ∧ (w7.setCell ⟨gp, q.length * 3 + 2, none⟩ (.slice oc7 nc7 cc7)).heap[gw]? = some (.cells curw 9)) := hide ⟨⟨Below.trans ((unhide HK5).trans (((Kept.refl w5).drew).trans k6)) hbl, m, by rw [unhide HE6]; exact hpr⟩, st1 _ _ hS6.2⟩
                have hS6a : (w6.alloc (.cells #[.int .i64 (j : Int), .int .i64 (max 0 z1)] 44)).cell? ⟨gp, q.length * 3 + 2, none⟩ = some (.slice oc fc cc) ∧ (w6.alloc (.cells #[.int .i64 (j : Int), .int .i64 (max 0 z1)] 44)).heap[gw]? = some (.cells curw 9) := ⟨((Kept.refl w6).alloc _).cell hS6.1, lays_alloc hS6.2 _⟩
                have hS7 : w7.cell? ⟨gp, q.length * 3 + 2, none⟩ = some (.slice oc fc cc) ∧ w7.heap[gw]? = some (.cells curw 9) := ⟨z3, st2 _ _ hS6.2⟩
                have HR := hide hrun
                have HS6 := hide hS6
                have HS6A := hide hS6a
                have HS7 := hide hS7
                clear hrun hpr hbl st1 st2 hM6 k6 hS6 hS6a hS7 hHeld HSA HM HK5
                refine hK.out _ _ (fun _ => unhide HS6) ?_
                clear hK K
                try simp only [Act.put, List.setIfInBounds_toArray, List.set_cons_zero, List.set_cons_succ]
                refine takeT_one (i := 10) rfl (by kernel_rfl) (fun K hK => ?_)
                go_simp
                refine hK.out _ _ (fun _ => unhide HS6) ?_
                clear hK K
                try simp only [Act.put, List.setIfInBounds_toArray, List.set_cons_zero, List.set_cons_succ]
                refine takeT_one (i := 11) rfl (by kernel_rfl) (fun K hK => ?_)
                go_simp
                refine hK.out _ _ (fun _ => unhide HS6) ?_
                clear hK K
                try simp only [Act.put, List.setIfInBounds_toArray, List.set_cons_zero, List.set_cons_succ]
                refine takeT_one (i := 12) rfl (by kernel_rfl) (fun K hK => ?_)
                go_simp
                refine hK.out _ _ (fun _ => unhide HS6A) ?_
                clear hK K
                try simp only [Act.put, List.setIfInBounds_toArray, List.set_cons_zero, List.set_cons_succ]
                refine takeT_one (i := 13) rfl (by kernel_rfl) (fun K hK => ?_)
                rw [if_pos (by rfl)]
                refine wp_appR _ _ _ 40 rfl rfl rfl (unhide HR) ?_
                refine hK.out _ _ (fun _ => unhide HS7) ?_
                clear hK K HR
                try simp only [Act.put, List.setIfInBounds_toArray, List.set_cons_zero, List.set_cons_succ]
                refine takeT_one (i := 14) rfl (by kernel_rfl) (fun K hK => ?_)
                go_simp
                refine hK.out _ _ (fun _ => unhide HS7) ?_
                clear hK K
                try simp only [Act.put, List.setIfInBounds_toArray, List.set_cons_zero, List.set_cons_succ]
                refine takeT_one (i := 15) rfl (by kernel_rfl) (fun K hK => ?_)
                go_simp
                refine hK.out _ _ (fun _ => unhide HS7) ?_
                clear hK K
                try simp only [Act.put, List.setIfInBounds_toArray, List.set_cons_zero, List.set_cons_succ]
                refine takeT_one (i := 16) rfl (by kernel_rfl) (fun K hK => ?_)
                go_simp
                refine hK.out _ _ (fun h => absurd rfl h) ?_
                clear hK K
                try simp only [Act.put, List.setIfInBounds_toArray, List.set_cons_zero, List.set_cons_succ]
                refine takeT_done (by kernel_rfl) ?_ _
                clear z3 z4 HS6 HS6A HS7
                go_wp2_with fail
                go_roundw
                case rel => exact ⟨j + 1, by omega, by go_num, by simpa only [List.length_append, List.length_cons, List.length_nil, Nat.zero_add] using HNB⟩
                case measure => simp [intOf]; omega
              · have he : (TM.toList == W0.toList) = false := by rw [← hTM, ← hW0, ByteArray.toList_mk, ByteArray.toList_mk]; simpa using hhit
                refine take_one (i := 7) rfl (by kernel_rfl) (fun K hK => ?_)
                go_simp
                refine hK.out _ _ hHeld (fun hHeld => ?_)
                clear hK K
                try simp only [Act.put, List.setIfInBounds_toArray, List.set_cons_zero, List.set_cons_succ]
                refine wpAnyH_done (by kernel_rfl) ?_ _
                clear hHeld
                have HNB : Hid (BuiltAt w1 w5 (.slice ov (q.length + 1) cv) (midP (q ++ [f]) w0 z1 (j + 1)) ∧ w5.heap[gw]? = some (.cells curw 9)) := hide (by
                  rw [midP_miss _ _ _ _ (by rw [hTK]; exact hhit)]
                  exact ⟨⟨(unhide HJ4).1.1.trans hS5, by obtain ⟨m, hm⟩ := (unhide HJ4).1.2; exact ⟨m, hm.kept hS5⟩⟩, lays_kept hS5 (unhide HJ4).2⟩)
                clear hS5 m5 hG HJ4 hTK hTM hW0
                go_wp2_with fail
                go_roundw
                case rel => exact ⟨j + 1, by omega, by go_num, by simpa only [List.length_append, List.length_cons, List.length_nil, Nat.zero_add] using HNB⟩
                case measure => simp [intOf]; omega
          · obtain rfl : j = 17 := by omega
            go_wp2_with fail
            refine (names_any _).mono ?_
            rintro _ w4 ⟨g4, rfl, -, k4⟩
            have HNB : Hid (BuiltAt w1 w4 (.slice ov P.length cv) (fromK l (k + 1))) := hide (by
              have h := (unhide HJ).1
              rw [midP_all] at h
              rw [unhide HFK, (unhide HSK) hf]
              exact ⟨h.1.trans k4, by obtain ⟨m, hm⟩ := h.2; exact ⟨m, hm.kept k4⟩⟩)
            clear k4 HSK HJ
            go_wp2_with fail
            go_roundw
            case rel => exact ⟨k + 1, by omega, by go_num, HNB⟩
            case measure => simp [intOf]; omega
    · obtain rfl : k = n := by omega
      have hall : fromK l k = fromT l := fromK_all (by rw [unhide HN]; exact Nat.le_refl _)
      have hsm := fromK_small l k (by rw [unhide HN]; exact Nat.le_refl _)
      rw [hall] at HB hsm
      obtain ⟨ov, cv, rfl⟩ : ∃ oa c, u4 = .slice oa (fromT l).length c := by
        obtain ⟨_, _, _, _, c, hr, _⟩ := unhide HB
        obtain ⟨oa, cp, e, _⟩ := rowT_at hr
        exact ⟨oa, cp, e⟩
      have hPA : ProgAt wr (.slice ov (fromT l).length cv) (fromT l) := by
        obtain ⟨m, hm⟩ := (unhide HB).2
        exact hm.prog (by have := hsm.1; omega)
      have HP := hide hPA
      have HKW := hide ((unhide HK1).trans (unhide HB).1)
      have HC := hide ((unhide HPE) wr _ _ hPA)
      have HFR : Hid (fromR l = if progS (fromT l) = 0 ∧ showT (fromT l) = l then (fromT l, true) else ([], false)) := hide rfl
      have HPT : Hid (progS (fromT l) = 0 → ∀ u, Kept wr u → Calls Tryz.prog 7 #[.slice ov (fromT l).length cv] u fun e w' => e = .returned (.string ⟨(showT (fromT l)).toArray⟩) ∧ Kept u w') := hide fun hz u hu => progText_ok u _ _ (hPA.kept hu) (right_okT hz)
      clear hall hsm HB HPE hPA HL HN
      by_cases hz : progS (fromT l) = 0
      · have HT := hide ((unhide HPT) hz)
        rw [hz] at HC
        by_cases hs : showT (fromT l) = l
        · have he : ((ByteArray.mk (showT (fromT l)).toArray).toList == S.toList) = true := by rw [← unhide HS, hs]; simp
          have HF2 : Hid (fromR l = (fromT l, true)) := hide (by rw [unhide HFR, if_pos ⟨hz, hs⟩])
          generalize (ByteArray.mk (showT (fromT l)).toArray) = T at *
          generalize hPN : (fromT l).length = pn at *
          clear HFR HPT hz hs
          go_wp2_with fail
          refine (unhide HC).mono ?_
          rintro _ w2 ⟨rfl, k2⟩
          have HK2 := hide k2
          clear k2 HC
          go_wp2_with fail
          refine ((unhide HT) _ (unhide HK2)).mono ?_
          rintro _ w3 ⟨rfl, k3⟩
          have HK3 := hide ((unhide HK2).trans k3)
          clear k3 HT HK2
          go_wp2_with fail
          go_ret2
          rw [unhide HF2]
          exact ⟨_, _, _, rfl, (unhide HP).kept (unhide HK3), (unhide HKW).trans (unhide HK3)⟩
        · have he : ((ByteArray.mk (showT (fromT l)).toArray).toList == S.toList) = false := by rw [← unhide HS, ByteArray.toList_mk, ByteArray.toList_mk]; simpa using hs
          have HF2 : Hid (fromR l = ([], false)) := hide (by rw [unhide HFR, if_neg (fun h => hs h.2)])
          generalize (ByteArray.mk (showT (fromT l)).toArray) = T at *
          generalize hPN : (fromT l).length = pn at *
          clear HFR HPT hz hs
          go_wp2_with fail
          refine (unhide HC).mono ?_
          rintro _ w2 ⟨rfl, k2⟩
          have HK2 := hide k2
          clear k2 HC
          go_wp2_with fail
          refine ((unhide HT) _ (unhide HK2)).mono ?_
          rintro _ w3 ⟨rfl, k3⟩
          have HK3 := hide ((unhide HK2).trans k3)
          clear k3 HT HK2
          go_wp2_with fail
          go_ret2
          rw [unhide HF2]
          exact ⟨none, 0, 0, rfl, ⟨none, 0, rfl, by simp, fun i f h => by simp at h⟩, (unhide HKW).trans (unhide HK3)⟩
      · have hz2 : (progS (fromT l) == 0) = false := by simpa using hz
        have hz3 : (progS (fromT l) != 0) = true := by rw [bne_iff_ne]; exact hz
        have HF2 : Hid (fromR l = ([], false)) := hide (by rw [unhide HFR, if_neg (fun h => hz h.1)])
        generalize hPN : (fromT l).length = pn at *
        generalize progS (fromT l) = pz at *
        clear HFR HPT hz
        go_wp2_with fail
        refine (unhide HC).mono ?_
        rintro _ w2 ⟨rfl, k2⟩
        have HK2 := hide k2
        clear k2 HC
        go_wp2_with fail
        go_ret2
        rw [unhide HF2]
        exact ⟨none, 0, 0, rfl, ⟨none, 0, rfl, by simp, fun i f h => by simp at h⟩, (unhide HKW).trans (unhide HK2)⟩
open Go.RowKit
theorem sameFuncsF (ar lo : Int) (c : List (Int × Int)) (cv1 cv2 : Value) (w : World) (h1 : CodeAt w cv1 c) (h2 : CodeAt w cv2 c) :
    Calls Tryz.prog 31 #[.agg #[.int .i64 ar, .int .i64 lo, cv1], .agg #[.int .i64 ar, .int .i64 lo, cv2]] w fun e w' => e = .returned (.bool true) ∧ Kept w w' := by
  obtain ⟨oa1, cap1, rfl, hl8, i1⟩ := h1
  obtain ⟨oa2, cap2, rfl, _, i2⟩ := h2
  have hn1 : (ar != ar) = false := by simp
  have hn2 : (lo != lo) = false := by simp
  have hn3 : ((c.length : Int) != (c.length : Int)) = false := by simp
  generalize hm : c.length = m at *
  have HI1 := hide i1
  have HI2 := hide i2
  have HM := hide hm
  clear i1 i2 hm
  go_enter Tryz.func31, Tryz.ntmps31
  go_wp2
  have L0 : Hid (((w.alloc (.cells #[.int .i64 ar, .int .i64 lo, .slice oa1 m cap1] 42)).alloc (.cells #[.int .i64 ar, .int .i64 lo, .slice oa2 m cap2] 42)).heap[w.heap.size]? = _) := hide (lays_alloc (lays_new rfl) _)
  have L1 : Hid (((w.alloc (.cells #[.int .i64 ar, .int .i64 lo, .slice oa1 m cap1] 42)).alloc (.cells #[.int .i64 ar, .int .i64 lo, .slice oa2 m cap2] 42)).heap[w.heap.size + 1]? = _) := hide (lays_new (by simp))
  generalize hW : (w.alloc (.cells #[.int .i64 ar, .int .i64 lo, .slice oa1 m cap1] 42)).alloc (.cells #[.int .i64 ar, .int .i64 lo, .slice oa2 m cap2] 42) = W at *
  have HKW : Hid (Kept w W) := by rw [← hW]; exact ((Kept.refl w).alloc _).alloc _
  clear hW
  go_loopw [5] (fun s wr => ∃ k : Nat, k ≤ m ∧ s = .int .i64 k ∧ Hid (Kept W wr)) (fun s _ => m - (intOf s).toNat)
  case atStart => exact ⟨0, Nat.zero_le _, rfl, Kept.refl _⟩
  case round =>
    obtain ⟨k, hkm, rfl, HKr⟩ := hrel
    have b0 := cell_lays (lays_kept (unhide HKr) (unhide L0)) 2
    have b1 := cell_lays (lays_kept (unhide HKr) (unhide L1)) 2
    simp only [List.getElem?_toArray, List.getElem?_cons_zero, List.getElem?_cons_succ] at b0 b1
    by_cases hlt : k < m
    · obtain ⟨⟨kd, a⟩, hx⟩ : ∃ x, c[k]? = some x := ⟨_, List.getElem?_eq_getElem (by rw [unhide HM]; exact hlt)⟩
      obtain ⟨p1, o1, rfl, x0, x1⟩ := (unhide HI1) k _ hx
      obtain ⟨p2, o2, rfl, y0, y1⟩ := (unhide HI2) k _ hx
      have hk := (unhide HKW).trans (unhide HKr)
      have x0' := hk.cell x0
      have x1' := hk.cell x1
      have y0' := hk.cell y0
      have y1' := hk.cell y1
      simp only at x0' x1' y0' y1'
      clear hk x0 x1 y0 y1 hx
      go_wp2
      go_quiet (fail)
      go_wp2
      go_roundw
      case rel => exact ⟨k + 1, by omega, by go_num, (unhide HKr).drewN _⟩
      case measure => simp [intOf]; omega
    · go_wp2
      go_ret
      exact ⟨rfl, (unhide HKW).trans (unhide HKr)⟩
theorem sameProgsF (p : List Fn) (v1 v2 : Value) (w : World) (h1 : ProgAt w v1 p) (h2 : ProgAt w v2 p) :
    Calls Tryz.prog 11 #[v1, v2] w fun e w' => e = .returned (.bool true) ∧ Kept w w' := by
  obtain ⟨oa1, cap1, rfl, hl8, i1⟩ := h1
  obtain ⟨oa2, cap2, rfl, _, i2⟩ := h2
  have hn3 : ((p.length : Int) != (p.length : Int)) = false := by simp
  generalize hm : p.length = m at *
  have HI1 := hide i1
  have HI2 := hide i2
  have HM := hide hm
  clear i1 i2 hm
  go_enter Tryz.func11, Tryz.ntmps11
  go_wp2
  go_loopw [5] (fun s wr => ∃ k : Nat, k ≤ m ∧ s = .int .i64 k ∧ Hid (Kept w wr)) (fun s _ => m - (intOf s).toNat)
  case atStart => exact ⟨0, Nat.zero_le _, rfl, Kept.refl _⟩
  case round =>
    obtain ⟨k, hkm, rfl, HKr⟩ := hrel
    by_cases hlt : k < m
    · obtain ⟨f, hx⟩ : ∃ f, p[k]? = some f := ⟨_, List.getElem?_eq_getElem (by rw [unhide HM]; exact hlt)⟩
      obtain ⟨p1, o1, cv1, rfl, x0, x1, x2, hc1⟩ := (unhide HI1) k _ hx
      obtain ⟨p2, o2, cv2, rfl, y0, y1, y2, hc2⟩ := (unhide HI2) k _ hx
      have hk := unhide HKr
      have x0' := hk.cell x0
      have x1' := hk.cell x1
      have x2' := hk.cell x2
      have y0' := hk.cell y0
      have y1' := hk.cell y1
      have y2' := hk.cell y2
      obtain ⟨oc1, cc1, rfl, _, _⟩ := id hc1
      obtain ⟨oc2, cc2, rfl, _, _⟩ := id hc2
      have HSF : Hid (∀ u, Kept wr u → Calls Tryz.prog 31 #[.agg #[.int .i64 f.args, .int .i64 f.locals, .slice oc1 f.code.length cc1], .agg #[.int .i64 f.args, .int .i64 f.locals, .slice oc2 f.code.length cc2]] u fun e w' => e = .returned (.bool true) ∧ Kept u w') :=
        hide (fun u hu => sameFuncsF f.args f.locals f.code _ _ u (hc1.kept (hk.trans hu)) (hc2.kept (hk.trans hu)))
      clear hk x0 x1 x2 y0 y1 y2 hx hc1 hc2
      go_wp2_with fail
      go_cut [26] from 11 to 26 (fun s26 wx => s26 = .bool false ∧ Hid (Kept wr wx))
      case first =>
        go_region_with (go_at_call 31; refine ((unhide HSF) _ ?_).mono ?_; (repeat (first | exact Kept.refl _ | refine Kept.drew ?_ | refine Kept.alloc ?_ _)); rintro e w' ⟨rfl, hkk⟩)
        all_goals go_wp2_with fail
        all_goals go_meet
        all_goals exact ⟨rfl, hide (by first | exact hkk | exact (Kept.refl wr).drew.trans hkk)⟩
      case rest =>
        obtain ⟨rfl, HKx⟩ := hcut
        go_wp2
        go_roundw
        case rel => exact ⟨k + 1, by omega, by go_num, (unhide HKr).trans (unhide HKx)⟩
        case measure => simp [intOf]; omega
    · go_wp2
      go_ret
      exact ⟨rfl, unhide HKr⟩
end Go.Proofs.YtjioipkfnekigaaGreatDoor
