/- TextH, Takes, TakesQ, TextI, TakesT, TakesU -/
import Derived.Test.YtokhibfenccijaaGreatDoorKB03
import Derived.Test.YtokhibfenccijaaGreatDoorKB01
import Derived.Test.YtokhibfenccijaaGreatDoorChecked
import Derived.Deep.RegionHeld3
set_option maxRecDepth 100000
set_option maxHeartbeats 8000000
namespace Go.Proofs.YtokhibfenccijaaGreatDoor
open Go.RowKit Go.Maps
def opOfT (wd : List UInt8) (l : List Int) : Option (Int × Int) := match kindT wd with
  | none => none
  | some k => if l.length = (tkS.getD k ([], 0)).2 then some ((k : Int), l.getLastD 0) else none
def OpPost (wd : List UInt8) (l : List Int) (w : World) (e : Ending) (w' : World) : Prop := match opOfT wd l with
  | some x => e = .returned (.agg #[.int .i64 x.1, .int .i64 x.2]) ∧ Kept w w'
  | none => e = leftT ∧ Kept w w'
theorem kindT_lt {wd : List UInt8} {k : Nat} (h : kindT wd = some k) : k < 17 := by
  unfold kindT at h
  rw [List.findIdx?_eq_some_iff_getElem] at h
  exact h.1
theorem opOf_any (w : World) (wd : List UInt8) (g n : Nat) (l : List Int) (hn : l.length = n) (h : ∃ cur, w.heap[g]? = some (.cells cur 3) ∧ ∀ (i : Nat) z, l[i]? = some z → cur[i]? = some (.int .i64 z)) (hl : n ≤ 1000000) (hk : TKAt w) :
    Calls Tryz.prog 94 #[.string ⟨wd.toArray⟩, .slice (some ⟨g, 0, none⟩) n n] w (OpPost wd l w) := by
  have HKI : Hid (∀ u, Kept w u → Calls Tryz.prog 134 #[.string ⟨wd.toArray⟩] u (KindPost wd u)) := hide fun u hu => tKindOf_any u wd (hk.kept hu)
  have HY : Hid (∀ u, Calls Tryz.prog 63 #[.bool true] u fun e w' => e = .returned (.tuple #[]) ∧ w' = u) := hide ask_yes
  have HO : Hid (∀ u, Calls Tryz.prog 63 #[.bool false] u fun e w' => e = leftT ∧ w' = u) := hide ask_no
  have HN := hide hn
  have HH := hide h
  have HTK := hide hk
  have HZ : Hid (Kept w (w.alloc (.cells #[.int .i64 0, .int .i64 0] 72)) ∧ (w.alloc (.cells #[.int .i64 0, .int .i64 0] 72)).heap[w.heap.size]? = some (.cells #[.int .i64 0, .int .i64 0] 72) ∧ w.heap.size ≤ w.heap.size) := hide ⟨(Kept.refl w).alloc _, lays_new rfl, Nat.le_refl _⟩
  generalize (ByteArray.mk wd.toArray) = S at *
  clear h hk hn
  go_enter Tryz.func94, Tryz.ntmps94
  go_wp2_with fail
  generalize w.alloc (.cells #[.int .i64 0, .int .i64 0] 72) = w0 at *
  obtain ⟨R, hR⟩ : ∃ r, r = w.heap.size := ⟨_, rfl⟩
  have HR : Hid (w.heap.size ≤ R) := hide (by omega)
  rw [← hR]
  have HZ2 : Hid (Kept w w0 ∧ w0.heap[R]? = some (.cells #[.int .i64 0, .int .i64 0] 72)) := hide (by rw [hR]; exact ⟨(unhide HZ).1, (unhide HZ).2.1⟩)
  clear hR HZ
  refine ((unhide HKI) w0 (unhide HZ2).1).mono ?_
  intro e w1 hp
  unfold KindPost at hp
  cases hkt : kindT wd with
  | none =>
    rw [hkt] at hp
    obtain ⟨rfl, k1⟩ := hp
    have HK := hide ((unhide HZ2).1.trans k1)
    have HOP : Hid (opOfT wd l = none) := hide (by unfold opOfT; rw [hkt])
    clear k1 HZ2 hkt
    dsimp only [leftT]
    go_wp2_with fail
    refine ⟨rfl, ?_⟩
    unfold OpPost
    rw [unhide HOP]
    exact ⟨rfl, unhide HK⟩
  | some k =>
    rw [hkt] at hp
    obtain ⟨rfl, k1⟩ := hp
    have hk17 := kindT_lt hkt
    have HKT := hide hkt
    have hk0 : (0 : Int) ≤ (k : Int) := by omega
    have hk1 : (k : Int) < 17 := by omega
    have b1 : ∀ o : Obj, (w1.alloc o).cell? ⟨0, k * 2 + 1, none⟩ = some (.int .i64 ((tkS.getD k ([], 0)).2 : Nat)) := fun o => (((unhide HZ2).1.trans k1).alloc o).cell ((unhide HTK) k hk17).2
    have HK := hide (And.intro ((unhide HZ2).1.trans k1) (lays_kept k1 (unhide HZ2).2))
    clear k1 HZ2 hkt HKI
    generalize hnn : (tkS.getD k ([], 0)).2 = nn at *
    have HNN := hide hnn
    clear hnn
    by_cases hq : n = nn
    · subst hq
      go_wp2_with fail
      refine ((unhide HY) _).mono ?_
      rintro _ _ ⟨rfl, rfl⟩
      obtain ⟨X, hX⟩ : ∃ r, r = w1.heap.size := ⟨_, rfl⟩
      have HOP : Hid (opOfT wd l = some ((k : Int), l.getLastD 0)) := hide (by unfold opOfT; rw [unhide HKT]; simp only [unhide HNN, unhide HN, if_true])
      have H1 : Hid (Kept w (w1.alloc (.cells #[.int .i64 (k : Int), .int .i64 0] 72)) ∧ (w1.alloc (.cells #[.int .i64 (k : Int), .int .i64 0] 72)).heap[X]? = some (.cells #[.int .i64 (k : Int), .int .i64 0] 72) ∧ (w1.alloc (.cells #[.int .i64 (k : Int), .int .i64 0] 72)).heap[R]? = some (.cells #[.int .i64 0, .int .i64 0] 72) ∧ w.heap.size ≤ X ∧ R ≠ X) := hide ⟨(unhide HK).1.alloc _, by rw [hX]; exact lays_new rfl, lays_alloc (unhide HK).2 _, by have := (unhide HK).1.size; omega, by have := (Array.getElem?_eq_some_iff.1 (unhide HK).2).1; omega⟩
      rw [← hX]
      have HXW := hide (And.intro (unhide H1).2.2.2.1 (unhide H1).2.2.2.2)
      clear hX HK b1
      generalize w1.alloc (.cells #[.int .i64 (k : Int), .int .i64 0] 72) = wx at *
      go_wp2_with fail
      go_loopw [22] (fun s22 wr => ∃ i : Nat, i ≤ n ∧ s22 = .int .i64 i ∧ Hid (Kept w wr ∧ wr.heap[X]? = some (.cells #[.int .i64 (k : Int), .int .i64 ((l.take i).getLastD 0)] 72) ∧ wr.heap[R]? = some (.cells #[.int .i64 0, .int .i64 0] 72))) (fun s22 _ => n - (intOf s22).toNat)
      case atStart => exact ⟨0, Nat.zero_le _, rfl, hide ⟨(unhide H1).1, by simpa using (unhide H1).2.1, (unhide H1).2.2.1⟩⟩
      case round =>
        obtain ⟨i, hin, rfl, HW⟩ := hrel
        clear H1
        by_cases hi : i < n
        · obtain ⟨z, hz⟩ : ∃ z, l[i]? = some z := ⟨_, List.getElem?_eq_getElem (by rw [unhide HN]; exact hi)⟩
          obtain ⟨a1, a2, a3⟩ := unhide HW
          obtain ⟨cur, h1, h2⟩ := unhide HH
          have c0 : wr.cell? ⟨g, i, none⟩ = some (.int .i64 z) := (cell_lays (lays_kept a1 h1) i).trans (h2 i z hz)
          have c1 := cell_lays a2 1
          have f1 := frozen_lays a2 1
          have hi0 : (0 : Int) ≤ (i : Int) := by omega
          have hi1 : (i : Int) < (n : Int) := by omega
          have HN2 : Hid (Kept w (wr.setCell ⟨X, 1, none⟩ (.int .i64 z)) ∧ (wr.setCell ⟨X, 1, none⟩ (.int .i64 z)).heap[X]? = some (.cells #[.int .i64 (k : Int), .int .i64 ((l.take (i + 1)).getLastD 0)] 72) ∧ (wr.setCell ⟨X, 1, none⟩ (.int .i64 z)).heap[R]? = some (.cells #[.int .i64 0, .int .i64 0] 72)) := hide ⟨a1.setCell (p := ⟨X, 1, none⟩) (unhide HXW).1 _, by
            have := lays_set a2 1 (.int .i64 z)
            rw [List.take_add_one, hz]
            simpa using this, lays_other a3 (unhide HXW).2 _⟩
          generalize (l.take i).getLastD 0 = lz at *
          clear a1 a2 a3 h1 h2 hz HW
          go_wp2_with fail
          go_roundw
          case rel => exact ⟨i + 1, by omega, by go_num, HN2⟩
          case measure => simp [intOf]; omega
        · obtain rfl : i = n := by omega
          obtain ⟨a1, a2, a3⟩ := unhide HW
          rw [List.take_of_length_le (by rw [unhide HN]; omega)] at a2
          have c0 := cell_lays a2 0
          have c1 := cell_lays a2 1
          have x0 := cell_lays a3 0
          have x1 := cell_lays a3 1
          have z0 := frozen_lays a3 0
          have z1 := frozen_lays a3 1
          have hRX := (unhide HXW).2
          have k1 := lays_set (lays_set a3 0 (.int .i64 (k : Int))) 1 (.int .i64 (l.getLastD 0))
          have HKF : Hid (Kept w ((wr.setCell ⟨R, 0, none⟩ (.int .i64 (k : Int))).setCell ⟨R, 1, none⟩ (.int .i64 (l.getLastD 0)))) := hide ((a1.setCell (p := ⟨R, 0, none⟩) (unhide HR) _).setCell (p := ⟨R, 1, none⟩) (unhide HR) _)
          simp only [List.getElem?_toArray, List.getElem?_cons_zero, List.getElem?_cons_succ] at c0 c1 x0 x1
          have t0 := cell_lays k1 0
          have t1 := cell_lays k1 1
          simp only [Array.setIfInBounds, List.size_toArray, List.length_cons, List.length_nil] at t0 t1
          have HT := hide (And.intro t0 t1)
          generalize l.getLastD 0 = lz at *
          clear a1 a2 a3 k1 t0 t1 HW
          go_wp2_with fail
          obtain ⟨t0, t1⟩ := unhide HT
          refine bodyPost_ret (v := .agg #[.int .i64 (k : Int), .int .i64 lz]) (by simp [results, Tryz.results94, go_sem, t0, t1]) rfl ?_
          unfold OpPost
          rw [unhide HOP]
          exact ⟨rfl, unhide HKF⟩
    · have hq0 : ((n : Int) == (nn : Int)) = false := by simp; omega
      have HOP : Hid (opOfT wd l = none) := hide (by unfold opOfT; rw [unhide HKT]; simp only [unhide HNN, unhide HN, if_neg hq])
      clear hq
      go_wp2_with fail
      refine ((unhide HO) _).mono ?_
      rintro _ _ ⟨rfl, rfl⟩
      dsimp only [leftT]
      go_wp2_with fail
      refine ⟨rfl, ?_⟩
      unfold OpPost
      rw [unhide HOP]
      exact ⟨rfl, (unhide HK).1.alloc _⟩
open Go.RowKit
theorem PS : (∀ (a : Act) (t : Tmp) (v : Value), a.put (some t) v = { a with tmps := a.tmps.setIfInBounds t v }) ∧ (∀ (a : Act) (v : Value), a.put none v = a) ∧
    (∀ (l : List Value) (i : Nat) (a : Value), l.toArray.setIfInBounds i a = (l.set i a).toArray) ∧ (∀ (l : List Bool) (i : Nat) (a : Bool), l.toArray.setIfInBounds i a = (l.set i a).toArray) ∧
    (∀ (l : List Value) (a b : Value), (b :: l).set 0 a = a :: l) ∧ (∀ (l : List Bool) (a b : Bool), (b :: l).set 0 a = a :: l) ∧
    (∀ (l : List Value) (i : Nat) (a b : Value), (b :: l).set (i + 1) a = b :: l.set i a) ∧ (∀ (l : List Bool) (i : Nat) (a b : Bool), (b :: l).set (i + 1) a = b :: l.set i a) :=
  ⟨fun _ _ _ => rfl, fun _ _ => rfl, fun _ _ _ => by simp, fun _ _ _ => by simp, fun _ _ _ => rfl, fun _ _ _ => rfl, fun _ _ _ _ => rfl, fun _ _ _ _ => rfl⟩
theorem at_drop {L tl : List Oper} {i : Nat} {oi : Oper} (hd : L.drop i = oi :: tl) : L.toArray[i]? = some oi := by
  have h : (L.drop i)[0]? = some oi := by rw [hd]; rfl
  rw [List.getElem?_drop] at h
  simpa using h
theorem take_yes {P : Program} {md : Region.Mode} {Q : Exit → Act → World → Prop} {S : World → Prop} {L tl : List Oper} {i : Nat} {oi : Oper} {v : Value} {fuel : Nat} {listed : Array Bool} {a : Act} {w : World} (hd : L.drop i = oi :: tl)
    (hs : Region.noSelect L.toArray = true) (hf : Region.free md L.toArray listed i = true) (hr : (Region.ready md L.toArray listed).contains i = true)
    (hQ : ∀ c a w, Q (.panic c) (a.put oi.dst v) w → Q (.panic c) a w) (hw : Region.wanted oi (yielded L.toArray a.tmps) = true) (hy : ∀ u, S u → (execOp a.eval oi).run P u = .ok (.value v) u) (hS : S w)
    (h : wpAnyH P md L.toArray Q S fuel (listed.setIfInBounds i true) (a.put oi.dst v) w) : wpAnyH P md L.toArray Q S (fuel + 1) listed a w :=
  wpAnyH_take (at_drop hd) hs hf hr hQ (.inl ⟨hw, hy⟩) hS h
theorem take_one {P : Program} {md : Region.Mode} {Q : Exit → Act → World → Prop} {S : World → Prop} {L tl : List Oper} {i : Nat} {oi : Oper} {fuel : Nat} {listed : Array Bool} {a : Act} {w : World} (hd : L.drop i = oi :: tl)
    (hr : Region.ready md L.toArray listed = [i])
    (h : ∀ K' : Act → World → Prop, Shut (∀ a w, S w → (S w → wpAnyH P md L.toArray Q S fuel (listed.setIfInBounds i true) a w) → K' a w) → if Region.wanted oi (yielded L.toArray a.tmps) = true then Oper.wp P oi a w K' Q else K' (a.put oi.dst undef) w) :
    wpAnyH P md L.toArray Q S (fuel + 1) listed a w :=
  wpAnyH_ready hr (by simp) (AllReadyH.cons (at_drop hd) h AllReadyH.nil)
end Go.Proofs.YtokhibfenccijaaGreatDoor
namespace Go.Proofs.YtokhibfenccijaaGreatDoor
open Go.RowKit
variable {P : Program} {md : Region.Mode} {Q : Exit → Act → World → Prop} {S : World → Prop}
structure AnyY (plan : List Nat) (P : Program) (md : Region.Mode) (ops : Array Oper) (Q : Exit → Act → World → Prop) (S : World → Prop) (n : Nat) (listed : Array Bool) (a : Act) (w : World) : Prop where
  out : wpAnyH P md ops Q S n listed a w
theorem planY {ops : Array Oper} {n : Nat} {listed : Array Bool} {a : Act} {w : World} (plan : List Nat) (h : AnyY plan P md ops Q S n listed a w) : wpAnyH P md ops Q S n listed a w := h.out
theorem endY {ops : Array Oper} {n : Nat} {listed : Array Bool} {a : Act} {w : World} (h : wpAnyH P md ops Q S n listed a w) : AnyY [] P md ops Q S n listed a w := ⟨h⟩
theorem takeY {L tl : List Oper} {i : Nat} {plan : List Nat} {oi : Oper} {v : Value} {fuel : Nat} {listed : Array Bool} {a : Act} {w : World} (hS : S w) (hy : ∀ u, S u → (execOp a.eval oi).run P u = .ok (.value v) u)
    (h : AnyY plan P md L.toArray Q S fuel (listed.setIfInBounds i true) (a.put oi.dst v) w) (hd : L.drop i = oi :: tl := by rfl) (hs : Region.noSelect L.toArray = true := by kernel_rfl) (hf : Region.free md L.toArray listed i = true := by kernel_rfl)
    (hr : (Region.ready md L.toArray listed).contains i = true := by kernel_rfl) (hQ : ∀ c a w, Q (.panic c) (a.put oi.dst v) w → Q (.panic c) a w := by exact fun _ _ _ h => h)
    (hw : Region.wanted oi (yielded L.toArray a.tmps) = true := by rfl) : AnyY (i :: plan) P md L.toArray Q S (fuel + 1) listed a w := ⟨take_yes hd hs hf hr hQ hw hy hS h.out⟩
end Go.Proofs.YtokhibfenccijaaGreatDoor
namespace Go.Proofs.YtokhibfenccijaaGreatDoor
open Go.RowKit Go.Maps
def CodZ (b m : Nat) (w : World) (v : Value) (c : List (Int × Int)) : Prop := ∃ oa cap, v = .slice oa c.length cap ∧ c.length ≤ 100000 ∧ ∀ (i : Nat) x, c[i]? = some x → ∃ g cur, oa = some ⟨g, 0, none⟩ ∧ (b ≤ g ∧ g < m) ∧ w.heap[g]? = some (.cells cur 72) ∧ cur[i * 2]? = some (.int .i64 x.1) ∧ cur[i * 2 + 1]? = some (.int .i64 x.2)
def PrR (b m : Nat) (w : World) (v : Value) (p : List Fn) : Prop := b ≤ m ∧ m ≤ w.heap.size ∧ ∃ c, w.ownsRow b 69 3 v p.length c ∧ ∀ (i : Nat) f, p[i]? = some f → ∃ cv, c[i * 3]? = some (.int .i64 f.args) ∧ c[i * 3 + 1]? = some (.int .i64 f.locals) ∧ c[i * 3 + 2]? = some cv ∧ (f.code.length ≤ 100000 ∧ (i + 1 = p.length → w.ownsRow m 72 2 cv f.code.length (flatOps f.code)) ∧ (i + 1 < p.length → CodZ b m w cv f.code))
def StayT (t : TypeId) (w w' : World) : Prop := ∀ (g : Nat) (c : Array Value), w.heap[g]? = some (.cells c t) → w'.heap[g]? = some (.cells c t)
theorem rowT_at {w : World} {base : Nat} {e : TypeId} {size : Nat} {v : Value} {n : Nat} {xs : List Value} (h : w.ownsRow base e size v n xs) :
    ∃ oa cap, v = .slice oa n cap ∧ n ≤ cap ∧ ∀ (j : Nat) u, xs[j]? = some u → ∃ g cur, oa = some ⟨g, 0, none⟩ ∧ (base ≤ g ∧ g < w.heap.size) ∧ w.heap[g]? = some (.cells cur e) ∧ ∀ (j : Nat) u, xs[j]? = some u → cur[j]? = some u := by
  obtain ⟨hl, ⟨rfl, rfl⟩ | ⟨g, cap, cur, rfl, hb, hh, h1, h2, hs, ht⟩⟩ := h
  · refine ⟨none, 0, rfl, Nat.le_refl _, fun j u hj => ?_⟩
    have := (List.getElem?_eq_some_iff.1 hj).1
    omega
  · refine ⟨_, cap, rfl, h1, fun _ _ _ => ⟨g, cur, rfl, ⟨hb, (Array.getElem?_eq_some_iff.1 hh).1⟩, hh, fun j u hj => ?_⟩⟩
    rw [← ht, List.getElem?_take] at hj
    split at hj
    · simpa using hj
    · cases hj
theorem CodZ.of {m : Nat} {w : World} {v : Value} {c : List (Int × Int)} (h : w.ownsRow m 72 2 v c.length (flatOps c)) (hl : c.length ≤ 100000) : CodZ m w.heap.size w v c := by
  obtain ⟨oa, cap, e, _, hi⟩ := rowT_at h
  refine ⟨oa, cap, e, hl, fun i x hx => ?_⟩
  obtain ⟨q1, q2⟩ := flatOps_at c i x hx
  obtain ⟨g, cur, r1, r2, r3, r4⟩ := hi _ _ q1
  exact ⟨g, cur, r1, r2, r3, r4 _ _ q1, r4 _ _ q2⟩
theorem CodZ.stay {b b' m m' : Nat} {w w' : World} {v : Value} {c : List (Int × Int)} (h : CodZ b m w v c) (hb : b' ≤ b) (hm : m ≤ m') (k : ∀ g, g < m → w'.heap[g]? = w.heap[g]?) : CodZ b' m' w' v c := by
  obtain ⟨oa, cap, e, hl, hi⟩ := h
  refine ⟨oa, cap, e, hl, fun i x hx => ?_⟩
  obtain ⟨g, cur, r1, r2, r3, r4⟩ := hi i x hx
  exact ⟨g, cur, r1, by omega, (k g r2.2).trans r3, r4⟩
theorem CodZ.stayT {b b' m m' : Nat} {w w' : World} {v : Value} {c : List (Int × Int)} (h : CodZ b m w v c) (hb : b' ≤ b) (hm : m ≤ m') (k : StayT 72 w w') : CodZ b' m' w' v c := by
  obtain ⟨oa, cap, e, hl, hi⟩ := h
  refine ⟨oa, cap, e, hl, fun i x hx => ?_⟩
  obtain ⟨g, cur, r1, r2, r3, r4⟩ := hi i x hx
  exact ⟨g, cur, r1, by omega, k g cur r3, r4⟩
theorem CodZ.code {b m : Nat} {w : World} {v : Value} {c : List (Int × Int)} (h : CodZ b m w v c) : CodeAt w v c := by
  obtain ⟨oa, cap, e, hl, hi⟩ := h
  refine ⟨oa, cap, e, by omega, fun i x hx => ?_⟩
  obtain ⟨g, cur, r1, r2, r3, r4, r5⟩ := hi i x hx
  exact ⟨g, 0, r1, by rw [Nat.zero_add, cell_lays r3]; exact r4, by rw [Nat.zero_add, cell_lays r3]; exact r5⟩
theorem PrR.prog {b m : Nat} {w : World} {v : Value} {p : List Fn} (h : PrR b m w v p) (hl : p.length ≤ 100000) : ProgAt w v p := by
  obtain ⟨_, hm, c, hr, hc⟩ := h
  obtain ⟨oa, cap, e, _, hi⟩ := rowT_at hr
  refine ⟨oa, cap, e, by omega, fun i f hf => ?_⟩
  obtain ⟨cv, q1, q2, q3, q4, q5, q6⟩ := hc i f hf
  obtain ⟨g, cur, r1, r2, r3, r4⟩ := hi _ _ q1
  refine ⟨g, 0, cv, r1, by rw [Nat.zero_add, cell_lays r3]; exact r4 _ _ q1, by rw [Nat.zero_add, cell_lays r3]; exact r4 _ _ q2, by rw [Nat.zero_add, cell_lays r3]; exact r4 _ _ q3, ?_⟩
  have := (List.getElem?_eq_some_iff.1 hf).1
  by_cases hl : i + 1 = p.length
  · exact (CodZ.of (q5 hl) q4).code
  · exact (q6 (by omega)).code
theorem PrR.kept {b m : Nat} {w w' : World} {v : Value} {p : List Fn} (h : PrR b m w v p) (k : Kept w w') : PrR b m w' v p := by
  obtain ⟨h1, hm, c, hr, hc⟩ := h
  refine ⟨h1, Nat.le_trans hm k.size, c, row_same' hr k, fun i f hf => ?_⟩
  obtain ⟨cv, q1, q2, q3, q4, q5, q6⟩ := hc i f hf
  exact ⟨cv, q1, q2, q3, q4, fun hl => row_same' (q5 hl) k, fun hl => (q6 hl).stay (Nat.le_refl _) (Nat.le_refl _) (fun g hg => k.block g (by omega))⟩
theorem PrR.nil (b : Nat) (w : World) (hb : b ≤ w.heap.size) : PrR b b w (.slice none 0 0) [] := ⟨Nat.le_refl _, hb, [], World.ownsRow_nil _ _ _ _, fun i f hf => by simp at hf⟩
theorem rowT_app (t ts : TypeId) (k by_ : Nat) (z : Value) (hu : Tryz.prog.underlying ts = some (.slice t)) (hi : (Tryz.prog.info? t).map (fun i => (i.zero, i.size, i.bytes)) = some (some z, k, by_)) (hz : z.cells.size = k) (hk0 : 0 < k) (hby : by_ ≤ 1000)
    (b : Nat) (w : World) (cv : Value) (n : Nat) (l e : List Value) (hrow : w.ownsRow b t k cv n l) (hb : b ≤ w.heap.size) (hn : n ≤ 1000000) (he : e.length = k) (h1 : ∀ u ∈ e, u.oneCell' = true) :
    ∃ v' w', (Builtin.append_ #[ts, ts] ts #[cv, .slice (some ⟨w.heap.size, 0, none⟩) 1 1]).run Tryz.prog (w.alloc (.cells e.toArray t)) = .ok v' w' ∧ w'.ownsRow b t k v' (n + 1) (l ++ e) ∧ Below b w w' ∧ ∀ u, t ≠ u → StayT u w w' := by
  obtain ⟨i0, hi0, hz0, hz1, hz2⟩ := info_parts hi
  have hL : (w.alloc (.cells e.toArray t)).heap[w.heap.size]? = some (.cells e.toArray t) := lays_new rfl
  obtain ⟨v', w2, hrun, hown, hgrow, _, _⟩ := run_append_own_at (P := Tryz.prog) (w := w.alloc (.cells e.toArray t)) b ts ts t i0 z k by_ hu hi0 hz0 hz1 hz2 hz hk0 cv n l (hrow.alloc _) ⟨w.heap.size, 0, none⟩ 1 1 e (by omega) (fun j u hj => by
      have : ((⟨w.heap.size, 0, none⟩ : Addr).add j) = ⟨w.heap.size, j, none⟩ := by unfold Addr.add; split <;> simp_all
      rw [this, cell_lays hL]; simpa using hj) h1 (by unfold maxLen; omega) (by have : (n + 1) * by_ ≤ 1000001 * 1000 := Nat.mul_le_mul (by omega) hby; omega) (by simp; omega)
  refine ⟨v', w2, hrun, hown, Below.grown (a := w) (w := w.alloc (.cells e.toArray t)) ⟨rfl, rfl, rfl, by simp, fun g hg => Below.heap_alloc w _ g (by omega)⟩ hgrow (Nat.le_trans hb (by simp)) (fun g hg => (World.ownsRow.lt hrow g hg).1), fun u hu g c hg => ?_⟩
  have hg2 := lays_alloc hg (.cells e.toArray t)
  refine (hgrow.block g (Array.getElem?_eq_some_iff.1 hg2).1 (fun e => ?_)).trans hg2
  obtain ⟨_, ⟨h0, _⟩ | ⟨g', _, cur', h0, _, hh, _⟩⟩ := hrow
  · rw [h0] at e; cases e
  · rw [h0] at e
    obtain rfl : g = g' := by simpa [Value.ownBlock] using e
    rw [hg] at hh
    simp only [Option.some.injEq, Obj.cells.injEq] at hh
    exact hu hh.2.1.symm
theorem fnInfoT : (Tryz.prog.info? 69).map (fun i => (i.zero, i.size, i.bytes)) = some (some (.agg #[.int .i64 0, .int .i64 0, .slice none 0 0]), 3, 40) := by kernel_rfl
theorem opInfoT : (Tryz.prog.info? 72).map (fun i => (i.zero, i.size, i.bytes)) = some (some (.agg #[.int .i64 0, .int .i64 0]), 2, 16) := by kernel_rfl
theorem PrR.addFn {b m : Nat} {w : World} {v : Value} {p : List Fn} (h : PrR b m w v p) (hl : p.length ≤ 100000) (x y : Int) :
    ∃ v' w', (Builtin.append_ #[27, 27] 27 #[v, .slice (some ⟨w.heap.size, 0, none⟩) 1 1]).run Tryz.prog (w.alloc (.cells #[.int .i64 x, .int .i64 y, .slice none 0 0] 69)) = .ok v' w' ∧ PrR b w'.heap.size w' v' (p ++ [⟨x, y, []⟩]) ∧ Below b w w' ∧ StayT 3 w w' := by
  obtain ⟨h1, hm, c, hr, hc⟩ := h
  obtain ⟨v', w', q1, q2, q3, q4⟩ := rowT_app 69 27 3 40 _ Tryz.underlying27 fnInfoT rfl (by decide) (by decide) b w v p.length c [.int .i64 x, .int .i64 y, .slice none 0 0] hr (by omega) (by omega) rfl (fun u hu => by
    simp only [List.mem_cons, List.not_mem_nil, or_false] at hu
    rcases hu with rfl | rfl | rfl <;> rfl)
  have st := q4 72 (by decide)
  have hcl : c.length = p.length * 3 := hr.1
  have hs := q3.size
  refine ⟨v', w', q1, ⟨by omega, Nat.le_refl _, _, by rw [List.length_append]; exact q2, fun i f hf => ?_⟩, q3, q4 _ (by decide)⟩
  by_cases hi : i < p.length
  · rw [List.getElem?_append_left hi] at hf
    obtain ⟨cv, r1, r2, r3, r4, r5, r6⟩ := hc i f hf
    refine ⟨cv, by rw [List.getElem?_append_left (by omega)]; exact r1, by rw [List.getElem?_append_left (by omega)]; exact r2, by rw [List.getElem?_append_left (by omega)]; exact r3, r4, fun hq => by simp at hq; omega, fun _ => ?_⟩
    by_cases hq : i + 1 = p.length
    · exact (CodZ.of (r5 hq) r4).stayT h1 hs st
    · exact (r6 (by omega)).stayT (Nat.le_refl _) (by omega) st
  · rw [List.getElem?_append_right (by omega)] at hf
    obtain ⟨rfl, rfl⟩ : i = p.length ∧ (⟨x, y, []⟩ : Fn) = f := by
      have := (List.getElem?_eq_some_iff.1 hf).1
      simp only [List.length_cons, List.length_nil] at this
      obtain rfl : i = p.length := by omega
      exact ⟨rfl, by simpa using hf⟩
    refine ⟨.slice none 0 0, ?_, ?_, ?_, by simp, fun _ => World.ownsRow_nil _ _ _ _, fun hq => by simp at hq⟩ <;> rw [List.getElem?_append_right (by omega), hcl] <;> simp
theorem rowT_set {w : World} {b g cap n k j : Nat} {t : TypeId} {xs : List Value} (h : w.ownsRow b t k (.slice (some ⟨g, 0, none⟩) n cap) n xs) (u : Value) : (w.setCell ⟨g, j, none⟩ u).ownsRow b t k (.slice (some ⟨g, 0, none⟩) n cap) n (xs.set j u) := by
  obtain ⟨hl, ⟨h0, _⟩ | ⟨g', cap', cur, h0, hb, hh, h1, h2, hs, ht⟩⟩ := h
  · cases h0
  · simp only [Value.slice.injEq, Option.some.injEq, Addr.mk.injEq, and_true, true_and] at h0
    obtain ⟨rfl, rfl⟩ := h0
    refine ⟨by simpa using hl, .inr ⟨g, cap, cur.setIfInBounds j u, rfl, hb, lays_set hh j u, h1, h2, by simpa using hs, ?_⟩⟩
    rw [← ht, Array.toList_setIfInBounds, List.take_set]
theorem PrR.last {b m : Nat} {w : World} {v : Value} {q : List Fn} {f : Fn} (h : PrR b m w v (q ++ [f])) : ∃ g cap cv oc cc, v = .slice (some ⟨g, 0, none⟩) (q.length + 1) cap ∧ cv = .slice oc f.code.length cc ∧ w.cell? ⟨g, q.length * 3 + 2, none⟩ = some cv ∧ w.frozen? ⟨g, q.length * 3 + 2, none⟩ = false ∧ b ≤ g ∧ w.ownsRow m 72 2 cv f.code.length (flatOps f.code) := by
  obtain ⟨h1, hm, c, hr, hc⟩ := h
  obtain ⟨cv, r1, r2, r3, r4, r5, _⟩ := hc q.length f (by simp)
  have r5 := r5 (by simp)
  obtain ⟨oc, cc, e, _⟩ := rowT_at r5
  have hr' := hr
  obtain ⟨hl, ⟨_, h0⟩ | ⟨g, cap, cur, h0, hb, hh, q1, q2, hs, ht⟩⟩ := hr
  · simp at h0
  · refine ⟨g, cap, cv, oc, cc, by rw [h0]; simp, e, ?_, frozen_lays hh _, hb, r5⟩
    rw [cell_lays hh]
    rw [← ht, List.getElem?_take] at r3
    split at r3
    · simpa using r3
    · cases r3
theorem PrR.addOp {b m g cap : Nat} {w : World} {q : List Fn} {f : Fn} {cv : Value} (h : PrR b m w (.slice (some ⟨g, 0, none⟩) (q.length + 1) cap) (q ++ [f])) (hcv : w.cell? ⟨g, q.length * 3 + 2, none⟩ = some cv) (x : Int × Int) (hl : f.code.length < 100000) :
    ∃ v' w', (Builtin.append_ #[67, 67] 67 #[cv, .slice (some ⟨w.heap.size, 0, none⟩) 1 1]).run Tryz.prog (w.alloc (.cells #[.int .i64 x.1, .int .i64 x.2] 72)) = .ok v' w' ∧ (∃ oc nc cc, v' = .slice oc nc cc) ∧ w'.cell? ⟨g, q.length * 3 + 2, none⟩ = some cv ∧ w'.frozen? ⟨g, q.length * 3 + 2, none⟩ = false ∧
      PrR b m (w'.setCell ⟨g, q.length * 3 + 2, none⟩ v') (.slice (some ⟨g, 0, none⟩) (q.length + 1) cap) (q ++ [⟨f.args, f.locals, f.code ++ [x]⟩]) ∧ Below b w (w'.setCell ⟨g, q.length * 3 + 2, none⟩ v') := by
  obtain ⟨g', cap', cv', oc, cc, e1, rfl, e3, e4, hbg, hrow⟩ := h.last
  simp only [Value.slice.injEq, Option.some.injEq, Addr.mk.injEq, and_true, true_and] at e1
  obtain ⟨rfl, rfl⟩ := e1
  rw [hcv] at e3
  cases e3
  obtain ⟨h1, hm, c, hr, hc⟩ := h
  have hlen : (q ++ [f]).length = q.length + 1 := by simp
  rw [hlen] at hr
  obtain ⟨v', w', q1, q2, q3, q4⟩ := rowT_app 72 67 2 16 _ Tryz.underlying67 opInfoT rfl (by decide) (by decide) m w _ f.code.length (flatOps f.code) [.int .i64 x.1, .int .i64 x.2] hrow hm (by omega) rfl (fun u hu => by
    simp only [List.mem_cons, List.not_mem_nil, or_false] at hu
    rcases hu with rfl | rfl <;> rfl)
  obtain ⟨oc', cc', rfl, _⟩ := rowT_at q2
  have st := q4 69 (by decide)
  obtain ⟨cur, hg⟩ : ∃ cur, w.heap[g]? = some (.cells cur 69) := by
    obtain ⟨_, ⟨h0, _⟩ | ⟨g', cap', cur, h0, _, hh, _⟩⟩ := id hr
    · cases h0
    · simp only [Value.slice.injEq, Option.some.injEq, Addr.mk.injEq, and_true, true_and] at h0
      obtain ⟨rfl, _⟩ := h0
      exact ⟨cur, hh⟩
  have hg' := st g cur hg
  have hr' : w'.ownsRow b 69 3 (.slice (some ⟨g, 0, none⟩) (q.length + 1) cap) (q.length + 1) c := by
    obtain ⟨a1, ⟨h0, _⟩ | ⟨g', cap', cur', h0, a2, hh, a3⟩⟩ := hr
    · cases h0
    · exact ⟨a1, .inr ⟨g', cap', cur', h0, a2, st g' cur' hh, a3⟩⟩
  have hcl : c.length = (q.length + 1) * 3 := hr.1
  have stO : ∀ {g' : Nat} {c' : Array Value}, w'.heap[g']? = some (.cells c' 72) → (w'.setCell ⟨g, q.length * 3 + 2, none⟩ (.slice oc' (f.code.length + 1) cc')).heap[g']? = some (.cells c' 72) := fun {g' c'} hh => lays_other hh (fun e => by
    simp only at e
    subst e
    rw [hg'] at hh
    simp only [Option.some.injEq, Obj.cells.injEq] at hh
    exact absurd hh.2.1 (by decide)) _
  refine ⟨_, w', q1, ⟨_, _, _, rfl⟩, ?_, frozen_lays hg' _, ⟨h1, ?_, c.set (q.length * 3 + 2) (.slice oc' (f.code.length + 1) cc'), ?_, fun i y hy => ?_⟩, ?_⟩
  · rw [cell_lays hg', ← cell_lays hg, hcv]
  · have := q3.size
    simpa [World.setCell] using Nat.le_trans hm this
  · rw [show (q ++ [(⟨f.args, f.locals, f.code ++ [x]⟩ : Fn)]).length = q.length + 1 by simp]
    exact rowT_set hr' _
  · have hi' : i < q.length + 1 := by have := (List.getElem?_eq_some_iff.1 hy).1; simpa using this
    by_cases hi : i < q.length
    · rw [List.getElem?_append_left hi] at hy
      obtain ⟨cv, r1, r2, r3, r4, r5, r6⟩ := hc i y (by rw [List.getElem?_append_left hi]; exact hy)
      refine ⟨cv, by rw [List.getElem?_set_ne (by omega)]; exact r1, by rw [List.getElem?_set_ne (by omega)]; exact r2, by rw [List.getElem?_set_ne (by omega)]; exact r3, r4, fun hq => by simp at hq; omega, fun _ => ?_⟩
      obtain ⟨oa, cp, e, hl', hcells⟩ := r6 (by simp; omega)
      refine ⟨oa, cp, e, hl', fun j y hy => ?_⟩
      obtain ⟨g', cur', s1, s2, s3, s4⟩ := hcells j y hy
      exact ⟨g', cur', s1, s2, stO ((q3.block g' s2.2).trans s3), s4⟩
    · obtain rfl : i = q.length := by omega
      obtain rfl : (⟨f.args, f.locals, f.code ++ [x]⟩ : Fn) = y := by simpa using hy
      obtain ⟨cv, r1, r2, r3, r4, r5, r6⟩ := hc q.length f (by simp)
      refine ⟨_, by rw [List.getElem?_set_ne (by omega)]; exact r1, by rw [List.getElem?_set_ne (by omega)]; exact r2, by rw [List.getElem?_set_self (by omega)], by simp; omega, fun _ => ?_, fun hq => by simp at hq⟩
      rw [show (f.code ++ [x]).length = f.code.length + 1 by simp, show flatOps (f.code ++ [x]) = flatOps f.code ++ [.int .i64 x.1, .int .i64 x.2] by simp [flatOps]]
      obtain ⟨a1, hcase⟩ := q2
      refine ⟨a1, ?_⟩
      rcases hcase with hn | ⟨g', cap', cur', h0, a2, hh, a3⟩
      · exact .inl hn
      · exact .inr ⟨g', cap', cur', h0, a2, stO hh, a3⟩
  · exact Below.setCell ⟨q3.os, q3.tape, q3.output, q3.size, fun k hk => q3.block k (by omega)⟩ hbg _
end Go.Proofs.YtokhibfenccijaaGreatDoor
namespace Go.Proofs.YtokhibfenccijaaGreatDoor
open Go.RowKit
def AnyT (P : Program) (md : Region.Mode) (ops : Array Oper) (Q : Exit → Act → World → Prop) (S : World → Prop) (T : Nat) : Nat → Array Bool → Act → World → Prop
  | 0, listed, a, w => Region.ready md ops listed = [] ∧ Q .normal a w
  | n + 1, listed, a, w => (Region.ready md ops listed = [] → Q .normal a w) ∧
      ∀ i ∈ Region.ready md ops listed, wpOp P ops Q i (fun a' w' => (i ≠ T → S w') ∧ AnyT P md ops Q S T n (listed.setIfInBounds i true) a' w') a w
variable {P : Program} {md : Region.Mode} {ops : Array Oper} {Q : Exit → Act → World → Prop} {S : World → Prop} {T : Nat}
theorem AnyT.any : ∀ (n : Nat) (listed : Array Bool) (a : Act) (w : World), AnyT P md ops Q S T n listed a w → wpAny P md ops Q n listed a w
  | 0, _, _, _, h => h
  | n + 1, _, _, _, h => ⟨h.1, fun i hi => wpOp_mono (fun _ _ h' => AnyT.any n _ _ _ h'.2) (h.2 i hi)⟩
def waitsFor (md : Region.Mode) (ops : Array Oper) (T i : Nat) : Bool := match ops[T]? with | none => true | some o => o.after.any fun e => Region.binds md e && e.on == i
theorem AnyT.first {i : Nat} {oi : Oper} {v : Value} (hi : ops[i]? = some oi) (hsel : ∀ (j : Nat) (o : Oper) cs b, ops[j]? = some o → o.op ≠ .select cs b)
    (hQ : ∀ c a w, Q (.panic c) (a.put oi.dst v) w → Q (.panic c) a w) (hT : waitsFor md ops T i = true) :
    ∀ (n : Nat) (listed : Array Bool) (a : Act) (w : World),
      (∀ j oj, ops[j]? = some oj → j ≠ i → listed.getD j true = false → (∀ e ∈ oj.after, Region.binds md e = true → e.on ≠ i) → oi.apart ops oj = true) →
      i ∈ Region.ready md ops listed → YieldsIf P ops S oi v a → S w →
      AnyT P md ops Q S T n (listed.setIfInBounds i true) (a.put oi.dst v) w → AnyT P md ops Q S T (n + 1) listed a w := by
  intro n
  induction n with
  | zero =>
    intro listed a w _ hr hy hS H
    refine ⟨fun h => (by rw [h] at hr; cases hr), fun j hj => ?_⟩
    by_cases hji : j = i
    · subst hji
      exact hy.wpOp hi hS ⟨fun _ => hS, H⟩
    · have := ready_mono hj hji
      rw [H.1] at this
      cases this
  | succ n ih =>
    intro listed a w hfree hr hy hS H
    refine ⟨fun h => (by rw [h] at hr; cases hr), fun j hj => ?_⟩
    by_cases hji : j = i
    · subst hji
      exact hy.wpOp hi hS ⟨fun _ => hS, H⟩
    · have h1 := H.2 j (ready_mono hj hji)
      obtain ⟨hjun, oj, hoj, hall⟩ := mem_ready.1 hj
      have hun := (mem_ready.1 hr).1
      have hnl : listed.getD i false ≠ true := by
        intro hc
        rcases Nat.lt_or_ge i listed.size with h' | h'
        · simp [h'] at hun hc
          rw [hun] at hc
          cases hc
        · simp [Array.getElem?_eq_none h'] at hc
      have hnot : ∀ e ∈ oj.after, Region.binds md e = true → e.on ≠ i := fun e he hb heq => hnl (by have := hall e he hb; rwa [heq] at this)
      have hjT : j ≠ T := by
        intro e
        subst e
        unfold waitsFor at hT
        rw [hoj] at hT
        simp only [Array.any_eq_true, Bool.and_eq_true, beq_iff_eq] at hT
        obtain ⟨q, hq, hb, hon⟩ := hT
        exact hnot _ (Array.getElem_mem hq) hb hon
      have h2 := wpOp_putIf hoj (hfree j oj hoj hji hjun hnot) (fun cs b => hsel i oi cs b hi) (fun cs b => hsel j oj cs b hoj) hQ hy h1
      refine wpOp_mono (fun a' w' h3 => ⟨fun _ => h3.2.1 hjT, ih (listed.setIfInBounds j true) a' w' ?_ (ready_mono hr (Ne.symm hji)) h3.1 (h3.2.1 hjT) ?_⟩) h2
      · intro k ok hk hki hku hno
        refine hfree k ok hk hki ?_ hno
        by_cases hjk : j = k
        · subst hjk; exact hjun
        · rw [Go.getD_set_ne true hjk] at hku; exact hku
      · rw [Array.setIfInBounds_comm _ _ hji]
        exact h3.2.2
theorem takeT {L tl : List Oper} {i : Nat} {oi : Oper} {v : Value} {fuel : Nat} {listed : Array Bool} {a : Act} {w : World} (hd : L.drop i = oi :: tl)
    (hs : Region.noSelect L.toArray = true) (hf : Region.free md L.toArray listed i = true) (hr : (Region.ready md L.toArray listed).contains i = true) (hT : waitsFor md L.toArray T i = true)
    (hQ : ∀ c a w, Q (.panic c) (a.put oi.dst v) w → Q (.panic c) a w) (hw : Region.wanted oi (yielded L.toArray a.tmps) = true) (hy : ∀ u, S u → (execOp a.eval oi).run P u = .ok (.value v) u) (hS : S w)
    (h : AnyT P md L.toArray Q S T fuel (listed.setIfInBounds i true) (a.put oi.dst v) w) : AnyT P md L.toArray Q S T (fuel + 1) listed a w :=
  AnyT.first (at_drop hd) (Region.noSelect_spec hs) hQ hT fuel listed a w (Region.free_spec (at_drop hd) hf) (by simpa using hr) (.inl ⟨hw, hy⟩) hS h
theorem takeT_one {L tl : List Oper} {i : Nat} {oi : Oper} {fuel : Nat} {listed : Array Bool} {a : Act} {w : World} (hd : L.drop i = oi :: tl)
    (hr : Region.ready md L.toArray listed = [i])
    (h : ∀ K' : Act → World → Prop, Shut (∀ a w, (i ≠ T → S w) → AnyT P md L.toArray Q S T fuel (listed.setIfInBounds i true) a w → K' a w) → if Region.wanted oi (yielded L.toArray a.tmps) = true then Oper.wp P oi a w K' Q else K' (a.put oi.dst undef) w) :
    AnyT P md L.toArray Q S T (fuel + 1) listed a w :=
  ⟨fun h0 => absurd (hr ▸ h0) (by simp), fun j hj => by
    rw [hr] at hj
    obtain rfl : j = i := by simpa using hj
    exact wpOp_step (at_drop hd) (fun K' hK => h K' (fun a w hS hW => hK a w ⟨hS, hW⟩))⟩
theorem takeT_done {listed : Array Bool} {a : Act} {w : World} (hr : Region.ready md ops listed = []) (h : Q .normal a w) : ∀ n, AnyT P md ops Q S T n listed a w
  | 0 => ⟨hr, h⟩
  | _ + 1 => ⟨fun _ => h, by rw [hr]; simp⟩
theorem wp_regionT {id : Nat} {a : Act} {w : World} (T : Nat) (S : World → Prop) (hm : P.follows .mixedOrders = true)
    (h : AnyT P .any ops Q S T ops.size (Array.replicate ops.size false) a w.drew) : (Code.region id ops true).wp P Q a w :=
  wp_region_any hm (AnyT.any _ _ _ _ h)
end Go.Proofs.YtokhibfenccijaaGreatDoor
namespace Go.Proofs.YtokhibfenccijaaGreatDoor
open Go.RowKit
def Closed (md : Region.Mode) (ops : Array Oper) (listed : Array Bool) : Prop :=
  ∀ k o, ops[k]? = some o → listed.getD k false = true → ∀ e ∈ o.after, Region.binds md e = true → listed.getD e.on false = true
def closedB (md : Region.Mode) (ops : Array Oper) (listed : Array Bool) : Bool :=
  (List.range ops.size).all fun k => !(listed.getD k false) || (match ops[k]? with | none => true | some o => o.after.all fun e => !(Region.binds md e) || listed.getD e.on false)
theorem closedB_spec {md : Region.Mode} {ops : Array Oper} {listed : Array Bool} (h : closedB md ops listed = true) : Closed md ops listed := by
  intro k o hk hl e he hb
  have hks : k < ops.size := (Array.getElem?_eq_some_iff.1 hk).1
  have := List.all_eq_true.1 h k (by simpa using hks)
  rw [hl, hk] at this
  simp only [Bool.not_true, Bool.false_or] at this
  have h2 := Array.all_eq_true_iff_forall_mem.1 this e he
  rw [hb] at h2
  simpa using h2
def waitsB (md : Region.Mode) (ops : Array Oper) (i : Nat) : Nat → Nat → Bool
  | 0, _ => false
  | f + 1, T => match ops[T]? with | none => false | some o => o.after.any fun e => Region.binds md e && (e.on == i || waitsB md ops i f e.on)
def Waits (md : Region.Mode) (ops : Array Oper) (i T : Nat) : Prop := ∃ f, waitsB md ops i f T = true
theorem waitsB_spec {md : Region.Mode} {ops : Array Oper} {i : Nat} (f T : Nat) (h : waitsB md ops i f T = true) : Waits md ops i T := ⟨f, h⟩
theorem waits_listed {md : Region.Mode} {ops : Array Oper} {i : Nat} {listed : Array Bool} (hc : Closed md ops listed) : ∀ (f T : Nat), waitsB md ops i f T = true →
    (∀ o, ops[T]? = some o → ∀ e ∈ o.after, Region.binds md e = true → listed.getD e.on false = true) → listed.getD i false = true
  | 0, _, h, _ => by cases h
  | f + 1, T, h, hp => by
    unfold waitsB at h
    cases ho : ops[T]? with
    | none => rw [ho] at h; cases h
    | some o =>
      rw [ho] at h
      simp only [Array.any_eq_true, Bool.and_eq_true, Bool.or_eq_true, beq_iff_eq] at h
      obtain ⟨q, hq, hb, h1 | h1⟩ := h
      · rw [← h1]; exact hp o ho _ (Array.getElem_mem hq) hb
      · exact waits_listed hc f _ h1 fun o' ho' e' he' hb' => hc _ o' ho' (hp o ho _ (Array.getElem_mem hq) hb) e' he' hb'
theorem Waits.listed {md : Region.Mode} {ops : Array Oper} {i T : Nat} {listed : Array Bool} (hc : Closed md ops listed) (h : Waits md ops i T)
    (hp : ∀ o, ops[T]? = some o → ∀ e ∈ o.after, Region.binds md e = true → listed.getD e.on false = true) : listed.getD i false = true :=
  let ⟨f, h⟩ := h; waits_listed hc f T h hp
theorem getD_set_mono {listed : Array Bool} (j k : Nat) (h : listed.getD k false = true) : (listed.setIfInBounds j true).getD k false = true := by
  by_cases e : j = k
  · subst e
    have hs : j < listed.size := by
      rcases Nat.lt_or_ge j listed.size with h' | h'
      · exact h'
      · simp [Array.getElem?_eq_none h'] at h
    simp [hs]
  · rw [Go.getD_set_ne false e]; exact h
theorem Closed.set {md : Region.Mode} {ops : Array Oper} {listed : Array Bool} (hc : Closed md ops listed) {j : Nat} (hj : j ∈ Region.ready md ops listed) : Closed md ops (listed.setIfInBounds j true) := by
  intro k o hk hl e he hb
  obtain ⟨_, oj, hoj, hall⟩ := mem_ready.1 hj
  by_cases ejk : j = k
  · subst ejk
    rw [hoj] at hk
    obtain rfl := Option.some.inj hk
    exact getD_set_mono j _ (hall e he hb)
  · rw [Go.getD_set_ne false ejk] at hl
    exact getD_set_mono j _ (hc k o hk hl e he hb)
variable {P : Program} {md : Region.Mode} {ops : Array Oper} {Q : Exit → Act → World → Prop} {S : World → Prop} {T : Nat}
theorem AnyT.firstU {i : Nat} {oi : Oper} {v : Value} (hi : ops[i]? = some oi) (hsel : ∀ (j : Nat) (o : Oper) cs b, ops[j]? = some o → o.op ≠ .select cs b)
    (hQ : ∀ c a w, Q (.panic c) (a.put oi.dst v) w → Q (.panic c) a w) (hT : Waits md ops i T) :
    ∀ (n : Nat) (listed : Array Bool) (a : Act) (w : World), Closed md ops listed →
      (∀ j oj, ops[j]? = some oj → j ≠ i → listed.getD j true = false → (∀ e ∈ oj.after, Region.binds md e = true → e.on ≠ i) → oi.apart ops oj = true) →
      i ∈ Region.ready md ops listed → YieldsIf P ops S oi v a → S w →
      AnyT P md ops Q S T n (listed.setIfInBounds i true) (a.put oi.dst v) w → AnyT P md ops Q S T (n + 1) listed a w := by
  intro n
  induction n with
  | zero =>
    intro listed a w _ _ hr hy hS H
    refine ⟨fun h => (by rw [h] at hr; cases hr), fun j hj => ?_⟩
    by_cases hji : j = i
    · subst hji
      exact hy.wpOp hi hS ⟨fun _ => hS, H⟩
    · have := ready_mono hj hji
      rw [H.1] at this
      cases this
  | succ n ih =>
    intro listed a w hC hfree hr hy hS H
    refine ⟨fun h => (by rw [h] at hr; cases hr), fun j hj => ?_⟩
    by_cases hji : j = i
    · subst hji
      exact hy.wpOp hi hS ⟨fun _ => hS, H⟩
    · have h1 := H.2 j (ready_mono hj hji)
      obtain ⟨hjun, oj, hoj, hall⟩ := mem_ready.1 hj
      have hun := (mem_ready.1 hr).1
      have hnl : listed.getD i false ≠ true := by
        intro hc
        rcases Nat.lt_or_ge i listed.size with h' | h'
        · simp [h'] at hun hc
          rw [hun] at hc
          cases hc
        · simp [Array.getElem?_eq_none h'] at hc
      have hnot : ∀ e ∈ oj.after, Region.binds md e = true → e.on ≠ i := fun e he hb heq => hnl (by have := hall e he hb; rwa [heq] at this)
      have hjT : j ≠ T := by
        intro e
        subst e
        exact hnl (hT.listed hC (fun o ho e he hb => by rw [hoj] at ho; obtain rfl := Option.some.inj ho; exact hall e he hb))
      have h2 := wpOp_putIf hoj (hfree j oj hoj hji hjun hnot) (fun cs b => hsel i oi cs b hi) (fun cs b => hsel j oj cs b hoj) hQ hy h1
      refine wpOp_mono (fun a' w' h3 => ⟨fun _ => h3.2.1 hjT, ih (listed.setIfInBounds j true) a' w' (hC.set hj) ?_ (ready_mono hr (Ne.symm hji)) h3.1 (h3.2.1 hjT) ?_⟩) h2
      · intro k ok hk hki hku hno
        refine hfree k ok hk hki ?_ hno
        by_cases hjk : j = k
        · subst hjk; exact hjun
        · rw [Go.getD_set_ne true hjk] at hku; exact hku
      · rw [Array.setIfInBounds_comm _ _ hji]
        exact h3.2.2
theorem takeU {L tl : List Oper} {i : Nat} {oi : Oper} {v : Value} {fuel : Nat} {listed : Array Bool} {a : Act} {w : World} (hd : L.drop i = oi :: tl)
    (hs : Region.noSelect L.toArray = true) (hf : Region.free md L.toArray listed i = true) (hr : (Region.ready md L.toArray listed).contains i = true) (hT : (waitsB md L.toArray i 40 T && closedB md L.toArray listed) = true)
    (hQ : ∀ c a w, Q (.panic c) (a.put oi.dst v) w → Q (.panic c) a w) (hw : Region.wanted oi (yielded L.toArray a.tmps) = true) (hy : ∀ u, S u → (execOp a.eval oi).run P u = .ok (.value v) u) (hS : S w)
    (h : AnyT P md L.toArray Q S T fuel (listed.setIfInBounds i true) (a.put oi.dst v) w) : AnyT P md L.toArray Q S T (fuel + 1) listed a w :=
  AnyT.firstU (at_drop hd) (Region.noSelect_spec hs) hQ (waitsB_spec 40 T (Bool.and_eq_true_iff.1 hT).1) fuel listed a w (closedB_spec (Bool.and_eq_true_iff.1 hT).2) (Region.free_spec (at_drop hd) hf) (by simpa using hr) (.inl ⟨hw, hy⟩) hS h
structure AnyP (plan : List Nat) (P : Program) (md : Region.Mode) (ops : Array Oper) (Q : Exit → Act → World → Prop) (S : World → Prop) (T n : Nat) (listed : Array Bool) (a : Act) (w : World) : Prop where
  out : AnyT P md ops Q S T n listed a w
theorem takeP {L tl : List Oper} {i : Nat} {plan : List Nat} {oi : Oper} {v : Value} {fuel : Nat} {listed : Array Bool} {a : Act} {w : World} (hS : S w) (hy : ∀ u, S u → (execOp a.eval oi).run P u = .ok (.value v) u)
    (h : AnyP plan P md L.toArray Q S T fuel (listed.setIfInBounds i true) (a.put oi.dst v) w) (hd : L.drop i = oi :: tl := by rfl) (hs : Region.noSelect L.toArray = true := by kernel_rfl) (hf : Region.free md L.toArray listed i = true := by kernel_rfl)
    (hr : (Region.ready md L.toArray listed).contains i = true := by kernel_rfl) (hT : (waitsFor md L.toArray T i || (waitsB md L.toArray i 40 T && closedB md L.toArray listed)) = true := by kernel_rfl) (hQ : ∀ c a w, Q (.panic c) (a.put oi.dst v) w → Q (.panic c) a w := by exact fun _ _ _ h => h)
    (hw : Region.wanted oi (yielded L.toArray a.tmps) = true := by rfl) : AnyP (i :: plan) P md L.toArray Q S T (fuel + 1) listed a w :=
  ⟨(Bool.or_eq_true_iff.1 hT).elim (fun hT => takeT hd hs hf hr hT hQ hw hy hS h.out) (fun hT => takeU hd hs hf hr hT hQ hw hy hS h.out)⟩
theorem takeP_end {n : Nat} {listed : Array Bool} {a : Act} {w : World} (h : AnyT P md ops Q S T n listed a w) : AnyP [] P md ops Q S T n listed a w := ⟨h⟩
theorem wp_regionP {id : Nat} {a : Act} {w : World} (T : Nat) (plan : List Nat) (S : World → Prop) (hm : P.follows .mixedOrders = true)
    (h : AnyP plan P .any ops Q S T ops.size (Array.replicate ops.size false) a w.drew) : (Code.region id ops true).wp P Q a w := wp_regionT T S hm h.out
end Go.Proofs.YtokhibfenccijaaGreatDoor
