/- DeskE, DeskF, DeskG -/
import Derived.Test.YtokhibfenccijaaGreatDoorKB15
import Derived.Test.YtokhibfenccijaaGreatDoorKB06
set_option maxRecDepth 100000
set_option maxHeartbeats 8000000
namespace Go.Proofs.YtokhibfenccijaaGreatDoor
open Go.RowKit Go.Maps
theorem opsD_snoc {q : List Fn} {k : Nat} {f : Fn} (h : q[k]? = some f) : opsD (q.take (k + 1)) = opsD (q.take k) + (f.code.length : Int) := by
  unfold opsD
  rw [List.take_add_one, h, List.map_append, List.sum_append]
  simp
theorem opsD_le (q : List Fn) (m : Nat) (h : ∀ f ∈ q, f.code.length ≤ m) : 0 ≤ opsD q ∧ opsD q ≤ (q.length * m : Nat) := by
  induction q with
  | nil => simp [opsD]
  | cons f q ih =>
    have h1 := ih (fun g hg => h g (by simp [hg]))
    have h2 := h f (by simp)
    have e : opsD (f :: q) = (f.code.length : Int) + opsD q := by simp [opsD]
    have e2 : (f :: q).length * m = q.length * m + m := by simp [Nat.succ_mul]
    rw [e, e2]
    omega
theorem dTrim (w : World) (D : Nat) (vp : Value) (s : St) (q : List Fn) (h : DkAt w D vp s) (hq : q.length ≤ 100 ∧ ∀ f ∈ q, f.code.length ≤ 1000) (ht : TabW w)
    (HA : Hid (∀ u, Kept w u → Calls Tryz.prog 141 #[vp] u fun e w' => ∃ oa n cap, e = .returned (.tuple #[.slice oa n cap, .int .i64 0]) ∧ ProgAt w' (.slice oa n cap) q ∧ Kept u w')) :
    GivesW D vp 105 #[.pointer (some ⟨D, 0, none⟩)] w s (numsD [opsD q]) := by
  unfold GivesW
  have HD := hide h
  obtain ⟨of, nf, cf, c, oo, no, co, c0, c1, c2, c3, hst, hl, -, -⟩ := h.cells
  have HC := hide ((unhide HA) w (Kept.refl w))
  have HT := hide ht
  have HQ := hide hq
  clear hst h hl ht hq HA
  go_enter Tryz.func105, Tryz.ntmps105
  go_wp2_with fail
  refine (unhide HC).mono ?_
  rintro _ w2 ⟨o2, n2, p2, rfl, h2, k2⟩
  obtain ⟨_, _, e2, hl2, hi2⟩ := id h2
  obtain ⟨rfl, rfl, rfl⟩ : o2 = _ ∧ n2 = q.length ∧ p2 = _ := by simpa using e2
  have HI := hide hi2
  have HK := hide k2
  clear c0 c1 c2 c3 HC h2 hi2 e2 k2
  generalize hN : q.length = n at *
  have HN := hide hN
  clear hN
  go_wp2_with fail
  refine (must_ok _).mono ?_
  rintro _ w3 ⟨rfl, rfl⟩
  go_wp2_with fail
  have H0 : Hid (Kept w3 w3) := hide (Kept.refl _)
  go_loopw [5, 20] (fun s5 s20 wr => ∃ k : Nat, k ≤ n ∧ s20 = .int .i64 (k : Int) ∧ s5 = .int .i64 (opsD (q.take k)) ∧ Hid (Kept w3 wr)) (fun _ s20 _ => n - (intOf s20).toNat)
  case atStart => exact ⟨0, Nat.zero_le _, rfl, rfl, H0⟩
  case round =>
    obtain ⟨k, hkn, rfl, rfl, HW⟩ := hrel
    clear H0
    have hb := opsD_le (q.take k) 1000 (fun f hf => (unhide HQ).2 f (List.mem_of_mem_take hf))
    have hb2 : (q.take k).length * 1000 ≤ 100 * 1000 := Nat.mul_le_mul_right _ (by have := (unhide HQ).1; simp; omega)
    have hb0 : 0 ≤ opsD (q.take k) := hb.1
    have hb1 : opsD (q.take k) ≤ 100000 := by omega
    clear hb hb2
    by_cases hk : k < n
    · obtain ⟨f, hf⟩ : ∃ f, q[k]? = some f := ⟨_, List.getElem?_eq_getElem (by rw [unhide HN]; exact hk)⟩
      obtain ⟨b, o, cv, rfl, x0, x1, x2, hc⟩ := (unhide HI) k f hf
      have hcl := (unhide HQ).2 f (List.mem_of_getElem? hf)
      obtain ⟨oc, cc, rfl, _⟩ := hc
      replace x0 := (unhide HW).cell x0
      replace x1 := (unhide HW).cell x1
      replace x2 := (unhide HW).cell x2
      have hk0 : (0 : Int) ≤ (k : Int) := by omega
      have hk1 : (k : Int) < (n : Int) := by omega
      have HOP := hide (opsD_snoc hf)
      generalize f.code.length = fc at *
      have hfc : (fc : Int) ≤ 1000 := by omega
      have hfc0 : (0 : Int) ≤ (fc : Int) := by omega
      generalize opsD (q.take k) = z at *
      clear hf
      have HNX : Hid (Kept w3 (wr.alloc (.cells #[.int .i64 f.args, .int .i64 f.locals, .slice oc fc cc] 69))) := hide ((unhide HW).alloc _)
      go_wp2_with fail
      go_roundw
      case rel => exact ⟨k + 1, by omega, by go_num, by rw [unhide HOP], HNX⟩
      case measure => simp [intOf]; omega
    · obtain rfl : k = n := by omega
      have hall : q.take k = q := List.take_of_length_le (by rw [unhide HN]; exact Nat.le_refl _)
      rw [hall] at hb0 hb1 ⊢
      have hkw := (unhide HK).trans (unhide HW)
      have HN1 := hide (numbers_one wr wr.heap.size rfl (opsD q) (by unfold I64; omega) ((unhide HT).kept hkw))
      have HKW := hide hkw
      clear hkw hall
      go_wp2_with fail
      refine (unhide HN1).mono ?_
      rintro _ w5 ⟨g, rfl, hr, k5⟩
      have HR := hide (hr.low (unhide HKW).size)
      have HK5 := hide ((unhide HKW).trans k5)
      clear hr k5 HN1
      go_wp2_with fail
      go_ret
      exact ⟨_, rfl, unhide HR, (unhide HD).kept (unhide HK5), .of (unhide HK5)⟩
theorem dKinds (w : World) (D : Nat) (vp : Value) (s : St) (kf : Nat → Int) (h : DkAt w D vp s) (hn : s.fibers.length ≤ 1000) (hz : ∀ k, I64 (kf k)) (ht : TabW w)
    (HKD : Hid (∀ u v k, Kept w u → StAt u v s → k < s.fibers.length → Calls Tryz.prog 140 #[vp, v, .int .i64 (k : Nat)] u fun e w' => e = .returned (.tuple #[.int .i64 (kf k), .int .i64 0]) ∧ Kept u w')) :
    GivesW D vp 104 #[.pointer (some ⟨D, 0, none⟩)] w s (numsD ((List.range s.fibers.length).map kf)) := by
  unfold GivesW
  have HD := hide h
  obtain ⟨of, nf, cf, c, oo, no, co, c0, c1, c2, c3, hst, hl, hnf, -⟩ := h.cells
  have hmk := fun u => make_intsT s.fibers.length (by omega) u
  subst hnf
  have HST := hide hst
  have HT := hide ht
  have HZ := hide hz
  clear hst h hl ht hz
  generalize hN : s.fibers.length = n at *
  have HN := hide hN
  clear hN
  go_enter Tryz.func104, Tryz.ntmps104
  go_wp2_with fail
  have H0 : Hid (Kept w (w.alloc (.cells (Array.replicate n (Value.int .i64 0)) 3)) ∧ ∃ cur, (w.alloc (.cells (Array.replicate n (Value.int .i64 0)) 3)).heap[w.heap.size]? = some (.cells cur 3) ∧ cur.size = n ∧ ∀ j, j < 0 → cur[j]? = some (.int .i64 (kf j))) := hide ⟨(Kept.refl w).alloc _, _, lays_new rfl, by simp, fun j hj => by omega⟩
  generalize hG : w.heap.size = G at *
  have HG := hide hG
  clear hmk hG
  go_loopw [16] (fun s16 wr => ∃ k : Nat, k ≤ n ∧ s16 = .int .i64 (k : Int) ∧ Hid (Kept w wr ∧ ∃ cur, wr.heap[G]? = some (.cells cur 3) ∧ cur.size = n ∧ ∀ j, j < k → cur[j]? = some (.int .i64 (kf j)))) (fun s16 _ => n - (intOf s16).toNat)
  case atStart => exact ⟨0, Nat.zero_le _, rfl, H0⟩
  case round =>
    obtain ⟨k, hkn, rfl, HW⟩ := hrel
    clear H0
    by_cases hk : k < n
    · have hk0 : (0 : Int) ≤ (k : Int) := by omega
      have hk1 : (k : Int) < (n : Int) := by omega
      obtain ⟨hkw, cur, hcur, hcs, hcj⟩ := unhide HW
      replace c0 := hkw.cell c0
      replace c1 := hkw.cell c1
      replace c2 := hkw.cell c2
      replace c3 := hkw.cell c3
      have HCUR := hide (And.intro hcs hcj)
      have HC := hide ((unhide HKD) wr.drew _ k (hkw.drew) ((unhide HST).x (.of (hkw.drew))).at hk)
      have HS0 : Hid (Kept w wr.drew ∧ wr.drew.heap[G]? = some (.cells cur 3)) := hide ⟨hkw.drew, hcur⟩
      have HKW := hide hkw
      clear hkw hcur hcs hcj HW
      go_wp2_with fail
      refine wp_region_held_drew (S := fun y => Kept wr y) (by kernel_rfl) ((Kept.refl wr).drew) (fun hHeld => ?_)
      refine planY [0, 1, 2, 3, 4, 5, 6, 7, 8] ?_
      repeat
        refine takeY (v := ?_) hHeld (fun u hSu => ?_) ?_
        rotate_left
        · (have y0 := hSu.cell c0; have y1 := hSu.cell c1; have y2 := hSu.cell c2; have y3 := hSu.cell c3; (try dsimp only at y0 y1 y2 y3); go_simp) <;> with_reducible rfl
        try simp only [Act.put, List.setIfInBounds_toArray, List.set_cons_zero, List.set_cons_succ]
      refine endY ?_
      refine take_one (i := 9) rfl (by kernel_rfl) (fun K hK => ?_)
      go_simp
      refine (unhide HC).mono ?_
      rintro _ w2 ⟨rfl, k2⟩
      have hS2 : Kept wr w2 := hHeld.trans k2
      have HK2 := hide hS2
      have HG2 := hide (lays_kept k2 (unhide HS0).2)
      clear k2 HC c0 c1 c2 c3
      refine hK.out _ _ hS2 (fun hHeld => ?_)
      clear hK K hS2
      try simp only [Act.put, List.setIfInBounds_toArray, List.set_cons_zero, List.set_cons_succ]
      refine planY [10, 11, 12, 13, 14] ?_
      repeat
        refine takeY (v := ?_) hHeld (fun u hSu => ?_) ?_
        rotate_left
        · go_simp <;> with_reducible rfl
        try simp only [Act.put, List.setIfInBounds_toArray, List.set_cons_zero, List.set_cons_succ]
      refine endY ?_
      refine wpAnyH_done (by kernel_rfl) ?_ _
      clear hHeld
      go_wp2_with fail
      refine (must_ok _).mono ?_
      rintro _ w3 ⟨rfl, rfl⟩
      have z0 := (cell_lays (unhide HG2) k).trans (Array.getElem?_eq_getElem (by rw [(unhide HCUR).1]; exact hk))
      have f0 := frozen_lays (unhide HG2) k
      have HNX : Hid (Kept w (w3.setCell ⟨G, k, none⟩ (.int .i64 (kf k))) ∧ ∃ cur, (w3.setCell ⟨G, k, none⟩ (.int .i64 (kf k))).heap[G]? = some (.cells cur 3) ∧ cur.size = n ∧ ∀ j, j < k + 1 → cur[j]? = some (.int .i64 (kf j))) := hide (by
        refine ⟨((unhide HKW).trans (unhide HK2)).setCell (p := ⟨G, k, none⟩) (by rw [unhide HG]; exact Nat.le_refl _) _, _, lays_set (unhide HG2) k _, by simpa using (unhide HCUR).1, fun j hj => ?_⟩
        rw [Array.getElem?_setIfInBounds]
        by_cases hjk : k = j
        · subst hjk
          simp [(unhide HCUR).1, hk]
        · rw [if_neg hjk]
          exact (unhide HCUR).2 j (by omega))
      go_wp2_with fail
      go_roundw
      case rel => exact ⟨k + 1, by omega, by go_num, HNX⟩
      case measure => simp [intOf]; omega
    · obtain rfl : k = n := by omega
      obtain ⟨hkw, cur, hcur, hcs, hcj⟩ := unhide HW
      have HN1 := hide (numbers_row wr (.slice (some ⟨G, 0, none⟩) k k) ((List.range k).map kf) ⟨some ⟨G, 0, none⟩, k, by simp, by simp; omega, fun i z hz => by
        have hi : i < k := by have := (List.getElem?_eq_some_iff.1 hz).1; simpa using this
        refine ⟨G, 0, rfl, ?_⟩
        rw [cell_lays hcur, Nat.zero_add, hcj i hi]
        simp [List.getElem?_map, List.getElem?_range hi] at hz
        rw [hz]⟩ (by simp; omega) (fun z hz => by
        obtain ⟨j, _, rfl⟩ := List.mem_map.1 hz
        exact (unhide HZ) j) ((unhide HT).kept hkw))
      have HKW := hide hkw
      clear hkw hcur hcs hcj HW
      rw [show ((List.range k).map kf).length = k by simp] at HN1
      go_wp2_with fail
      refine (unhide HN1).mono ?_
      rintro _ w5 ⟨g, rfl, hr, k5⟩
      have HR := hide (hr.low (unhide HKW).size)
      have HK5 := hide ((unhide HKW).trans k5)
      clear hr k5 HN1
      go_wp2_with fail
      go_ret
      exact ⟨_, rfl, unhide HR, (unhide HD).kept (unhide HK5), .of (unhide HK5)⟩
theorem zeroF0 (w : World) : (zeroValue 47).run Tryz.prog w = .ok .nilFunc w := by kernel_rfl
theorem zeroF1 (w : World) : (zeroValue 123).run Tryz.prog w = .ok .nilFunc w := by kernel_rfl
theorem key_str (a : List UInt8) : WideAt.IsKeyLit (Lit.string a) := trivial
theorem key_ns {a b : List UInt8} (h : a ≠ b) : Lit.string a ≠ Lit.string b := fun e => h (by simpa using e)
theorem isMap0 : IsMap (DataW.map [] : DataW Value) := tidy_empty.isMap
theorem tab_look {t e : TypeId} (ht : Tryz.prog.underlying t = some (.map 9 e)) {w : World} (hz : (zeroValue e).run Tryz.prog w = .ok .nilFunc w) {b n : Nat} {M : DataW Value} (h : w.ownsMap Tryz.prog 9 rdF b n M) (a : List UInt8) (ha : a.length ≤ 100000) {v : Value} {ok : Bool} (hv : M.atKey (.string a) (.held .nilFunc) = .held v) (ho : has M (.string a) = ok) :
    (Instr.lookup t (.map (some b)) (.string ⟨a.toArray⟩) true).run Tryz.prog w = .ok (.tuple #[v, .bool ok]) w := by
  obtain ⟨v', ps, hrun, hr⟩ := h.look_ok (key := .string ⟨a.toArray⟩) (kl := .string a) lawStr ht hz (zd := .held .nilFunc) (zp := []) rfl (by
    have := Go.WideMaps.keyOf_string_mk Tryz.underlying9 (s := ⟨a.toArray⟩) (by simp [ByteArray.size, maxLen]; omega)
    simpa using this)
  unfold rdF at hr
  simp only [Option.some.injEq, Prod.mk.injEq] at hr
  rw [hv] at hr
  obtain rfl : v' = v := by simpa using hr.1
  rw [ho] at hrun
  exact hrun
theorem alone_at (D : Nat) (a : List UInt8) : ((aloneM D).atKey (.string a) (.held .nilFunc) = .held (if a = [111, 117, 116] then mvD 102 D else if a = [108, 105, 110, 101] then mvD 103 D else if a = [107, 105, 110, 100, 115] then mvD 104 D else if a = [116, 114, 105, 109] then mvD 105 D else if a = [97, 103, 97, 105, 110] then mvD 15 D else .nilFunc)) ∧ has (aloneM D) (.string a) = decide (a = [111, 117, 116] ∨ a = [108, 105, 110, 101] ∨ a = [107, 105, 110, 100, 115] ∨ a = [116, 114, 105, 109] ∨ a = [97, 103, 97, 105, 110]) := by
  unfold aloneM
  by_cases h5 : a = [97, 103, 97, 105, 110]
  · subst h5
    exact ⟨by rw [atKey_put_same ((((isMap0.put _ _).put _ _).put _ _).put _ _) (key_str _)]; rfl, by rw [has_put_same ((((isMap0.put _ _).put _ _).put _ _).put _ _) (key_str _)]; rfl⟩
  · rw [atKey_put_other (key_ns h5), has_put_other (key_ns h5)]
    by_cases h4 : a = [116, 114, 105, 109]
    · subst h4
      exact ⟨by rw [atKey_put_same (((isMap0.put _ _).put _ _).put _ _) (key_str _)]; rfl, by rw [has_put_same (((isMap0.put _ _).put _ _).put _ _) (key_str _)]; rfl⟩
    · rw [atKey_put_other (key_ns h4), has_put_other (key_ns h4)]
      by_cases h3 : a = [107, 105, 110, 100, 115]
      · subst h3
        exact ⟨by rw [atKey_put_same ((isMap0.put _ _).put _ _) (key_str _)]; rfl, by rw [has_put_same ((isMap0.put _ _).put _ _) (key_str _)]; rfl⟩
      · rw [atKey_put_other (key_ns h3), has_put_other (key_ns h3)]
        by_cases h2 : a = [108, 105, 110, 101]
        · subst h2
          exact ⟨by rw [atKey_put_same (isMap0.put _ _) (key_str _)]; rfl, by rw [has_put_same (isMap0.put _ _) (key_str _)]; rfl⟩
        · rw [atKey_put_other (key_ns h2), has_put_other (key_ns h2)]
          by_cases h1 : a = [111, 117, 116]
          · subst h1
            exact ⟨by rw [atKey_put_same isMap0 (key_str _)]; rfl, by rw [has_put_same isMap0 (key_str _)]; rfl⟩
          · rw [atKey_put_other (key_ns h1), has_put_other (key_ns h1), if_neg h1, if_neg h2, if_neg h3, if_neg h4, if_neg h5]
            refine ⟨rfl, ?_⟩
            simp [h1, h2, h3, h4, h5, Maps.has]
theorem with_at (D : Nat) (a : List UInt8) : ((withM D).atKey (.string a) (.held .nilFunc) = .held (if a = [115, 116, 101, 112] then mvD 107 D else if a = [104, 101, 105, 103, 104, 116, 115] then mvD 108 D else .nilFunc)) ∧ has (withM D) (.string a) = decide (a = [115, 116, 101, 112] ∨ a = [104, 101, 105, 103, 104, 116, 115]) := by
  unfold withM
  by_cases h2 : a = [104, 101, 105, 103, 104, 116, 115]
  · subst h2
    exact ⟨by rw [atKey_put_same (isMap0.put _ _) (key_str _)]; rfl, by rw [has_put_same (isMap0.put _ _) (key_str _)]; rfl⟩
  · rw [atKey_put_other (key_ns h2), has_put_other (key_ns h2)]
    by_cases h1 : a = [115, 116, 101, 112]
    · subst h1
      exact ⟨by rw [atKey_put_same isMap0 (key_str _)]; rfl, by rw [has_put_same isMap0 (key_str _)]; rfl⟩
    · rw [atKey_put_other (key_ns h1), has_put_other (key_ns h1), if_neg h1, if_neg h2]
      refine ⟨rfl, ?_⟩
      simp [h1, h2, Maps.has]
def DoP2 (D : Nat) (vp : Value) (s : St) (r : (St × List (List UInt8)) ⊕ Int) (u : World) (e : Ending) (w' : World) : Prop := match r with
  | .inl x => ∃ v, e = .returned v ∧ RowS u.heap.size w' v x.2 ∧ DkAt w' D vp x.1 ∧ KeptX D u w'
  | .inr z => e = leftD z ∧ DkAt w' D vp s ∧ KeptX D u w'
theorem DoP2.from {D : Nat} {vp : Value} {s : St} {r : (St × List (List UInt8)) ⊕ Int} {u u2 w' : World} {e : Ending} (h : DoP2 D vp s r u2 e w') (k : Kept u u2) : DoP2 D vp s r u e w' := by
  cases r with
  | inl x =>
    obtain ⟨v, h1, h2, h3, h4⟩ := h
    exact ⟨v, h1, h2.low k.size, h3, (KeptX.of k).trans h4⟩
  | inr z =>
    obtain ⟨h1, h3, h4⟩ := h
    exact ⟨h1, h3, (KeptX.of k).trans h4⟩
structure PartsD (w : World) (D : Nat) (vp : Value) (s : St) (O : OpsD) : Prop where
  out : ∀ u, Kept w u → Calls Tryz.prog 102 #[.pointer (some ⟨D, 0, none⟩)] u (DoP2 D vp s (.inl (s, numsD s.out)) u)
  line : ∀ u, Kept w u → Calls Tryz.prog 103 #[.pointer (some ⟨D, 0, none⟩)] u (DoP2 D vp s (.inl (s, numsD (O.line s))) u)
  kinds : ∀ u, Kept w u → Calls Tryz.prog 104 #[.pointer (some ⟨D, 0, none⟩)] u (DoP2 D vp s (.inl (s, numsD ((List.range s.fibers.length).map fun k => O.kind s k))) u)
  trim : ∀ u, Kept w u → Calls Tryz.prog 105 #[.pointer (some ⟨D, 0, none⟩)] u (DoP2 D vp s (.inl (s, numsD [opsD O.trim])) u)
  again : ∀ u, Kept w u → Calls Tryz.prog 15 #[.pointer (some ⟨D, 0, none⟩)] u (DoP2 D vp s (.inl (O.beg, [[111, 107]])) u)
  step : ∀ u n, Kept w u → Calls Tryz.prog 107 #[.pointer (some ⟨D, 0, none⟩), .int .i64 n] u (DoP2 D vp s (withD O s [115, 116, 101, 112] n) u)
  hgt : ∀ u n, Kept w u → Calls Tryz.prog 108 #[.pointer (some ⟨D, 0, none⟩), .int .i64 n] u (DoP2 D vp s (withD O s [104, 101, 105, 103, 104, 116, 115] n) u)
  dk : DkAt w D vp s
  tab : TabW w
  errs : ErrsAt w
theorem dDo_out (w : World) (D : Nat) (vp : Value) (s : St) (r : (St × List (List UInt8)) ⊕ Int) (b o cap : Nat) (a : List UInt8) (hc : w.cell? ⟨b, o, none⟩ = some (.string ⟨a.toArray⟩)) (ha : a.length ≤ 100000)
    (hv : (aloneM D).atKey (.string a) (.held .nilFunc) = .held (mvD 102 D)) (ho : has (aloneM D) (.string a) = true)
    (HF : Hid (∀ u, Kept w u → Calls Tryz.prog 102 #[.pointer (some ⟨D, 0, none⟩)] u (DoP2 D vp s r u))) :
    Calls Tryz.prog 42 #[.pointer (some ⟨D, 0, none⟩), .slice (some ⟨b, o, none⟩) 1 cap] w (DoP2 D vp s r w) := by
  have HA := hide (dAlone w.drew D)
  have HLK : Hid (∀ (u : World) (g : Nat), u.ownsMap Tryz.prog 9 rdF g 5 (aloneM D) → (Instr.lookup 119 (.map (some g)) (.string ⟨a.toArray⟩) true).run Tryz.prog u = .ok (.tuple #[mvD 102 D, .bool true]) u) := hide fun u g hu => tab_look Tryz.underlying119 (zeroF0 u) hu a ha hv ho
  generalize (ByteArray.mk a.toArray) = W at *
  clear ha hv ho
  go_enter Tryz.func42, Tryz.ntmps42
  go_wp2_with fail
  refine wp_region_held_drew (S := fun y => Kept w y) (by kernel_rfl) ((Kept.refl w).drew) (fun hHeld => ?_)
  refine planY [0, 2, 3, 4] ?_
  repeat
    refine takeY (v := ?_) hHeld (fun u hSu => ?_) ?_
    rotate_left
    · (have y0 := hSu.cell hc; (try dsimp only at y0); go_simp) <;> with_reducible rfl
    try simp only [Act.put, List.setIfInBounds_toArray, List.set_cons_zero, List.set_cons_succ]
  refine endY ?_
  refine take_one (i := 1) rfl (by kernel_rfl) (fun K hK => ?_)
  go_simp
  refine (unhide HA).mono ?_
  rintro _ w2 ⟨rfl, hm, k2⟩
  have hS2 : Kept w w2 := hHeld.trans k2
  have HK2 := hide hS2
  have hlk := (unhide HLK) w2 w.heap.size hm
  dsimp only [mvD] at hlk
  clear k2 HA hc HLK hm
  refine hK.out _ _ hS2 (fun hHeld => ?_)
  clear hK K hS2
  try simp only [Act.put, List.setIfInBounds_toArray, List.set_cons_zero, List.set_cons_succ]
  refine take_one (i := 5) rfl (by kernel_rfl) (fun K hK => ?_)
  go_simp
  refine hK.out _ _ hHeld (fun hHeld => ?_)
  clear hK K hlk
  try simp only [Act.put, List.setIfInBounds_toArray, List.set_cons_zero, List.set_cons_succ]
  refine planY [6, 7, 8, 9, 10] ?_
  repeat
    refine takeY (v := ?_) hHeld (fun u hSu => ?_) ?_
    rotate_left
    · go_simp <;> with_reducible rfl
    try simp only [Act.put, List.setIfInBounds_toArray, List.set_cons_zero, List.set_cons_succ]
  refine endY ?_
  refine wpAnyH_done (by kernel_rfl) ?_ _
  clear hHeld
  go_wp2_with fail
  refine ((unhide HF) _ (unhide HK2)).mono ?_
  rintro e w3 hpost
  replace hpost := hpost.from (unhide HK2)
  cases r with
  | inl x =>
    obtain ⟨v, rfl, h2, h3, h4⟩ := hpost
    have HE := hide (And.intro h2 (And.intro h3 h4))
    clear h2 h3 h4 HF HK2
    go_wp2_with fail
    go_ret
    exact ⟨_, rfl, unhide HE⟩
  | inr z =>
    obtain ⟨rfl, h3, h4⟩ := hpost
    exact ⟨rfl, rfl, h3, h4⟩
theorem dDo_line (w : World) (D : Nat) (vp : Value) (s : St) (r : (St × List (List UInt8)) ⊕ Int) (b o cap : Nat) (a : List UInt8) (hc : w.cell? ⟨b, o, none⟩ = some (.string ⟨a.toArray⟩)) (ha : a.length ≤ 100000)
    (hv : (aloneM D).atKey (.string a) (.held .nilFunc) = .held (mvD 103 D)) (ho : has (aloneM D) (.string a) = true)
    (HF : Hid (∀ u, Kept w u → Calls Tryz.prog 103 #[.pointer (some ⟨D, 0, none⟩)] u (DoP2 D vp s r u))) :
    Calls Tryz.prog 42 #[.pointer (some ⟨D, 0, none⟩), .slice (some ⟨b, o, none⟩) 1 cap] w (DoP2 D vp s r w) := by
  have HA := hide (dAlone w.drew D)
  have HLK : Hid (∀ (u : World) (g : Nat), u.ownsMap Tryz.prog 9 rdF g 5 (aloneM D) → (Instr.lookup 119 (.map (some g)) (.string ⟨a.toArray⟩) true).run Tryz.prog u = .ok (.tuple #[mvD 103 D, .bool true]) u) := hide fun u g hu => tab_look Tryz.underlying119 (zeroF0 u) hu a ha hv ho
  generalize (ByteArray.mk a.toArray) = W at *
  clear ha hv ho
  go_enter Tryz.func42, Tryz.ntmps42
  go_wp2_with fail
  refine wp_region_held_drew (S := fun y => Kept w y) (by kernel_rfl) ((Kept.refl w).drew) (fun hHeld => ?_)
  refine planY [0, 2, 3, 4] ?_
  repeat
    refine takeY (v := ?_) hHeld (fun u hSu => ?_) ?_
    rotate_left
    · (have y0 := hSu.cell hc; (try dsimp only at y0); go_simp) <;> with_reducible rfl
    try simp only [Act.put, List.setIfInBounds_toArray, List.set_cons_zero, List.set_cons_succ]
  refine endY ?_
  refine take_one (i := 1) rfl (by kernel_rfl) (fun K hK => ?_)
  go_simp
  refine (unhide HA).mono ?_
  rintro _ w2 ⟨rfl, hm, k2⟩
  have hS2 : Kept w w2 := hHeld.trans k2
  have HK2 := hide hS2
  have hlk := (unhide HLK) w2 w.heap.size hm
  dsimp only [mvD] at hlk
  clear k2 HA hc HLK hm
  refine hK.out _ _ hS2 (fun hHeld => ?_)
  clear hK K hS2
  try simp only [Act.put, List.setIfInBounds_toArray, List.set_cons_zero, List.set_cons_succ]
  refine take_one (i := 5) rfl (by kernel_rfl) (fun K hK => ?_)
  go_simp
  refine hK.out _ _ hHeld (fun hHeld => ?_)
  clear hK K hlk
  try simp only [Act.put, List.setIfInBounds_toArray, List.set_cons_zero, List.set_cons_succ]
  refine planY [6, 7, 8, 9, 10] ?_
  repeat
    refine takeY (v := ?_) hHeld (fun u hSu => ?_) ?_
    rotate_left
    · go_simp <;> with_reducible rfl
    try simp only [Act.put, List.setIfInBounds_toArray, List.set_cons_zero, List.set_cons_succ]
  refine endY ?_
  refine wpAnyH_done (by kernel_rfl) ?_ _
  clear hHeld
  go_wp2_with fail
  refine ((unhide HF) _ (unhide HK2)).mono ?_
  rintro e w3 hpost
  replace hpost := hpost.from (unhide HK2)
  cases r with
  | inl x =>
    obtain ⟨v, rfl, h2, h3, h4⟩ := hpost
    have HE := hide (And.intro h2 (And.intro h3 h4))
    clear h2 h3 h4 HF HK2
    go_wp2_with fail
    go_ret
    exact ⟨_, rfl, unhide HE⟩
  | inr z =>
    obtain ⟨rfl, h3, h4⟩ := hpost
    exact ⟨rfl, rfl, h3, h4⟩
theorem dDo_kinds (w : World) (D : Nat) (vp : Value) (s : St) (r : (St × List (List UInt8)) ⊕ Int) (b o cap : Nat) (a : List UInt8) (hc : w.cell? ⟨b, o, none⟩ = some (.string ⟨a.toArray⟩)) (ha : a.length ≤ 100000)
    (hv : (aloneM D).atKey (.string a) (.held .nilFunc) = .held (mvD 104 D)) (ho : has (aloneM D) (.string a) = true)
    (HF : Hid (∀ u, Kept w u → Calls Tryz.prog 104 #[.pointer (some ⟨D, 0, none⟩)] u (DoP2 D vp s r u))) :
    Calls Tryz.prog 42 #[.pointer (some ⟨D, 0, none⟩), .slice (some ⟨b, o, none⟩) 1 cap] w (DoP2 D vp s r w) := by
  have HA := hide (dAlone w.drew D)
  have HLK : Hid (∀ (u : World) (g : Nat), u.ownsMap Tryz.prog 9 rdF g 5 (aloneM D) → (Instr.lookup 119 (.map (some g)) (.string ⟨a.toArray⟩) true).run Tryz.prog u = .ok (.tuple #[mvD 104 D, .bool true]) u) := hide fun u g hu => tab_look Tryz.underlying119 (zeroF0 u) hu a ha hv ho
  generalize (ByteArray.mk a.toArray) = W at *
  clear ha hv ho
  go_enter Tryz.func42, Tryz.ntmps42
  go_wp2_with fail
  refine wp_region_held_drew (S := fun y => Kept w y) (by kernel_rfl) ((Kept.refl w).drew) (fun hHeld => ?_)
  refine planY [0, 2, 3, 4] ?_
  repeat
    refine takeY (v := ?_) hHeld (fun u hSu => ?_) ?_
    rotate_left
    · (have y0 := hSu.cell hc; (try dsimp only at y0); go_simp) <;> with_reducible rfl
    try simp only [Act.put, List.setIfInBounds_toArray, List.set_cons_zero, List.set_cons_succ]
  refine endY ?_
  refine take_one (i := 1) rfl (by kernel_rfl) (fun K hK => ?_)
  go_simp
  refine (unhide HA).mono ?_
  rintro _ w2 ⟨rfl, hm, k2⟩
  have hS2 : Kept w w2 := hHeld.trans k2
  have HK2 := hide hS2
  have hlk := (unhide HLK) w2 w.heap.size hm
  dsimp only [mvD] at hlk
  clear k2 HA hc HLK hm
  refine hK.out _ _ hS2 (fun hHeld => ?_)
  clear hK K hS2
  try simp only [Act.put, List.setIfInBounds_toArray, List.set_cons_zero, List.set_cons_succ]
  refine take_one (i := 5) rfl (by kernel_rfl) (fun K hK => ?_)
  go_simp
  refine hK.out _ _ hHeld (fun hHeld => ?_)
  clear hK K hlk
  try simp only [Act.put, List.setIfInBounds_toArray, List.set_cons_zero, List.set_cons_succ]
  refine planY [6, 7, 8, 9, 10] ?_
  repeat
    refine takeY (v := ?_) hHeld (fun u hSu => ?_) ?_
    rotate_left
    · go_simp <;> with_reducible rfl
    try simp only [Act.put, List.setIfInBounds_toArray, List.set_cons_zero, List.set_cons_succ]
  refine endY ?_
  refine wpAnyH_done (by kernel_rfl) ?_ _
  clear hHeld
  go_wp2_with fail
  refine ((unhide HF) _ (unhide HK2)).mono ?_
  rintro e w3 hpost
  replace hpost := hpost.from (unhide HK2)
  cases r with
  | inl x =>
    obtain ⟨v, rfl, h2, h3, h4⟩ := hpost
    have HE := hide (And.intro h2 (And.intro h3 h4))
    clear h2 h3 h4 HF HK2
    go_wp2_with fail
    go_ret
    exact ⟨_, rfl, unhide HE⟩
  | inr z =>
    obtain ⟨rfl, h3, h4⟩ := hpost
    exact ⟨rfl, rfl, h3, h4⟩
theorem dDo_trim (w : World) (D : Nat) (vp : Value) (s : St) (r : (St × List (List UInt8)) ⊕ Int) (b o cap : Nat) (a : List UInt8) (hc : w.cell? ⟨b, o, none⟩ = some (.string ⟨a.toArray⟩)) (ha : a.length ≤ 100000)
    (hv : (aloneM D).atKey (.string a) (.held .nilFunc) = .held (mvD 105 D)) (ho : has (aloneM D) (.string a) = true)
    (HF : Hid (∀ u, Kept w u → Calls Tryz.prog 105 #[.pointer (some ⟨D, 0, none⟩)] u (DoP2 D vp s r u))) :
    Calls Tryz.prog 42 #[.pointer (some ⟨D, 0, none⟩), .slice (some ⟨b, o, none⟩) 1 cap] w (DoP2 D vp s r w) := by
  have HA := hide (dAlone w.drew D)
  have HLK : Hid (∀ (u : World) (g : Nat), u.ownsMap Tryz.prog 9 rdF g 5 (aloneM D) → (Instr.lookup 119 (.map (some g)) (.string ⟨a.toArray⟩) true).run Tryz.prog u = .ok (.tuple #[mvD 105 D, .bool true]) u) := hide fun u g hu => tab_look Tryz.underlying119 (zeroF0 u) hu a ha hv ho
  generalize (ByteArray.mk a.toArray) = W at *
  clear ha hv ho
  go_enter Tryz.func42, Tryz.ntmps42
  go_wp2_with fail
  refine wp_region_held_drew (S := fun y => Kept w y) (by kernel_rfl) ((Kept.refl w).drew) (fun hHeld => ?_)
  refine planY [0, 2, 3, 4] ?_
  repeat
    refine takeY (v := ?_) hHeld (fun u hSu => ?_) ?_
    rotate_left
    · (have y0 := hSu.cell hc; (try dsimp only at y0); go_simp) <;> with_reducible rfl
    try simp only [Act.put, List.setIfInBounds_toArray, List.set_cons_zero, List.set_cons_succ]
  refine endY ?_
  refine take_one (i := 1) rfl (by kernel_rfl) (fun K hK => ?_)
  go_simp
  refine (unhide HA).mono ?_
  rintro _ w2 ⟨rfl, hm, k2⟩
  have hS2 : Kept w w2 := hHeld.trans k2
  have HK2 := hide hS2
  have hlk := (unhide HLK) w2 w.heap.size hm
  dsimp only [mvD] at hlk
  clear k2 HA hc HLK hm
  refine hK.out _ _ hS2 (fun hHeld => ?_)
  clear hK K hS2
  try simp only [Act.put, List.setIfInBounds_toArray, List.set_cons_zero, List.set_cons_succ]
  refine take_one (i := 5) rfl (by kernel_rfl) (fun K hK => ?_)
  go_simp
  refine hK.out _ _ hHeld (fun hHeld => ?_)
  clear hK K hlk
  try simp only [Act.put, List.setIfInBounds_toArray, List.set_cons_zero, List.set_cons_succ]
  refine planY [6, 7, 8, 9, 10] ?_
  repeat
    refine takeY (v := ?_) hHeld (fun u hSu => ?_) ?_
    rotate_left
    · go_simp <;> with_reducible rfl
    try simp only [Act.put, List.setIfInBounds_toArray, List.set_cons_zero, List.set_cons_succ]
  refine endY ?_
  refine wpAnyH_done (by kernel_rfl) ?_ _
  clear hHeld
  go_wp2_with fail
  refine ((unhide HF) _ (unhide HK2)).mono ?_
  rintro e w3 hpost
  replace hpost := hpost.from (unhide HK2)
  cases r with
  | inl x =>
    obtain ⟨v, rfl, h2, h3, h4⟩ := hpost
    have HE := hide (And.intro h2 (And.intro h3 h4))
    clear h2 h3 h4 HF HK2
    go_wp2_with fail
    go_ret
    exact ⟨_, rfl, unhide HE⟩
  | inr z =>
    obtain ⟨rfl, h3, h4⟩ := hpost
    exact ⟨rfl, rfl, h3, h4⟩
theorem dDo_again (w : World) (D : Nat) (vp : Value) (s : St) (r : (St × List (List UInt8)) ⊕ Int) (b o cap : Nat) (a : List UInt8) (hc : w.cell? ⟨b, o, none⟩ = some (.string ⟨a.toArray⟩)) (ha : a.length ≤ 100000)
    (hv : (aloneM D).atKey (.string a) (.held .nilFunc) = .held (mvD 15 D)) (ho : has (aloneM D) (.string a) = true)
    (HF : Hid (∀ u, Kept w u → Calls Tryz.prog 15 #[.pointer (some ⟨D, 0, none⟩)] u (DoP2 D vp s r u))) :
    Calls Tryz.prog 42 #[.pointer (some ⟨D, 0, none⟩), .slice (some ⟨b, o, none⟩) 1 cap] w (DoP2 D vp s r w) := by
  have HA := hide (dAlone w.drew D)
  have HLK : Hid (∀ (u : World) (g : Nat), u.ownsMap Tryz.prog 9 rdF g 5 (aloneM D) → (Instr.lookup 119 (.map (some g)) (.string ⟨a.toArray⟩) true).run Tryz.prog u = .ok (.tuple #[mvD 15 D, .bool true]) u) := hide fun u g hu => tab_look Tryz.underlying119 (zeroF0 u) hu a ha hv ho
  generalize (ByteArray.mk a.toArray) = W at *
  clear ha hv ho
  go_enter Tryz.func42, Tryz.ntmps42
  go_wp2_with fail
  refine wp_region_held_drew (S := fun y => Kept w y) (by kernel_rfl) ((Kept.refl w).drew) (fun hHeld => ?_)
  refine planY [0, 2, 3, 4] ?_
  repeat
    refine takeY (v := ?_) hHeld (fun u hSu => ?_) ?_
    rotate_left
    · (have y0 := hSu.cell hc; (try dsimp only at y0); go_simp) <;> with_reducible rfl
    try simp only [Act.put, List.setIfInBounds_toArray, List.set_cons_zero, List.set_cons_succ]
  refine endY ?_
  refine take_one (i := 1) rfl (by kernel_rfl) (fun K hK => ?_)
  go_simp
  refine (unhide HA).mono ?_
  rintro _ w2 ⟨rfl, hm, k2⟩
  have hS2 : Kept w w2 := hHeld.trans k2
  have HK2 := hide hS2
  have hlk := (unhide HLK) w2 w.heap.size hm
  dsimp only [mvD] at hlk
  clear k2 HA hc HLK hm
  refine hK.out _ _ hS2 (fun hHeld => ?_)
  clear hK K hS2
  try simp only [Act.put, List.setIfInBounds_toArray, List.set_cons_zero, List.set_cons_succ]
  refine take_one (i := 5) rfl (by kernel_rfl) (fun K hK => ?_)
  go_simp
  refine hK.out _ _ hHeld (fun hHeld => ?_)
  clear hK K hlk
  try simp only [Act.put, List.setIfInBounds_toArray, List.set_cons_zero, List.set_cons_succ]
  refine planY [6, 7, 8, 9, 10] ?_
  repeat
    refine takeY (v := ?_) hHeld (fun u hSu => ?_) ?_
    rotate_left
    · go_simp <;> with_reducible rfl
    try simp only [Act.put, List.setIfInBounds_toArray, List.set_cons_zero, List.set_cons_succ]
  refine endY ?_
  refine wpAnyH_done (by kernel_rfl) ?_ _
  clear hHeld
  go_wp2_with fail
  refine ((unhide HF) _ (unhide HK2)).mono ?_
  rintro e w3 hpost
  replace hpost := hpost.from (unhide HK2)
  cases r with
  | inl x =>
    obtain ⟨v, rfl, h2, h3, h4⟩ := hpost
    have HE := hide (And.intro h2 (And.intro h3 h4))
    clear h2 h3 h4 HF HK2
    go_wp2_with fail
    go_ret
    exact ⟨_, rfl, unhide HE⟩
  | inr z =>
    obtain ⟨rfl, h3, h4⟩ := hpost
    exact ⟨rfl, rfl, h3, h4⟩
theorem dDo_miss (w : World) (D : Nat) (vp : Value) (s : St) (b o cap : Nat) (a : List UInt8) (hc : w.cell? ⟨b, o, none⟩ = some (.string ⟨a.toArray⟩)) (ha : a.length ≤ 100000)
    (hv : (aloneM D).atKey (.string a) (.held .nilFunc) = .held .nilFunc) (ho : has (aloneM D) (.string a) = false)
    (HD : Hid (DkAt w D vp s)) :
    Calls Tryz.prog 42 #[.pointer (some ⟨D, 0, none⟩), .slice (some ⟨b, o, none⟩) 1 cap] w (DoP2 D vp s (.inr 1) w) := by
  have HA := hide (dAlone w.drew D)
  have HLK : Hid (∀ (u : World) (g : Nat), u.ownsMap Tryz.prog 9 rdF g 5 (aloneM D) → (Instr.lookup 119 (.map (some g)) (.string ⟨a.toArray⟩) true).run Tryz.prog u = .ok (.tuple #[.nilFunc, .bool false]) u) := hide fun u g hu => tab_look Tryz.underlying119 (zeroF0 u) hu a ha hv ho
  generalize (ByteArray.mk a.toArray) = W at *
  clear ha hv ho
  go_enter Tryz.func42, Tryz.ntmps42
  go_wp2_with fail
  refine wp_region_held_drew (S := fun y => Kept w y) (by kernel_rfl) ((Kept.refl w).drew) (fun hHeld => ?_)
  refine planY [0, 2, 3, 4] ?_
  repeat
    refine takeY (v := ?_) hHeld (fun u hSu => ?_) ?_
    rotate_left
    · (have y0 := hSu.cell hc; (try dsimp only at y0); go_simp) <;> with_reducible rfl
    try simp only [Act.put, List.setIfInBounds_toArray, List.set_cons_zero, List.set_cons_succ]
  refine endY ?_
  refine take_one (i := 1) rfl (by kernel_rfl) (fun K hK => ?_)
  go_simp
  refine (unhide HA).mono ?_
  rintro _ w2 ⟨rfl, hm, k2⟩
  have hS2 : Kept w w2 := hHeld.trans k2
  have HK2 := hide hS2
  have hlk := (unhide HLK) w2 w.heap.size hm
  clear k2 HA hc HLK hm
  refine hK.out _ _ hS2 (fun hHeld => ?_)
  clear hK K hS2
  try simp only [Act.put, List.setIfInBounds_toArray, List.set_cons_zero, List.set_cons_succ]
  refine take_one (i := 5) rfl (by kernel_rfl) (fun K hK => ?_)
  go_simp
  refine hK.out _ _ hHeld (fun hHeld => ?_)
  clear hK K hlk
  try simp only [Act.put, List.setIfInBounds_toArray, List.set_cons_zero, List.set_cons_succ]
  refine planY [6, 7, 8, 9, 10] ?_
  repeat
    refine takeY (v := ?_) hHeld (fun u hSu => ?_) ?_
    rotate_left
    · go_simp <;> with_reducible rfl
    try simp only [Act.put, List.setIfInBounds_toArray, List.set_cons_zero, List.set_cons_succ]
  refine endY ?_
  refine wpAnyH_done (by kernel_rfl) ?_ _
  clear hHeld
  go_wp2_with fail
  exact ⟨rfl, rfl, (unhide HD).kept (unhide HK2), .of (unhide HK2)⟩
theorem dDo_one (w : World) (D : Nat) (vp : Value) (s : St) (O : OpsD) (h : PartsD w D vp s O) (b o cap : Nat) (a : List UInt8) (hc : w.cell? ⟨b, o, none⟩ = some (.string ⟨a.toArray⟩)) (ha : a.length ≤ 100000) :
    Calls Tryz.prog 42 #[.pointer (some ⟨D, 0, none⟩), .slice (some ⟨b, o, none⟩) 1 cap] w (DoP2 D vp s (aloneD O s a) w) := by
  obtain ⟨h1, h2⟩ := alone_at D a
  unfold aloneD
  by_cases e1 : a = [111, 117, 116]
  · rw [if_pos e1] at h1 ⊢
    exact dDo_out w D vp s _ b o cap a hc ha h1 (by rw [h2]; simp [e1]) (hide h.out)
  · rw [if_neg e1] at h1 ⊢
    by_cases e2 : a = [108, 105, 110, 101]
    · rw [if_pos e2] at h1 ⊢
      exact dDo_line w D vp s _ b o cap a hc ha h1 (by rw [h2]; simp [e2]) (hide h.line)
    · rw [if_neg e2] at h1 ⊢
      by_cases e3 : a = [107, 105, 110, 100, 115]
      · rw [if_pos e3] at h1 ⊢
        exact dDo_kinds w D vp s _ b o cap a hc ha h1 (by rw [h2]; simp [e3]) (hide h.kinds)
      · rw [if_neg e3] at h1 ⊢
        by_cases e4 : a = [116, 114, 105, 109]
        · rw [if_pos e4] at h1 ⊢
          exact dDo_trim w D vp s _ b o cap a hc ha h1 (by rw [h2]; simp [e4]) (hide h.trim)
        · rw [if_neg e4] at h1 ⊢
          by_cases e5 : a = [97, 103, 97, 105, 110]
          · rw [if_pos e5] at h1 ⊢
            exact dDo_again w D vp s _ b o cap a hc ha h1 (by rw [h2]; simp [e5]) (hide h.again)
          · rw [if_neg e5] at h1 ⊢
            exact dDo_miss w D vp s b o cap a hc ha h1 (by rw [h2]; simp [e1, e2, e3, e4, e5]) (hide h.dk)
theorem dDo_many (w : World) (D : Nat) (vp : Value) (s : St) (HD : Hid (DkAt w D vp s)) (oa : Option Addr) (n cap : Nat) (h1 : ((n : Int) == 1) = false) (h2 : ((n : Int) == 2) = false) :
    Calls Tryz.prog 42 #[.pointer (some ⟨D, 0, none⟩), .slice oa n cap] w (DoP2 D vp s (.inr 1) w) := by
  go_enter Tryz.func42, Tryz.ntmps42
  go_wp2_with fail
  exact ⟨rfl, rfl, unhide HD, .refl _ _⟩
end Go.Proofs.YtokhibfenccijaaGreatDoor
