/- RestPo, ForgeHa, ForgeH0, ForgeH7 -/
import Derived.Test.YtjioipkfnekigaaGreatDoorPB18
import Derived.Test.YtjioipkfnekigaaGreatDoorPB13
import Derived.Deep.Upon
import Derived.Laws.AppendOwn
import Derived.Maps.AppendAt
import Derived.Test.YtjioipkfnekigaaGreatDoorPB19
import Derived.Deep.RegionHeld3
set_option maxRecDepth 100000
set_option maxHeartbeats 8000000
namespace Go.Proofs.YtjioipkfnekigaaGreatDoor
open Go.RowKit Go.Maps
theorem row_open {w : World} {base : Nat} {e : TypeId} {size : Nat} {v : Value} {n : Nat} {xs : List Value} (h : w.ownsRow base e size v n xs) :
    ∃ oa cap, v = .slice oa n cap ∧ (0 < n → ∃ g cur, oa = some ⟨g, 0, none⟩ ∧ base ≤ g ∧ w.heap[g]? = some (.cells cur e) ∧ n * size ≤ cur.size ∧ n ≤ 9223372036854775807 ∧ ∀ (j : Nat) u, xs[j]? = some u → cur[j]? = some u) := by
  obtain ⟨hl, ⟨rfl, rfl⟩ | ⟨g, cap, cur, rfl, hb, hh, h1, h2, hs, ht⟩⟩ := h
  · exact ⟨none, 0, rfl, fun h => by omega⟩
  · refine ⟨_, cap, rfl, fun _ => ⟨g, cur, rfl, hb, hh, ?_, by unfold maxLen at h2; omega, fun j u hj => ?_⟩⟩
    · rw [hs]; exact Nat.mul_le_mul_right _ h1
    · rw [← ht, List.getElem?_take] at hj
      split at hj
      · simpa using hj
      · cases hj
theorem row_same {w w' : World} {base : Nat} {e : TypeId} {size : Nat} {v : Value} {n : Nat} {xs : List Value} (h : w.ownsRow base e size v n xs) (hs : ∀ g, v.ownBlock = some g → w'.heap[g]? = w.heap[g]?) : w'.ownsRow base e size v n xs := by
  refine ⟨h.1, ?_⟩
  rcases h.2 with hn | ⟨g, cap, cur, rfl, hb, hgg, rest⟩
  · exact .inl hn
  · exact .inr ⟨g, cap, cur, rfl, hb, by rw [hs g rfl]; exact hgg, rest⟩
theorem addr_add (B j : Nat) : ((⟨B, 0, none⟩ : Addr).add j) = ⟨B, j, none⟩ := by unfold Addr.add; split <;> simp_all
theorem take_oneR {P : Program} {md : Region.Mode} {Q : Exit → Act → World → Prop} {S : World → Prop} {L tl : List Oper} {i : Nat} {oi : Oper} {fuel : Nat} {listed : Array Bool} {a : Act} {w : World} (hd : L.drop i = oi :: tl)
    (hr : Region.ready md L.toArray listed = [i])
    (h : ∀ K' : Act → World → Prop, Shut (∀ a w, S w → (S w → wpAnyH P md L.toArray Q S fuel (listed.setIfInBounds i true) a w) → K' a w) → if Region.wanted oi (yielded L.toArray a.tmps) = true then Oper.wp P oi a w K' Q else K' (a.put oi.dst undef) w) :
    wpAnyH P md L.toArray Q S (fuel + 1) listed a w :=
  wpAnyH_ready hr (by simp) (AllReadyH.cons (at_drop hd) h AllReadyH.nil)
theorem rInfoOp : (Tryz.prog.info? 44).map (fun i => (i.zero, i.size, i.bytes)) = some (some (.agg #[.int .i64 0, .int .i64 0]), 2, 16) := by kernel_rfl
theorem rInfoFn : (Tryz.prog.info? 42).map (fun i => (i.zero, i.size, i.bytes)) = some (some (.agg #[.int .i64 0, .int .i64 0, .slice none 0 0]), 3, 40) := by kernel_rfl
theorem rFlat_len : ∀ c : List (Int × Int), (flatOps c).length = c.length * 2
  | [] => rfl
  | _ :: c => by have := rFlat_len c; simp only [flatOps, List.flatMap_cons, List.length_append, List.length_cons, List.length_nil] at this ⊢; omega
theorem rFlat_one (c : List (Int × Int)) : ∀ u ∈ flatOps c, u.oneCell' = true := by
  intro u hu
  simp only [flatOps, List.mem_flatMap, List.mem_cons, List.not_mem_nil, or_false] at hu
  obtain ⟨x, _, rfl | rfl⟩ := hu <;> rfl
def CodeB (w : World) (v : Value) (c : List (Int × Int)) : Prop :=
  ∃ D cap cur, v = .slice (some ⟨D, 0, none⟩) c.length cap ∧ w.heap[D]? = some (.cells cur 44) ∧ ∀ (j : Nat) u, (flatOps c)[j]? = some u → cur[j]? = some u
theorem CodeB.code {w : World} {v : Value} {c : List (Int × Int)} (h : CodeB w v c) (hl : c.length ≤ 1000) : CodeAt w v c := by
  obtain ⟨D, cap, cur, rfl, hD, hc⟩ := h
  refine ⟨_, cap, rfl, by omega, fun i x hx => ?_⟩
  obtain ⟨f1, f2⟩ := flatOps_at c i x hx
  refine ⟨D, 0, rfl, ?_, ?_⟩
  · rw [cell_lays hD]; simpa using hc _ _ f1
  · rw [cell_lays hD]; simpa using hc _ _ f2
theorem CodeB.kept {w w' : World} {v : Value} {c : List (Int × Int)} (h : CodeB w v c) (k : Kept w w') : CodeB w' v c := by
  obtain ⟨D, cap, cur, e, hD, hc⟩ := h
  exact ⟨D, cap, cur, e, lays_kept k hD, hc⟩
theorem ops_copied (B : Nat) (w0 u : World) (v : Value) (c : List (Int × Int)) (hc : CodeAt u v c) (hl : c.length ≤ 1000) (hB : u.heap[B]? = some (.cells #[] 44)) (hb : w0.heap.size ≤ B) (hk : Kept w0 u) :
    ∃ o' c' u', (Builtin.append_ #[40, 40] 40 #[.slice (some ⟨B, 0, none⟩) 0 0, v]).run Tryz.prog u = .ok (.slice o' c.length c') u' ∧ CodeB u' (.slice o' c.length c') c ∧ Kept w0 u' := by
  obtain ⟨i0, hi0, hz0, hz1, hz2⟩ := info_parts rInfoOp
  have hBl : B < u.heap.size := (Array.getElem?_eq_some_iff.1 hB).1
  have hrow : u.ownsRow w0.heap.size 44 2 (.slice (some ⟨B, 0, none⟩) 0 0) 0 [] := ⟨rfl, .inr ⟨B, 0, #[], rfl, hb, hB, Nat.le_refl _, by decide, rfl, rfl⟩⟩
  obtain ⟨oa, cap, rfl, _, hi⟩ := hc
  by_cases h0 : c.length = 0
  · obtain rfl : c = [] := List.length_eq_zero_iff.1 h0
    refine ⟨some ⟨B, 0, none⟩, 0, u, ?_, ⟨B, 0, #[], rfl, hB, fun j u hj => by simp [flatOps] at hj⟩, hk⟩
    cases oa with
    | none => exact run_append_nothing u _ _ _ _ i0 Tryz.underlying40 hi0 _ 0 0 (Nat.le_refl _) _ (Src.ofNil u Tryz.underlying40 cap)
    | some a => exact run_append_nothing u _ _ _ _ i0 Tryz.underlying40 hi0 _ 0 0 (Nat.le_refl _) _ (Src.ofSlice u Tryz.underlying40 a 0 cap [] (by simp) (by simp) (by simp))
  · obtain ⟨b, o, rfl, _⟩ := hi 0 _ (List.getElem?_eq_getElem (by omega))
    obtain ⟨v', u', hrun, hown, hgrow, _, hat⟩ := run_append_own_at (P := Tryz.prog) u w0.heap.size 40 40 44 i0 _ 2 16 Tryz.underlying40 hi0 hz0 hz1 hz2 rfl (by decide) _ 0 [] hrow ⟨b, o, none⟩ c.length cap (flatOps c) (rFlat_len c) (fun j x hj => by
        have hjl : j < c.length * 2 := by rw [← rFlat_len]; exact (List.getElem?_eq_some_iff.1 hj).1
        obtain ⟨b', o', e, h1, h2⟩ := hi (j / 2) _ (List.getElem?_eq_getElem (by omega))
        obtain ⟨rfl, rfl⟩ := (by simpa using e : b = b' ∧ o = o')
        have : ((⟨b, o, none⟩ : Addr).add j) = ⟨b, o + j, none⟩ := by unfold Addr.add; split <;> simp_all
        obtain ⟨f1, f2⟩ := flatOps_at c (j / 2) _ (List.getElem?_eq_getElem (by omega))
        rw [this]
        rcases Nat.mod_two_eq_zero_or_one j with hm | hm
        · have ej : j / 2 * 2 = j := by omega
          rw [ej] at f1 h1
          rw [h1, ← hj, f1]
        · have ej : j / 2 * 2 + 1 = j := by omega
          rw [ej] at f2
          rw [show o + j / 2 * 2 + 1 = o + j by omega] at h2
          rw [h2, ← hj, f2]) (rFlat_one c) (by unfold maxLen; omega) (by omega) (by omega)
    have hk' : Kept w0 u' := Below.grown hk hgrow hk.size (fun g e => by cases e; exact hb)
    rw [List.nil_append, Nat.zero_add] at hown
    obtain ⟨_, ⟨rfl, h9⟩ | ⟨g, cp, cur, rfl, hg, hh, _, _, hs, ht⟩⟩ := hown
    · omega
    · refine ⟨some ⟨g, 0, none⟩, cp, u', hrun, ⟨g, cp, cur, rfl, hh, fun j u hj => ?_⟩, hk'⟩
      rw [← ht, List.getElem?_take] at hj
      split at hj
      · simpa using hj
      · cases hj
def OwnP (w0 w : World) (v : Value) (p : List Fn) (k : Nat) : Prop :=
  ∃ l : List (Fn × Value), l.length = k ∧ l.map (·.1) = p.take k ∧ w.ownsRow w0.heap.size 42 3 v k (flatFns l) ∧ (∀ x ∈ l, CodeB w x.2 x.1.code) ∧ Kept w0 w
theorem OwnP.start (w : World) (p : List Fn) : OwnP w w (.slice none 0 0) p 0 := ⟨[], rfl, rfl, ⟨rfl, .inl ⟨rfl, rfl⟩⟩, (fun x hx => by cases hx), Kept.refl w⟩
theorem OwnP.kept {w0 w w' : World} {v : Value} {p : List Fn} {k : Nat} (h : OwnP w0 w v p k) (hk : Kept w w') : OwnP w0 w' v p k := by
  obtain ⟨l, h1, h2, h3, h4, h5⟩ := h
  exact ⟨l, h1, h2, row_same h3 (fun g hg => hk.block g (World.ownsRow.lt h3 g hg).2), fun x hx => (h4 x hx).kept hk, h5.trans hk⟩
theorem flatFns_snocR (l : List (Fn × Value)) (x : Fn × Value) : flatFns (l ++ [x]) = flatFns l ++ [.int .i64 x.1.args, .int .i64 x.1.locals, x.2] := by simp [flatFns]
theorem OwnP.prog {w0 w : World} {v : Value} {p : List Fn} (h : OwnP w0 w v p p.length) (hp : p.length ≤ 5) (hc : ∀ f ∈ p, f.code.length ≤ 24) : ProgAt w v p := by
  obtain ⟨l, h1, h2, h3, h4, _⟩ := h
  rw [List.take_length] at h2
  obtain ⟨oa, cap, rfl, hr⟩ := row_open h3
  refine ⟨oa, cap, rfl, by omega, fun i f hf => ?_⟩
  have hi := (List.getElem?_eq_some_iff.1 hf).1
  obtain ⟨g, cur, rfl, _, hg, _, _, hu⟩ := hr (by omega)
  rw [← h2, List.getElem?_map, Option.map_eq_some_iff] at hf
  obtain ⟨x, hx, rfl⟩ := hf
  obtain ⟨f1, f2, f3⟩ := flatFns_at l i x hx
  have hm := List.mem_of_getElem? hx
  refine ⟨g, 0, x.2, rfl, ?_, ?_, ?_, (h4 x hm).code (by have := hc x.1 (by rw [← h2]; exact List.mem_map_of_mem hm); omega)⟩
  · rw [cell_lays hg]; simpa using hu _ _ f1
  · rw [cell_lays hg]; simpa using hu _ _ f2
  · rw [cell_lays hg]; simpa using hu _ _ f3
theorem OwnP.more {w0 u : World} {v cv : Value} {p : List Fn} {k : Nat} {f : Fn} (h : OwnP w0 u v p k) (hf : p[k]? = some f) (hk5 : k ≤ 5) (hcv : CodeB u cv f.code) :
    ∃ o' c' u', (Builtin.append_ #[22, 22] 22 #[v, .slice (some ⟨u.heap.size, 0, none⟩) 1 1]).run Tryz.prog (u.alloc (.cells #[.int .i64 f.args, .int .i64 f.locals, cv] 42)) = .ok (.slice o' (k + 1) c') u' ∧ OwnP w0 u' (.slice o' (k + 1) c') p (k + 1) := by
  obtain ⟨i0, hi0, hz0, hz1, hz2⟩ := info_parts rInfoFn
  obtain ⟨l, h1, h2, h3, h4, h5⟩ := h
  obtain ⟨D, cp, cur, rfl, hD, hcur⟩ := id hcv
  have hL : (u.alloc (.cells #[.int .i64 f.args, .int .i64 f.locals, .slice (some ⟨D, 0, none⟩) f.code.length cp] 42)).heap[u.heap.size]? = some (.cells #[.int .i64 f.args, .int .i64 f.locals, .slice (some ⟨D, 0, none⟩) f.code.length cp] 42) := lays_new rfl
  obtain ⟨v', u', hrun, hown, hgrow, _, hat⟩ := run_append_own_at (P := Tryz.prog) _ w0.heap.size 22 22 42 i0 _ 3 40 Tryz.underlying22 hi0 hz0 hz1 hz2 rfl (by decide) v k (flatFns l) (row_same (w' := u.alloc (.cells #[.int .i64 f.args, .int .i64 f.locals, .slice (some ⟨D, 0, none⟩) f.code.length cp] 42)) h3 (fun g hg => Below.heap_alloc u _ g (World.ownsRow.lt h3 g hg).2)) ⟨u.heap.size, 0, none⟩ 1 1 [.int .i64 f.args, .int .i64 f.locals, .slice (some ⟨D, 0, none⟩) f.code.length cp] rfl (fun j x hj => by
      rw [addr_add, cell_lays hL]; simpa using hj) (fun x hx => by
      simp only [List.mem_cons, List.not_mem_nil, or_false] at hx
      rcases hx with rfl | rfl | rfl <;> rfl) (by unfold maxLen; omega) (by omega) (Nat.le_trans h5.size (by simp))
  obtain ⟨oa, cap, rfl, _⟩ := row_open hown
  have hkk : Kept w0 u' := Below.grown (h5.alloc _) hgrow (h5.alloc _).size (fun g hg => (World.ownsRow.lt h3 g hg).1)
  have hstay : ∀ {E : Nat} {cc : Array Value}, u.heap[E]? = some (.cells cc 44) → u'.heap[E]? = some (.cells cc 44) := fun {E cc} hE => by
    have hlt : E < u.heap.size := (Array.getElem?_eq_some_iff.1 hE).1
    refine (hgrow.block E (by simp; omega) (fun e => ?_)).trans (lays_alloc hE _)
    obtain ⟨_, ⟨rfl, _⟩ | ⟨g, _, cur', rfl, _, hh, _⟩⟩ := h3
    · cases e
    · obtain rfl : E = g := by simpa [Value.ownBlock] using e
      rw [hE] at hh
      simp at hh
  refine ⟨oa, cap, u', hrun, l ++ [(f, .slice (some ⟨D, 0, none⟩) f.code.length cp)], by simp [h1], ?_, ?_, ?_, hkk⟩
  · rw [List.map_append, h2, List.take_add_one, hf]; rfl
  · rw [flatFns_snocR]; exact hown
  · intro x hx
    rcases List.mem_append.1 hx with hx | hx
    · obtain ⟨E, q, cc, e, hE, hq⟩ := h4 x hx
      exact ⟨E, q, cc, e, hstay hE, hq⟩
    · obtain rfl := List.mem_singleton.1 hx
      exact ⟨D, cp, cur, rfl, hstay hD, hcur⟩
theorem ownProg_any (p : List Fn) (vp : Value) (w : World) (hp : ProgAt w vp p) (h5 : p.length ≤ 5) (hc : ∀ f ∈ p, f.code.length ≤ 24) :
    Calls Tryz.prog 13 #[vp] w fun e w' => ∃ oa n cap, e = .returned (.slice oa n cap) ∧ ProgAt w' (.slice oa n cap) p ∧ Kept w w' := by
  obtain ⟨oa, cap, rfl, _, hi⟩ := hp
  generalize hn : p.length = n at *
  have HI := hide hi
  have HC := hide hc
  have HN := hide hn
  clear hi hc hn
  go_enter Tryz.func13, Tryz.ntmps13
  go_wp2
  go_loopw [3, 4] (fun s3 s4 wr => ∃ (k : Nat) (o3 : Option Addr) (c3 : Nat), k ≤ n ∧ s3 = .slice o3 k c3 ∧ s4 = .int .i64 k ∧ Hid (OwnP w wr (.slice o3 k c3) p k)) (fun _ s4 _ => n - (intOf s4).toNat)
  case atStart => exact ⟨0, none, 0, Nat.zero_le _, rfl, rfl, hide (OwnP.start w p)⟩
  case round =>
    obtain ⟨k, o3, c3, hkm, rfl, rfl, HOr⟩ := hrel
    by_cases hlt : k < n
    · obtain ⟨f, hf⟩ : ∃ f, p[k]? = some f := ⟨_, List.getElem?_eq_getElem (by rw [unhide HN]; exact hlt)⟩
      obtain ⟨b, o, cv, rfl, x0, x1, x2, hcv⟩ := (unhide HI) k f hf
      obtain ⟨_, _, _, _, _, hkw⟩ := unhide HOr
      have hcl := (unhide HC) f (List.mem_of_getElem? hf)
      obtain ⟨oc, cc, rfl, _, _⟩ := id hcv
      have HCV := hide hcv
      have HF := hide hf
      have HKW := hide hkw
      have hk0 : (0 : Int) ≤ (k : Int) := by omega
      have hk1 : (k : Int) < (n : Int) := by omega
      have HCL := hide hcl
      generalize hM : f.code.length = M at *
      have HM := hide hM
      clear hcv hf hkw hcl hM
      go_wp2_with fail
      refine wp_region_held_drew (S := fun y => Kept w y) (by kernel_rfl) ((unhide HKW).drew) (fun hHeld => ?_)
      refine planY [0, 1, 2, 3, 4, 5, 6, 7, 8, 9, 10, 12, 13, 14, 15, 16] ?_
      repeat
        refine takeY (v := ?_) hHeld (fun u hSu => ?_) ?_
        rotate_left
        · (have y0 := Kept.cell hSu x0; have y1 := Kept.cell hSu x1; have y2 := Kept.cell hSu x2; (try dsimp only at y0 y1 y2); go_simp) <;> with_reducible rfl
        try simp only [Act.put, List.setIfInBounds_toArray, List.set_cons_zero, List.set_cons_succ]
      refine endY ?_
      refine take_oneR (i := 11) rfl (by kernel_rfl) (fun K hK => ?_)
      go_simp
      refine hK.out _ _ (((unhide HKW).alloc _).drew) (fun hHeld => ?_)
      clear hK K
      try simp only [Act.put, List.setIfInBounds_toArray, List.set_cons_zero, List.set_cons_succ]
      have hE : (wr.alloc (.cells #[] 44)).drew.heap[wr.heap.size]? = some (.cells #[] 44) := (show (wr.alloc (.cells #[] 44)).heap[wr.heap.size]? = _ from lays_new rfl)
      have hy1 : Kept wr (wr.alloc (.cells #[] 44)).drew := ((Kept.refl wr).alloc _).drew
      generalize (wr.alloc (.cells #[] 44)).drew = y1 at hE hHeld hy1 ⊢
      refine take_oneR (i := 17) rfl (by kernel_rfl) (fun K hK => ?_)
      obtain ⟨o', c', y2, hr, hcb, hk2⟩ := ops_copied wr.heap.size wr y1 (.slice oc M cc) f.code ((unhide HCV).kept hHeld) (by have := unhide HM; have := unhide HCL; omega) hE (Nat.le_refl _) hy1
      rw [unhide HM] at hr hcb
      refine step_appR _ rfl (.tmp 22) (.tmp 27) 40 rfl rfl rfl hr ?_
      simp only [Act.put, List.setIfInBounds_toArray, List.set_cons_zero, List.set_cons_succ]
      refine hK.out _ _ ((unhide HKW).trans hk2) (fun hHeld => ?_)
      clear hK K hr hE
      refine take_oneR (i := 18) rfl (by kernel_rfl) (fun K hK => ?_)
      go_simp
      refine hK.out _ _ hHeld (fun hHeld => ?_)
      clear hK K
      try simp only [Act.put, List.setIfInBounds_toArray, List.set_cons_zero, List.set_cons_succ]
      refine take_oneR (i := 19) rfl (by kernel_rfl) (fun K hK => ?_)
      go_simp
      refine hK.out _ _ (hHeld.alloc _) (fun hHeld => ?_)
      clear hK K
      try simp only [Act.put, List.setIfInBounds_toArray, List.set_cons_zero, List.set_cons_succ]
      refine take_oneR (i := 20) rfl (by kernel_rfl) (fun K hK => ?_)
      obtain ⟨o4, c4, y4, hr, ho4⟩ := OwnP.more ((unhide HOr).kept hk2) (unhide HF) (by omega) hcb
      refine step_appR _ rfl (.tmp 11) (.tmp 30) 22 rfl rfl rfl hr ?_
      simp only [Act.put, List.setIfInBounds_toArray, List.set_cons_zero, List.set_cons_succ]
      obtain ⟨_, _, _, _, _, hk4⟩ := id ho4
      refine hK.out _ _ hk4 (fun hHeld => ?_)
      have HO4 := hide ho4
      clear hK K hr ho4 hcb hk2 HOr x0 x1 x2
      refine planY [21] ?_
      refine takeY (v := ?_) hHeld (fun u hSu => ?_) ?_
      rotate_left
      · go_simp <;> with_reducible rfl
      try simp only [Act.put, List.setIfInBounds_toArray, List.set_cons_zero, List.set_cons_succ]
      refine endY ?_
      refine wpAnyH_done (by kernel_rfl) ?_ _
      clear hHeld
      go_wp2_with fail
      go_roundw
      case rel => exact ⟨k + 1, o4, c4, by omega, rfl, by go_num, HO4⟩
      case measure => simp [intOf]; omega
    · obtain rfl : k = n := by omega
      go_wp2
      go_ret
      obtain ⟨_, _, _, _, _, hk4⟩ := unhide HOr
      refine ⟨_, _, _, rfl, ?_, hk4⟩
      have h := unhide HOr
      rw [← unhide HN] at h ⊢
      exact h.prog (by rw [unhide HN]; exact h5) (unhide HC)
theorem fFlat_len (c : List (Int × Int)) : (flatOps c).length = c.length * 2 := by
  induction c with
  | nil => rfl
  | cons x r ih => simp only [flatOps, List.flatMap_cons, List.length_append, List.length_cons, List.length_nil] at ih ⊢; omega
theorem fFlat_app (c d : List (Int × Int)) : flatOps (c ++ d) = flatOps c ++ flatOps d := by simp [flatOps]
theorem fFlat_one (c : List (Int × Int)) : ∀ u ∈ flatOps c, u.oneCell' = true := by
  intro u hu
  simp only [flatOps, List.mem_flatMap] at hu
  obtain ⟨x, _, hx⟩ := hu
  exact fTwo_int _ _ u hx
theorem fRow_kept {w w' : World} {base : Nat} {e : TypeId} {size : Nat} {v : Value} {n : Nat} {xs : List Value} (h : w.ownsRow base e size v n xs) (k : Kept w w') : w'.ownsRow base e size v n xs := by
  obtain ⟨h1, h2 | ⟨g, cap, cur, hv, hb, hh, r⟩⟩ := h
  · exact ⟨h1, .inl h2⟩
  · exact ⟨h1, .inr ⟨g, cap, cur, hv, hb, lays_kept k hh, r⟩⟩
theorem fRow_low {w : World} {base base' : Nat} {e : TypeId} {size : Nat} {v : Value} {n : Nat} {xs : List Value} (h : w.ownsRow base' e size v n xs) (hb : base ≤ base') : w.ownsRow base e size v n xs := by
  obtain ⟨h1, h2 | ⟨g, cap, cur, hv, hb', r⟩⟩ := h
  · exact ⟨h1, .inl h2⟩
  · exact ⟨h1, .inr ⟨g, cap, cur, hv, Nat.le_trans hb hb', r⟩⟩
theorem add_zero (g j : Nat) : (⟨g, 0, none⟩ : Addr).add j = ⟨g, j, none⟩ := by
  unfold Addr.add
  by_cases h : j = 0
  · subst h; simp
  · simp [h]
def OpsOwn (base : Nat) (w : World) (v : Value) (c : List (Int × Int)) : Prop := w.ownsRow base 44 2 v c.length (flatOps c)
theorem OpsOwn.kept {base : Nat} {w w' : World} {v : Value} {c : List (Int × Int)} (h : OpsOwn base w v c) (k : Kept w w') : OpsOwn base w' v c := fRow_kept h k
theorem OpsOwn.low {base base' : Nat} {w : World} {v : Value} {c : List (Int × Int)} (h : OpsOwn base' w v c) (k : base ≤ base') : OpsOwn base w v c := fRow_low h k
theorem OpsOwn.reads {base : Nat} {w : World} {v : Value} {c : List (Int × Int)} (h : OpsOwn base w v c) (hc : 0 < c.length) :
    ∃ g cap, v = .slice (some ⟨g, 0, none⟩) c.length cap ∧ base ≤ g ∧ g < w.heap.size ∧ ∀ j u, (flatOps c)[j]? = some u → w.cell? ((⟨g, 0, none⟩ : Addr).add j) = some u := by
  obtain ⟨hl, h0 | ⟨g, cap, cur, hv, hb, hh, h1, h2, hs, ht⟩⟩ := h
  · omega
  · refine ⟨g, cap, hv, hb, (Array.getElem?_eq_some_iff.1 hh).1, fun j u hj => ?_⟩
    have hj' := (List.getElem?_eq_some_iff.1 hj).1
    rw [← ht, List.getElem?_take] at hj
    split at hj
    · rw [add_zero, cell_lays hh]
      simpa using hj
    · cases hj
theorem OpsOwn.code {base : Nat} {w : World} {v : Value} {c : List (Int × Int)} (h : OpsOwn base w v c) (hl : c.length ≤ 100) : FCode base w v c := by
  by_cases hc : 0 < c.length
  · obtain ⟨g, cap, hv, hb, _, hr⟩ := h.reads hc
    obtain ⟨cur, hg⟩ : ∃ cur, w.heap[g]? = some (.cells cur 44) := by
      obtain ⟨_, ⟨_, h0⟩ | ⟨g', cap', cur, hv', _, hh, _⟩⟩ := id h
      · omega
      · rw [hv] at hv'
        obtain ⟨rfl, _⟩ : g = g' ∧ cap = cap' := by simpa using hv'
        exact ⟨cur, hh⟩
    subst hv
    refine ⟨_, cap, rfl, by omega, fun i x hx => ?_⟩
    obtain ⟨f1, f2⟩ := flatOps_at c i x hx
    have e1 := hr _ _ f1
    have e2 := hr _ _ f2
    rw [add_zero] at e1 e2
    exact ⟨g, 0, rfl, hb, by simpa using e1, by simpa using e2, cur, hg⟩
  · have : c = [] := List.length_eq_zero_iff.1 (by omega)
    subst this
    obtain ⟨hl, ⟨rfl, _⟩ | ⟨g, cap, cur, hv, hb, hh, _⟩⟩ := h
    · exact FCode.nil _ _
    · exact ⟨_, _, hv, by simp, fun i x hx => by simp at hx⟩
theorem OpsOwn.empty {w : World} {base E : Nat} (h : w.heap[E]? = some (.cells #[] 44)) (hb : base ≤ E) : OpsOwn base w (.slice (some ⟨E, 0, none⟩) 0 0) [] :=
  ⟨rfl, .inr ⟨E, 0, #[], rfl, hb, h, Nat.le_refl _, by unfold maxLen; omega, rfl, rfl⟩⟩
theorem OpsOwn.start (w : World) (base : Nat) : OpsOwn base w (.slice none 0 0) [] := ⟨rfl, .inl ⟨rfl, rfl⟩⟩
theorem OpsOwn.one {w : World} {base E : Nat} {a b : Int} (h : w.heap[E]? = some (.cells #[.int .i64 a, .int .i64 b] 44)) (hb : base ≤ E) : OpsOwn base w (.slice (some ⟨E, 0, none⟩) 1 1) [(a, b)] :=
  ⟨rfl, .inr ⟨E, 1, #[.int .i64 a, .int .i64 b], rfl, hb, h, Nat.le_refl _, by unfold maxLen; omega, rfl, rfl⟩⟩
theorem app_ops {w0 y : World} {v : Value} {c : List (Int × Int)} (hk : Kept w0 y) (h : OpsOwn w0.heap.size y v c) (ad : Addr) (m cp : Nat) (d : List (Int × Int)) (hm : m = d.length) (hn : ∀ j u, (flatOps d)[j]? = some u → y.cell? (ad.add j) = some u) (hl : c.length + d.length ≤ 200) :
    ∃ o' c' y', (Builtin.append_ #[40, 40] 40 #[v, .slice (some ad) m cp]).run Tryz.prog y = .ok (.slice o' (c ++ d).length c') y' ∧ OpsOwn w0.heap.size y' (.slice o' (c ++ d).length c') (c ++ d) ∧ Kept w0 y' ∧ (∀ D o, y.heap[D]? = some o → v.ownBlock ≠ some D → y'.heap[D]? = some o ∧ (Value.slice o' (c ++ d).length c').ownBlock ≠ some D) := by
  subst hm
  obtain ⟨i0, hi0, hz0, hz1, hz2⟩ := fInfoOp
  obtain ⟨v', y', hr, h2, h3, h4, h5⟩ := run_append_own_at (P := Tryz.prog) y w0.heap.size 40 40 44 i0 _ 2 16 Tryz.underlying40 hi0 hz0 hz1 hz2 rfl (by decide) v c.length (flatOps c) h ad d.length cp (flatOps d) (fFlat_len d) hn (fFlat_one d) (by unfold maxLen; omega) (by omega) hk.size
  obtain ⟨⟨o', c', rfl⟩, _⟩ := fRow_slice h2
  rw [← fFlat_app, ← List.length_append] at h2
  rw [← List.length_append] at hr h5
  refine ⟨o', c', y', hr, ?_, Below.grown hk h3 hk.size (fRow_slice h).2, fun D o hD hne => ⟨(h3.block D (Array.getElem?_eq_some_iff.1 hD).1 (fun e => hne e.symm)).trans hD, fun e => ?_⟩⟩
  · exact h2
  · rcases h5 with e5 | e5
    · exact hne (e5 ▸ e)
    · have hlt := (Array.getElem?_eq_some_iff.1 hD).1
      have := Option.some.inj (e.symm.trans e5)
      omega
theorem lay_pos : ∀ (n : Nat) (x : Int × Int) (r : List (Int × Int)) (h : Nat), 0 < (layS (n + 1) (x :: r) h).1.length := by
  intro n x r h
  unfold layS
  split
  · simp
  split
  · simp
  split <;> (simp only [List.length_append, List.length_cons]; omega)
theorem lay_next (n : Nat) (e : List (Int × Int)) (o : Int) (h : Nat) (hl : e.length ≤ n) (ho : 1 ≤ o) (h1 : onlyS e o = true) (hk : ∀ x ∈ e, kindOk x) :
    (layS n e h).2.length ≤ n ∧ onlyS (layS n e h).2 (o - 1) = true ∧ (∀ x ∈ (layS n e h).2, kindOk x) ∧ 0 < (layS n e h).1.length ∧ (layS n e h).1.length + 2 * (layS n e h).2.length ≤ 2 * e.length := by
  obtain ⟨j, p, q, e1, o1⟩ := val_rest [] n e o hl ho h1 hk
  have e2 := (lay_hg n e h 0 []).2.2
  have e3 := lay_len n e o h hl ho h1 hk
  have e4 : (valS [] n e).2.length = e.length - j := by rw [e1]; simp
  rw [e2]
  refine ⟨by omega, o1, by rw [e1]; exact fun y hy => hk y (List.mem_of_mem_drop hy), ?_, by omega⟩
  cases e with
  | nil => simp [onlyS] at h1; omega
  | cons x r =>
    cases n with
    | zero => simp at hl
    | succ n => exact lay_pos n x r h
def LaidPost (n : Nat) (e : List (Int × Int)) (h : Nat) (w : World) (x : Ending) (w' : World) : Prop :=
  ∃ cv v', x = .returned (.tuple #[cv, v']) ∧ OpsOwn w.heap.size w' cv (layS n e h).1 ∧ NodesAt w' v' (layS n e h).2 ∧ Kept w w'
theorem laid_leaf (n : Nat) (k z : Int) (r : List (Int × Int)) (o : Int) (h : Nat) (v : Value) (w : World) (hl : ((k, z) :: r).length ≤ n + 1) (ho : 1 ≤ o) (h1 : onlyS ((k, z) :: r) o = true) (hk : ∀ x ∈ (k, z) :: r, kindOk x) (hb : h + 2 * ((k, z) :: r).length ≤ 60) (hv : NodesAt w v ((k, z) :: r)) (hk1 : k ≤ 1) :
    Calls Tryz.prog 57 #[v, .int .i64 h] w (LaidPost (n + 1) ((k, z) :: r) h w) := by
  have hx := hk (k, z) (by simp)
  obtain ⟨b, o1, cap, rfl, hcap, hrl, c0, c1, hrest⟩ := hv.first
  unfold kindOk at hx
  have hl9 : r.length ≤ n := by simpa using hl
  have hb9 : h + 2 * r.length + 2 ≤ 60 := by simp at hb; omega
  have HY : Hid (∀ u, Kept w u → u.cell? ⟨b, o1, none⟩ = some (.int .i64 k) ∧ u.cell? ⟨b, o1 + 1, none⟩ = some (.int .i64 z)) := hide (fun u hu => ⟨hu.cell c0, hu.cell c1⟩)
  have HR := hide hrest
  have HH := hide (show onlyS r (o - 1 + partsS k) = true by simp only [onlyS] at h1; rwa [if_neg (by omega)] at h1)
  have HK := hide (show ∀ y ∈ r, kindOk y from fun y hy => hk y (by simp [hy]))
  clear hrest h1 hk hv c0 c1 hl hb
  obtain ⟨oa, hoa, hsl⟩ := cut_first b o1 r.length cap hcap
  have HOA := hide hoa
  clear hoa
  have h1i : (1 : Int) ≤ ((r.length + 1 : Nat) : Int) := by omega
  have h2i : (0 : Int) < ((r.length + 1 : Nat) : Int) := by omega
  go_enter Tryz.func57, Tryz.ntmps57
  go_wp2_with fail
  go_region_held3 (fun u => u.cell? ⟨b, o1, none⟩ = some (.int .i64 k) ∧ u.cell? ⟨b, o1 + 1, none⟩ = some (.int .i64 z)) (exact (unhide HY) _ (by repeat (first | exact Kept.refl _ | refine Kept.drew ?_ | refine Kept.alloc ?_ _ | refine Kept.setCell ?_ (by simp) _))) (fail)
  rename_i hheld
  clear hheld
  have HK1 : Hid (Kept w (w.alloc (.cells #[.int .i64 k, .int .i64 z] 100)).drew) := hide ((Kept.refl w).alloc _).drew
  have HNR : Hid (NodesAt (w.alloc (.cells #[.int .i64 k, .int .i64 z] 100)).drew (.slice oa r.length (cap - 1)) r) := hide (((unhide HR) (cap - 1) oa (by omega) (fun hne => (unhide HOA) (by simpa using hne))).kept (unhide HK1))
  have d0 : (w.alloc (.cells #[.int .i64 k, .int .i64 z] 100)).drew.cell? ⟨w.heap.size, 0, none⟩ = some (.int .i64 k) := cell_lays (lays_drew (lays_new rfl)) 0
  have d1 : (w.alloc (.cells #[.int .i64 k, .int .i64 z] 100)).drew.cell? ⟨w.heap.size, 1, none⟩ = some (.int .i64 z) := cell_lays (lays_drew (lays_new rfl)) 1
  have HSZ : Hid (w.heap.size ≤ w.heap.size) := hide (Nat.le_refl _)
  generalize (w.alloc (.cells #[.int .i64 k, .int .i64 z] 100)).drew = w1 at HK1 HNR d0 d1 ⊢
  clear HY HR hsl HSZ
  generalize w.heap.size = B at d0 d1 ⊢
  by_cases h0 : k = 0
  · have hv : layS (n + 1) ((k, z) :: r) h = ([(0, z)], r) := by unfold layS; rw [if_pos h0]
    have HVS := hide hv
    clear hv
    subst h0
    go_wp2
    go_ret2
    refine ⟨_, .slice oa r.length (cap - 1), rfl, ?_, ?_, (unhide HK1).alloc _⟩
    · rw [unhide HVS]; exact OpsOwn.one (lays_new rfl) (unhide HK1).size
    · rw [unhide HVS]; exact (unhide HNR).kept ((Kept.refl w1).alloc _)
  · by_cases h1 : k = 1
    · have hv : layS (n + 1) ((k, z) :: r) h = ([(2, z)], r) := by unfold layS; rw [if_neg h0, if_pos h1]
      have HVS := hide hv
      clear hv h0
      subst h1
      go_wp2
      go_ret2
      refine ⟨_, .slice oa r.length (cap - 1), rfl, ?_, ?_, (unhide HK1).alloc _⟩
      · rw [unhide HVS]; exact OpsOwn.one (lays_new rfl) (unhide HK1).size
      · rw [unhide HVS]; exact (unhide HNR).kept ((Kept.refl w1).alloc _)
    · omega
theorem laid_if (n : Nat) (IH : Hid (∀ (e : List (Int × Int)) (o : Int) (h : Nat) (v : Value) (w : World), e.length ≤ n → 1 ≤ o → onlyS e o = true → (∀ x ∈ e, kindOk x) → h + 2 * e.length ≤ 60 → NodesAt w v e → Calls Tryz.prog 57 #[v, .int .i64 h] w (LaidPost n e h w))) (k z : Int) (r : List (Int × Int)) (o : Int) (h : Nat) (v : Value) (w : World) (hl : ((k, z) :: r).length ≤ n + 1) (ho : 1 ≤ o) (h1 : onlyS ((k, z) :: r) o = true) (hk : ∀ x ∈ (k, z) :: r, kindOk x) (hb : h + 2 * ((k, z) :: r).length ≤ 60) (hv : NodesAt w v ((k, z) :: r)) (h7 : k = 7) :
    Calls Tryz.prog 57 #[v, .int .i64 h] w (LaidPost (n + 1) ((k, z) :: r) h w) := by
  subst h7
  have hx := hk (7, z) (by simp)
  obtain ⟨b, o1, cap, rfl, hcap, hrl, c0, c1, hrest⟩ := hv.first
  unfold kindOk at hx
  have hl9 : r.length ≤ n := by simpa using hl
  have hb9 : h + 2 * r.length + 2 ≤ 60 := by simp at hb; omega
  have HY : Hid (∀ u, Kept w u → u.cell? ⟨b, o1, none⟩ = some (.int .i64 7) ∧ u.cell? ⟨b, o1 + 1, none⟩ = some (.int .i64 z)) := hide (fun u hu => ⟨hu.cell c0, hu.cell c1⟩)
  have HR := hide hrest
  have HH := hide (show onlyS r (o - 1 + partsS 7) = true by simp only [onlyS] at h1; rwa [if_neg (by omega)] at h1)
  have HK := hide (show ∀ y ∈ r, kindOk y from fun y hy => hk y (by simp [hy]))
  clear hrest h1 hk hv c0 c1 hl hb
  obtain ⟨oa, hoa, hsl⟩ := cut_first b o1 r.length cap hcap
  have HOA := hide hoa
  clear hoa
  have h1i : (1 : Int) ≤ ((r.length + 1 : Nat) : Int) := by omega
  have h2i : (0 : Int) < ((r.length + 1 : Nat) : Int) := by omega
  go_enter Tryz.func57, Tryz.ntmps57
  go_wp2_with fail
  go_region_held3 (fun u => u.cell? ⟨b, o1, none⟩ = some (.int .i64 7) ∧ u.cell? ⟨b, o1 + 1, none⟩ = some (.int .i64 z)) (exact (unhide HY) _ (by repeat (first | exact Kept.refl _ | refine Kept.drew ?_ | refine Kept.alloc ?_ _ | refine Kept.setCell ?_ (by simp) _))) (fail)
  rename_i hheld
  clear hheld
  have HK1 : Hid (Kept w (w.alloc (.cells #[.int .i64 7, .int .i64 z] 100)).drew) := hide ((Kept.refl w).alloc _).drew
  have HNR : Hid (NodesAt (w.alloc (.cells #[.int .i64 7, .int .i64 z] 100)).drew (.slice oa r.length (cap - 1)) r) := hide (((unhide HR) (cap - 1) oa (by omega) (fun hne => (unhide HOA) (by simpa using hne))).kept (unhide HK1))
  have d0 : (w.alloc (.cells #[.int .i64 7, .int .i64 z] 100)).drew.cell? ⟨w.heap.size, 0, none⟩ = some (.int .i64 7) := cell_lays (lays_drew (lays_new rfl)) 0
  have d1 : (w.alloc (.cells #[.int .i64 7, .int .i64 z] 100)).drew.cell? ⟨w.heap.size, 1, none⟩ = some (.int .i64 z) := cell_lays (lays_drew (lays_new rfl)) 1
  have HSZ : Hid (w.heap.size ≤ w.heap.size) := hide (Nat.le_refl _)
  generalize (w.alloc (.cells #[.int .i64 7, .int .i64 z] 100)).drew = w1 at HK1 HNR d0 d1 ⊢
  clear HY HR hsl HSZ
  generalize w.heap.size = B at d0 d1 ⊢
  have h0 : (7 : Int) ≠ 0 := by omega
  have h1 : (7 : Int) ≠ 1 := by omega
  have hp : 2 ≤ partsS 7 := by decide
  have X1 := hide (lay_next n r (o - 1 + partsS 7) h hl9 (by omega) (unhide HH) (unhide HK))
  go_wp2_with fail
  refine ((unhide IH) r (o - 1 + partsS 7) h _ w1 hl9 (by omega) (unhide HH) (unhide HK) (by omega) (unhide HNR)).mono ?_
  rintro _ w2 ⟨cv2, v2, rfl, hc2, hn2, hk2⟩
  obtain ⟨g2, cp2, rfl, _, _, hr2⟩ := hc2.reads (unhide X1).2.2.2.1
  have d2 := hk2.cell d0
  have HK2 := hide ((unhide HK1).trans hk2)
  have HN2 := hide hn2
  have HR2 := hide hr2
  clear hn2 hk2 hc2 d0 d1 HK1 HNR hr2
  have hv : layS (n + 1) ((7, z) :: r) h = ((layS n r h).1 ++ ((10, ((h + (layS n r h).1.length + 1 + (layS n (layS n r h).2 (h + (layS n r h).1.length + 1)).1.length + 1 : Nat) : Int)) :: ((layS n (layS n r h).2 (h + (layS n r h).1.length + 1)).1 ++ ((9, ((h + (layS n r h).1.length + 1 + (layS n (layS n r h).2 (h + (layS n r h).1.length + 1)).1.length + 1 + (layS n (layS n (layS n r h).2 (h + (layS n r h).1.length + 1)).2 (h + (layS n r h).1.length + 1 + (layS n (layS n r h).2 (h + (layS n r h).1.length + 1)).1.length + 1)).1.length : Nat) : Int)) :: (layS n (layS n (layS n r h).2 (h + (layS n r h).1.length + 1)).2 (h + (layS n r h).1.length + 1 + (layS n (layS n r h).2 (h + (layS n r h).1.length + 1)).1.length + 1)).1))), (layS n (layS n (layS n r h).2 (h + (layS n r h).1.length + 1)).2 (h + (layS n r h).1.length + 1 + (layS n (layS n r h).2 (h + (layS n r h).1.length + 1)).1.length + 1)).2) := by
    conv => lhs; unfold layS
    rw [if_neg h0, if_neg h1, if_pos rfl]
  have hp3 : partsS 7 = 3 := rfl
  rw [hp3] at X1
  clear hp HH h0 h1 hp3 hx
  have HVS := hide hv
  clear hv
  generalize layS n r h = PA at X1 HN2 HR2 HVS ⊢
  obtain ⟨A, r1⟩ := PA
  simp only at X1 HN2 HR2 HVS ⊢
  obtain ⟨x1, x2, x3, x4, x5⟩ := unhide X1
  have X2 := hide (lay_next n r1 (o - 1 + 3 - 1) (h + A.length + 1) x1 (by omega) x2 x3)
  have HCB := hide ((unhide IH) r1 (o - 1 + 3 - 1) (h + A.length + 1) v2 w2 x1 (by omega) x2 x3 (by omega) (unhide HN2))
  clear x1 x2 x3 X1
  generalize hAL : A.length = la at *
  have HAL := hide hAL
  rw [show ((h + la + 1 : Nat) : Int) = (h : Int) + la + 1 by omega] at HCB
  clear hAL
  go_wp2_with fail
  refine (unhide HCB).mono ?_
  rintro _ w3 ⟨cv3, v3, rfl, hc3, hn3, hk3⟩
  obtain ⟨g3, cp3, rfl, _, _, hr3⟩ := hc3.reads (unhide X2).2.2.2.1
  replace HK2 := hide ((unhide HK2).trans hk3)
  replace HR2 : Hid (∀ j u, (flatOps A)[j]? = some u → w3.cell? ((⟨g2, 0, none⟩ : Addr).add j) = some u) := hide (fun j u hj => hk3.cell ((unhide HR2) j u hj))
  have HN3 := hide hn3
  have HR3 := hide hr3
  clear hn3 hk3 hc3 hr3 HN2 HCB d2
  generalize layS n r1 (h + la + 1) = PB at X2 HN3 HR3 HVS ⊢
  obtain ⟨Bl, r2⟩ := PB
  simp only at X2 HN3 HR3 HVS ⊢
  obtain ⟨x1, x2, x3, x4', x5'⟩ := unhide X2
  have X3 := hide (lay_next n r2 (o - 1 + 3 - 1 - 1) (h + la + 1 + Bl.length + 1) x1 (by omega) x2 x3)
  have HCC := hide ((unhide IH) r2 (o - 1 + 3 - 1 - 1) (h + la + 1 + Bl.length + 1) v3 w3 x1 (by omega) x2 x3 (by omega) (unhide HN3))
  clear x1 x2 x3 X2
  generalize hBL : Bl.length = lb at *
  have HBL := hide hBL
  rw [show ((h + la + 1 + lb + 1 : Nat) : Int) = (h : Int) + la + 1 + lb + 1 by omega] at HCC
  clear hBL
  go_wp2_with fail
  refine (unhide HCC).mono ?_
  rintro _ w4 ⟨cv4, v4, rfl, hc4, hn4, hk4⟩
  obtain ⟨g4, cp4, rfl, _, _, hr4⟩ := hc4.reads (unhide X3).2.2.2.1
  replace HK2 := hide ((unhide HK2).trans hk4)
  replace HR2 : Hid (∀ j u, (flatOps A)[j]? = some u → w4.cell? ((⟨g2, 0, none⟩ : Addr).add j) = some u) := hide (fun j u hj => hk4.cell ((unhide HR2) j u hj))
  replace HR3 : Hid (∀ j u, (flatOps Bl)[j]? = some u → w4.cell? ((⟨g3, 0, none⟩ : Addr).add j) = some u) := hide (fun j u hj => hk4.cell ((unhide HR3) j u hj))
  have HN4 := hide hn4
  have HR4 := hide hr4
  clear hn4 hk4 hc4 hr4 HN3 HCC
  generalize layS n r2 (h + la + 1 + lb + 1) = PC at X3 HN4 HR4 HVS ⊢
  obtain ⟨C, r3⟩ := PC
  simp only at X3 HN4 HR4 HVS ⊢
  have x5c := (unhide X3).2.2.2.2
  clear X3
  generalize hCL : C.length = lc at *
  have HCL := hide hCL
  clear hCL
  have hsum : la + lb + lc ≤ 60 := by omega
  clear x4 x4' x5 x5' x5c
  go_wp2_with (at_builtin; refine unhide ?_)
  refine hide ?_
  obtain ⟨q1, c1, y1, hr, ho1, hk1, -⟩ := app_ops (w0 := w4) ((Kept.refl w4).alloc (.cells #[] 44)) (OpsOwn.empty (lays_new rfl) (Nat.le_refl _)) ⟨g2, 0, none⟩ la cp2 A (unhide HAL).symm (fun j u hj => ((Kept.refl w4).alloc _).cell ((unhide HR2) j u hj)) (by have := unhide HAL; simp; omega)
  refine wpList_appR _ rfl (.tmp 71) (.tmp 72) 40 rfl rfl rfl hr ?_
  clear hr
  generalize hm1 : ([] ++ A).length = m1 at ho1 ⊢
  obtain rfl : la = m1 := by have := unhide HAL; simp at hm1; omega
  have HO1 := hide ho1
  have HK1 := hide hk1
  clear ho1 hk1 hm1
  go_wp2_with (at_builtin; refine unhide ?_)
  refine hide ?_
  obtain ⟨q2, c2, y2, hr, ho2, hk2, -⟩ := app_ops ((unhide HK1).alloc (.cells #[.int .i64 10, .int .i64 ((h : Int) + la + 1 + lb + 1)] 44)) ((unhide HO1).kept ((Kept.refl y1).alloc _)) ⟨y1.heap.size, 0, none⟩ 1 1 [(10, (h : Int) + la + 1 + lb + 1)] rfl (fTwo_new _ _ _ _) (by have := unhide HAL; simp; omega)
  refine wpList_appR _ rfl (.tmp 73) (.tmp 76) 40 rfl rfl rfl hr ?_
  clear hr
  generalize hm2 : ([] ++ A ++ [((10 : Int), (h : Int) + la + 1 + lb + 1)]).length = m2 at ho2 ⊢
  obtain rfl : la + 1 = m2 := by have := unhide HAL; simp at hm2; omega
  have HO2 := hide ho2
  replace HK1 := hide hk2
  clear ho2 hk2 hm2 HO1
  go_wp2_with (at_builtin; refine unhide ?_)
  refine hide ?_
  obtain ⟨q3, c3, y3, hr, ho3, hk3, -⟩ := app_ops (unhide HK1) (unhide HO2) ⟨g3, 0, none⟩ lb cp3 Bl (unhide HBL).symm (fun j u hj => (unhide HK1).cell ((unhide HR3) j u hj)) (by have := unhide HAL; have := unhide HBL; simp; omega)
  refine wpList_appR _ rfl (.tmp 78) (.tmp 79) 40 rfl rfl rfl hr ?_
  clear hr
  generalize hm3 : ([] ++ A ++ [((10 : Int), (h : Int) + la + 1 + lb + 1)] ++ Bl).length = m3 at ho3 ⊢
  obtain rfl : la + 1 + lb = m3 := by have := unhide HAL; have := unhide HBL; simp at hm3; omega
  have HO3 := hide ho3
  replace HK1 := hide hk3
  clear ho3 hk3 hm3 HO2
  go_wp2_with (at_builtin; refine unhide ?_)
  refine hide ?_
  obtain ⟨q4, c4, y4, hr, ho4, hk4, -⟩ := app_ops ((unhide HK1).alloc (.cells #[.int .i64 9, .int .i64 ((h : Int) + la + 1 + lb + 1 + lc)] 44)) ((unhide HO3).kept ((Kept.refl y3).alloc _)) ⟨y3.heap.size, 0, none⟩ 1 1 [(9, (h : Int) + la + 1 + lb + 1 + lc)] rfl (fTwo_new _ _ _ _) (by have := unhide HAL; have := unhide HBL; simp; omega)
  refine wpList_appR _ rfl (.tmp 80) (.tmp 86) 40 rfl rfl rfl hr ?_
  clear hr
  generalize hm4 : ([] ++ A ++ [((10 : Int), (h : Int) + la + 1 + lb + 1)] ++ Bl ++ [((9 : Int), (h : Int) + la + 1 + lb + 1 + lc)]).length = m4 at ho4 ⊢
  obtain rfl : la + 1 + lb + 1 = m4 := by have := unhide HAL; have := unhide HBL; simp at hm4; omega
  have HO4 := hide ho4
  replace HK1 := hide hk4
  clear ho4 hk4 hm4 HO3
  go_wp2_with (at_builtin; refine unhide ?_)
  refine hide ?_
  obtain ⟨q5, c5, y5, hr, ho5, hk5, -⟩ := app_ops (unhide HK1) (unhide HO4) ⟨g4, 0, none⟩ lc cp4 C (unhide HCL).symm (fun j u hj => (unhide HK1).cell ((unhide HR4) j u hj)) (by have := unhide HAL; have := unhide HBL; have := unhide HCL; simp; omega)
  refine wpList_appR _ rfl (.tmp 88) (.tmp 89) 40 rfl rfl rfl hr ?_
  clear hr
  generalize hm5 : ([] ++ A ++ [((10 : Int), (h : Int) + la + 1 + lb + 1)] ++ Bl ++ [((9 : Int), (h : Int) + la + 1 + lb + 1 + lc)] ++ C).length = m5 at ho5 ⊢
  have HM5 := hide hm5
  have HO5 := hide ho5
  replace HK1 := hide hk5
  clear ho5 hk5 hm5 HO4
  go_wp2_with fail
  go_ret2
  refine ⟨_, v4, rfl, ?_, ?_, (unhide HK2).trans (unhide HK1)⟩
  · rw [unhide HVS]
    have h5 := (unhide HO5).low (unhide HK2).size
    have e : [] ++ A ++ [((10 : Int), (h : Int) + la + 1 + lb + 1)] ++ Bl ++ [((9 : Int), (h : Int) + la + 1 + lb + 1 + lc)] ++ C = A ++ (10, ((h + la + 1 + lb + 1 : Nat) : Int)) :: (Bl ++ (9, ((h + la + 1 + lb + 1 + lc : Nat) : Int)) :: C) := by simp
    rw [e] at h5
    exact h5
  · rw [unhide HVS]; exact (unhide HN4).kept (unhide HK1)
end Go.Proofs.YtjioipkfnekigaaGreatDoor
