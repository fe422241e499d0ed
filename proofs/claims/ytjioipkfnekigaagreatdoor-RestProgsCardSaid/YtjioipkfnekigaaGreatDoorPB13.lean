/- ForgeC, ForgeL, TextS, App, TextA, TextB, TextCc -/
import Derived.Test.YtjioipkfnekigaaGreatDoorPB12
import Derived.Test.YtjioipkfnekigaaGreatDoorPB01
import Derived.Lib.Join
import Derived.Lib.ItoaNum
import Derived.Test.YtjioipkfnekigaaGreatDoorChecked
import Derived.Laws.AppendOwn
import Derived.Test.YtjioipkfnekigaaGreatDoorPB10
import Derived.Test.YtjioipkfnekigaaGreatDoorPB02
import Derived.Test.YtjioipkfnekigaaGreatDoorShelf
import Derived.Lib.LaidTab
import Derived.Maps.AppendAt
import Derived.Lib.Builder
set_option maxRecDepth 100000
set_option maxHeartbeats 8000000
namespace Go.Proofs.YtjioipkfnekigaaGreatDoor
open Go.RowKit Go.Maps
def FKinds (w : World) : Prop := ∀ (k : Nat) (v : Int), [(0 : Int), 2, 4, 5, 6, 7, 8][k]? = some v → w.cell? ⟨1, k, none⟩ = some (.int .i64 v)
theorem row_old {w : World} {base : Nat} {e : TypeId} {size : Nat} {v : Value} {n : Nat} {xs : List Value} (h : w.ownsRow base e size v n xs) : v.ownBlock ≠ some w.heap.size := by
  obtain ⟨hl, h0 | ⟨g, cap, cur, hv, hb, hg, _⟩⟩ := h
  · rw [h0.1]; intro e; cases e
  · rw [hv]
    intro e
    have h2 : g < w.heap.size := (Array.getElem?_eq_some_iff.1 hg).1
    cases e
    exact Nat.lt_irrefl _ h2
theorem SmAt.cut {w0 w : World} {B : Nat} {k z : Int} {r c : List (Int × Int)} (h : SmAt w0 w B ((k, z) :: r) c) : ∃ b o1 cap oa cv, r.length + 1 ≤ cap ∧ r.length ≤ 8796093022208 ∧
    w.heap[B]? = some (.cells #[.slice (some ⟨b, o1, none⟩) (r.length + 1) cap, cv] 75) ∧ w.cell? ⟨b, o1, none⟩ = some (.int .i64 k) ∧ w.cell? ⟨b, o1 + 1, none⟩ = some (.int .i64 z) ∧
    (∀ u, (Instr.sliceAt 35 (.slice (some ⟨b, o1, none⟩) (r.length + 1) cap) (some (.int .i64 1)) none none).run Tryz.prog u = .ok (.slice oa r.length (cap - 1)) u) ∧ cv.ownBlock ≠ some w.heap.size ∧
    SmAt w0 ((w.alloc (.cells #[.int .i64 k, .int .i64 z] 100)).setCell ⟨B, 0, none⟩ (.slice oa r.length (cap - 1))) B r c ∧
    SmK B w ((w.alloc (.cells #[.int .i64 k, .int .i64 z] 100)).setCell ⟨B, 0, none⟩ (.slice oa r.length (cap - 1))) ∧
    ((w.alloc (.cells #[.int .i64 k, .int .i64 z] 100)).setCell ⟨B, 0, none⟩ (.slice oa r.length (cap - 1))).heap[B]? = some (.cells #[.slice oa r.length (cap - 1), cv] 75) := by
  obtain ⟨lv, cv, hB, hlow, hnd, hrow, hoff, hk⟩ := h
  obtain ⟨b, o1, cap, rfl, hcap, hrl, c0, c1, hrest⟩ := hnd.first
  obtain ⟨oa, hoa, hsl⟩ := cut_first b o1 r.length cap hcap
  have hBlt : B < w.heap.size := (Array.getElem?_eq_some_iff.1 hB).1
  have hA := lays_alloc hB (.cells #[.int .i64 k, .int .i64 z] 100)
  have hS := lays_set hA 0 (.slice oa r.length (cap - 1))
  have hrow2 := ownsRow_setCell_other (hrow.alloc (.cells #[.int .i64 k, .int .i64 z] 100)) (a := ⟨B, 0, none⟩) hoff (.slice oa r.length (cap - 1))
  refine ⟨b, o1, cap, oa, cv, hcap, hrl, hB, hk.cell c0, hk.cell c1, hsl, row_old hrow, ⟨_, cv, hS, hlow, hrest (cap - 1) oa (by omega) (fun hne => hoa (by simpa using hne)), hrow2, hoff, (hk.alloc _).setCell hlow _⟩, ⟨?_, ?_⟩, hS⟩
  · simp [World.setCell]
  · intro b' cv' hb hn hc ho
    refine ⟨by rw [Below.heap_setCell _ _ _ _ hn, Below.heap_alloc _ _ _ hb], cv', ?_, ho⟩
    rw [cell_lays hS 1, ← hc, cell_lays hB 1]
    rfl
theorem smPart_step (w0 : World) (B n : Nat) (hf : Hid (FKinds w0)) (HP : Hid (PartC w0 B n)) : PartC w0 B (n + 1) := by
    intro o e c w hl ho h1 hk hz hc h
    obtain ⟨⟨k, z⟩, r, rfl⟩ : ∃ x r, e = x :: r := by
      cases e with
      | nil => simp [onlyS] at h1; omega
      | cons x r => exact ⟨x, r, rfl⟩
    have hx := hk (k, z) (by simp)
    have hy := hz (k, z) (by simp)
    unfold kindOk at hx
    obtain ⟨hx0, hx7⟩ := hx
    have hl9 : r.length ≤ n := by simpa using hl
    have HH := hide (show onlyS r (o - 1 + partsS k) = true by simp only [onlyS] at h1; rwa [if_neg (by omega)] at h1)
    have HK := hide (show ∀ y ∈ r, kindOk y from fun y hy => hk y (by simp [hy]))
    have HZ := hide (show ∀ y ∈ r, 2 ≤ y.1 → y.2 = 0 from fun y hy => hz y (by simp [hy]))
    have hc' : c.length + 2 * r.length + 2 ≤ 60 := by simp at hc; omega
    obtain ⟨b, o1, cap, oa, cv, hcap, hrl, hB, c0, c1, hsl, hcv, hS, hsm, hS1⟩ := h.cut
    have hBlt : B < w.heap.size := (Array.getElem?_eq_some_iff.1 hB).1
    have p0 : w.cell? ⟨B, 0, none⟩ = some (.slice (some ⟨b, o1, none⟩) (r.length + 1) cap) := cell_lays hB 0
    have hA := lays_alloc hB (.cells #[.int .i64 k, .int .i64 z] 100)
    have p1 : (w.alloc (.cells #[.int .i64 k, .int .i64 z] 100)).cell? ⟨B, 0, none⟩ = some (.slice (some ⟨b, o1, none⟩) (r.length + 1) cap) := cell_lays hA 0
    have f1 : (w.alloc (.cells #[.int .i64 k, .int .i64 z] 100)).frozen? ⟨B, 0, none⟩ = false := frozen_lays hA 0
    have l0 := lays_other (lays_new (w := w) (o := .cells #[.int .i64 k, .int .i64 z] 100) rfl) (a := ⟨B, 0, none⟩) (by simp; omega) (.slice oa r.length (cap - 1))
    have d0 := cell_lays l0 0
    have d1 := cell_lays l0 1
    have HD := hide l0
    have HS := hide hS
    have HSM := hide hsm
    have HS1 := hide (cell_lays hS1 1)
    have HCV := hide hcv
    have HBL := hide hBlt
    have h1i : (1 : Int) ≤ ((r.length + 1 : Nat) : Int) := by omega
    have h2i : (0 : Int) < ((r.length + 1 : Nat) : Int) := by omega
    clear hS hsm l0 hcv hA hB h h1 hk hz hl hc hS1 hBlt
    by_cases h0 : k = 0
    · have hv : valS [] (n + 1) ((k, z) :: r) = (z, r) := by unfold valS; rw [if_pos h0]
      have hlay : layS (n + 1) ((k, z) :: r) c.length = ([(0, z)], r) := by unfold layS; rw [if_pos h0]
      rw [hlay, show (valS [] (n + 1) ((k, z) :: r)).2 = r by rw [hv]]
      clear hv hlay
      subst h0
      have HC := hide (smPut_any w0 _ B r c 0 z (unhide HS).drew (by omega))
      have g0 : ((w.alloc (.cells #[.int .i64 0, .int .i64 z] 100)).setCell ⟨B, 0, none⟩ (.slice oa r.length (cap - 1))).cell? ⟨1, 0, none⟩ = some (.int .i64 0) := by
        obtain ⟨_, _, _, _, _, _, _, hkk⟩ := unhide HS
        exact hkk.cell (unhide hf 0 0 rfl)
      go_enter Tryz.func55, Tryz.ntmps55
      go_wp2_with fail
      generalize (w.alloc (.cells #[.int .i64 0, .int .i64 z] 100)).setCell ⟨B, 0, none⟩ (.slice oa r.length (cap - 1)) = w1 at HC HS d0 d1 g0 HD HSM HS1 ⊢
      have hXB : w.heap.size ≠ B := by have := unhide HBL; omega
      have HFX : Hid (∀ u, SmK B w1.drew u → u.heap[w.heap.size]? = some (.cells #[.int .i64 0, .int .i64 z] 100)) := hide (fun u hu => ((hu.2 w.heap.size cv (Array.getElem?_eq_some_iff.1 (unhide HD)).1 hXB (unhide HS1) (unhide HCV)).1).trans (unhide HD))
      generalize w.heap.size = X at HFX d0 d1 ⊢
      refine wp_region_held_drew (S := fun y => y.cell? ⟨X, 0, none⟩ = some (.int .i64 0) ∧ y.cell? ⟨X, 1, none⟩ = some (.int .i64 z) ∧ y.cell? ⟨1, 0, none⟩ = some (.int .i64 0)) (by kernel_rfl) ⟨d0, d1, g0⟩ (fun hHeld => ?_)
      refine planY [0, 1, 2, 3, 4, 5, 6] ?_
      repeat
        refine takeY (v := ?_) hHeld (fun u hSu => ?_) ?_
        rotate_left
        · (obtain ⟨y0, y1, y2⟩ := hSu; (try dsimp only at y0 y1 y2); go_simp) <;> with_reducible rfl
        try simp only [Act.put, List.setIfInBounds_toArray, List.set_cons_zero, List.set_cons_succ]
      refine endY ?_
      refine take_oneF (i := 7) rfl (by kernel_rfl) (fun K hK => ?_)
      go_simp
      refine (unhide HC).mono ?_
      rintro _ u ⟨rfl, su, tu⟩
      have HU := hide su
      have HTU := hide tu
      have bu := unhide HFX u tu
      clear su tu
      refine hK.out _ _ ⟨cell_lays bu 0, cell_lays bu 1, ?_⟩ (fun hHeld => ?_)
      · obtain ⟨_, _, _, _, _, _, _, hkk⟩ := unhide HU
        exact hkk.cell (unhide hf 0 0 rfl)
      refine wpAnyH_done (by kernel_rfl) ?_ _
      go_wp2_with fail
      first | go_end0 | refine bodyPost_ret (results_none rfl _ _ _) rfl ?_
      exact ⟨rfl, unhide HU, ((unhide HSM).trans (unhide HTU))⟩
    by_cases h1 : k = 1
    · have hv : valS [] (n + 1) ((k, z) :: r) = ([].getD z.toNat 0, r) := by unfold valS; rw [if_neg h0, if_pos h1]
      have hlay : layS (n + 1) ((k, z) :: r) c.length = ([(2, z)], r) := by unfold layS; rw [if_neg h0, if_pos h1]
      rw [hlay, show (valS [] (n + 1) ((k, z) :: r)).2 = r by rw [hv]]
      clear hv hlay
      subst h1
      have HC := hide (smPut_any w0 _ B r c 2 z (unhide HS).drew (by omega))
      have g0 : ((w.alloc (.cells #[.int .i64 1, .int .i64 z] 100)).setCell ⟨B, 0, none⟩ (.slice oa r.length (cap - 1))).cell? ⟨1, 1, none⟩ = some (.int .i64 2) := by
        obtain ⟨_, _, _, _, _, _, _, hkk⟩ := unhide HS
        exact hkk.cell (unhide hf 1 2 rfl)
      go_enter Tryz.func55, Tryz.ntmps55
      go_wp2_with fail
      generalize (w.alloc (.cells #[.int .i64 1, .int .i64 z] 100)).setCell ⟨B, 0, none⟩ (.slice oa r.length (cap - 1)) = w1 at HC HS d0 d1 g0 HD HSM HS1 ⊢
      have hXB : w.heap.size ≠ B := by have := unhide HBL; omega
      have HFX : Hid (∀ u, SmK B w1.drew u → u.heap[w.heap.size]? = some (.cells #[.int .i64 1, .int .i64 z] 100)) := hide (fun u hu => ((hu.2 w.heap.size cv (Array.getElem?_eq_some_iff.1 (unhide HD)).1 hXB (unhide HS1) (unhide HCV)).1).trans (unhide HD))
      generalize w.heap.size = X at HFX d0 d1 ⊢
      refine wp_region_held_drew (S := fun y => y.cell? ⟨X, 0, none⟩ = some (.int .i64 1) ∧ y.cell? ⟨X, 1, none⟩ = some (.int .i64 z) ∧ y.cell? ⟨1, 1, none⟩ = some (.int .i64 2)) (by kernel_rfl) ⟨d0, d1, g0⟩ (fun hHeld => ?_)
      refine planY [0, 1, 2, 3, 4, 5, 6] ?_
      repeat
        refine takeY (v := ?_) hHeld (fun u hSu => ?_) ?_
        rotate_left
        · (obtain ⟨y0, y1, y2⟩ := hSu; (try dsimp only at y0 y1 y2); go_simp) <;> with_reducible rfl
        try simp only [Act.put, List.setIfInBounds_toArray, List.set_cons_zero, List.set_cons_succ]
      refine endY ?_
      refine take_oneF (i := 7) rfl (by kernel_rfl) (fun K hK => ?_)
      go_simp
      refine (unhide HC).mono ?_
      rintro _ u ⟨rfl, su, tu⟩
      have HU := hide su
      have HTU := hide tu
      have bu := unhide HFX u tu
      clear su tu
      refine hK.out _ _ ⟨cell_lays bu 0, cell_lays bu 1, ?_⟩ (fun hHeld => ?_)
      · obtain ⟨_, _, _, _, _, _, _, hkk⟩ := unhide HU
        exact hkk.cell (unhide hf 1 2 rfl)
      refine wpAnyH_done (by kernel_rfl) ?_ _
      go_wp2_with fail
      first | go_end0 | refine bodyPost_ret (results_none rfl _ _ _) rfl ?_
      exact ⟨rfl, unhide HU, ((unhide HSM).trans (unhide HTU))⟩
    have hb0 : (k == 0) = false := beq_eq_false_iff_ne.2 h0
    have hb1 : (k == 1) = false := beq_eq_false_iff_ne.2 h1
    obtain ⟨_, _, a3⟩ := lay_hg n r c.length 0 []
    by_cases h7 : k = 7
    · have hv : (valS [] (n + 1) ((k, z) :: r)).2 = (valS [] n (valS [] n (valS [] n r).2).2).2 := by
        conv => lhs; unfold valS
        rw [if_neg h0, if_neg h1, if_pos h7]
      have hlay : (layS (n + 1) ((k, z) :: r) c.length).1 = ((layS n r c.length).1 ++ ((10, ((c.length + (layS n r c.length).1.length + 1 + (layS n (valS [] n r).2 (c.length + (layS n r c.length).1.length + 1)).1.length + 1 : Nat) : Int)) :: ((layS n (valS [] n r).2 (c.length + (layS n r c.length).1.length + 1)).1 ++ ((9, ((c.length + (layS n r c.length).1.length + 1 + (layS n (valS [] n r).2 (c.length + (layS n r c.length).1.length + 1)).1.length + 1 + (layS n (valS [] n (valS [] n r).2).2 (c.length + (layS n r c.length).1.length + 1 + (layS n (valS [] n r).2 (c.length + (layS n r c.length).1.length + 1)).1.length + 1)).1.length : Nat) : Int)) :: (layS n (valS [] n (valS [] n r).2).2 (c.length + (layS n r c.length).1.length + 1 + (layS n (valS [] n r).2 (c.length + (layS n r c.length).1.length + 1)).1.length + 1)).1)))) := by
        conv => lhs; unfold layS
        rw [if_neg h0, if_neg h1, if_pos h7]
        obtain ⟨_, _, b3⟩ := lay_hg n (valS [] n r).2 (c.length + (layS n r c.length).1.length + 1) 0 []
        simp only [a3, b3]
      rw [hlay, hv]
      clear hv hlay a3
      have hp : partsS k = 3 := by rw [h7]; rfl
      rw [hp] at HH
      clear hp hy
      subst h7
      have HC := hide (choice_any w0 B n HP (o - 1 + 3) r c _ hl9 (by omega) (unhide HH) (unhide HK) (unhide HZ) (by omega) (unhide HS))
      go_enter Tryz.func55, Tryz.ntmps55
      go_wp2_with fail
      refine (unhide HC).mono ?_
      rintro _ u ⟨rfl, su, tu⟩
      have HU := hide su
      have HTU := hide ((unhide HSM).trans tu)
      clear su tu HC
      go_wp2_with fail
      first | go_end0 | refine bodyPost_ret (results_none rfl _ _ _) rfl ?_
      exact ⟨rfl, unhide HU, unhide HTU⟩
    have hb7 : (k == 7) = false := beq_eq_false_iff_ne.2 h7
    have hv : (valS [] (n + 1) ((k, z) :: r)).2 = (valS [] n (valS [] n r).2).2 := by
      conv => lhs; unfold valS
      rw [if_neg h0, if_neg h1, if_neg h7]
    have hlay : (layS (n + 1) ((k, z) :: r) c.length).1 = (layS n r c.length).1 ++ ((layS n (valS [] n r).2 (c.length + (layS n r c.length).1.length)).1 ++ [(k + 2, 0)]) := by
      conv => lhs; unfold layS
      rw [if_neg h0, if_neg h1, if_neg h7]
      simp only [a3]
    rw [hlay, hv]
    clear hv hlay a3
    have hp : partsS k = 2 := by unfold partsS; rw [if_neg (by omega), if_pos (by omega)]
    rw [hp] at HH
    obtain rfl : z = 0 := hy (by show 2 ≤ k; omega)
    obtain ⟨kn, rfl⟩ : ∃ kn : Nat, k = kn := ⟨k.toNat, by omega⟩
    have HROW : Hid ([(0 : Int), 2, 4, 5, 6, 7, 8][kn]? = some ((kn : Int) + 2)) := hide (by
      have : kn = 2 ∨ kn = 3 ∨ kn = 4 ∨ kn = 5 ∨ kn = 6 := by omega
      rcases this with rfl | rfl | rfl | rfl | rfl <;> rfl)
    obtain ⟨j1, p1, q1, e1, o1'⟩ := val_rest [] n r (o - 1 + 2) hl9 (by omega) (unhide HH) (unhide HK)
    have k1 : ∀ y ∈ (valS [] n r).2, kindOk y := by rw [e1]; exact fun y hy => (unhide HK) y (List.mem_of_mem_drop hy)
    have x1 : ∀ y ∈ (valS [] n r).2, 2 ≤ y.1 → y.2 = 0 := by rw [e1]; exact fun y hy => (unhide HZ) y (List.mem_of_mem_drop hy)
    have w1' : (valS [] n r).2.length = r.length - j1 := by rw [e1]; simp
    have m1 := lay_len n r (o - 1 + 2) c.length hl9 (by omega) (unhide HH) (unhide HK)
    have m2 := lay_len n (valS [] n r).2 (o - 1 + 2 - 1) (c.length + (layS n r c.length).1.length) (by omega) (by omega) o1' k1
    have H1 := hide ((unhide HP) (o - 1 + 2) r c _ hl9 (by omega) (unhide HH) (unhide HK) (unhide HZ) (by omega) (unhide HS))
    have HP2 : Hid (∀ cc u, cc.length = c.length + (layS n r c.length).1.length → SmAt w0 u B (valS [] n r).2 cc → _) := hide (fun cc u hcc hu => (unhide HP) (o - 1 + 2 - 1) (valS [] n r).2 cc u (by omega) (by omega) o1' k1 x1 (by omega) hu)
    generalize hA : (layS n r c.length).1 = A at *
    generalize hD : (layS n (valS [] n r).2 (c.length + A.length)).1 = D at *
    generalize valS [] n r = V1 at *
    generalize valS [] n V1.2 = V2 at *
    have hcap2 : c.length + A.length + D.length ≤ 60 := by omega
    have HAD := hide hD
    have hn0 : (0 : Int) ≤ (kn : Int) := by omega
    have hn7 : (kn : Int) < 7 := by omega
    clear hA hD m1 m2 e1 o1' k1 x1 HH HK HZ p1 q1 w1' hp hy h0 h1 h7 ho
    have hl1 : (c ++ A).length = c.length + A.length := by rw [List.length_append]
    go_enter Tryz.func55, Tryz.ntmps55
    go_wp2_with fail
    generalize (w.alloc (.cells #[.int .i64 (kn : Int), .int .i64 0] 100)).setCell ⟨B, 0, none⟩ (.slice oa r.length (cap - 1)) = w1 at H1 HS d0 d1 HD HSM HS1 ⊢
    refine (unhide H1).mono ?_
    rintro _ u1 ⟨rfl, s1, t1⟩
    have H2 := hide ((unhide HP2) _ u1 hl1 s1)
    rw [hl1, unhide HAD] at H2
    have HT1 := hide t1
    clear s1 t1 H1 HP2
    go_wp2_with fail
    refine (unhide H2).mono ?_
    rintro _ u2 ⟨rfl, s2, t2⟩
    have hXB : w.heap.size ≠ B := by have := unhide HBL; omega
    have HT2 := hide ((unhide HT1).trans t2)
    have HFX : Hid (∀ u, SmK B u2.drew u → u.heap[w.heap.size]? = some (.cells #[.int .i64 (kn : Int), .int .i64 0] 100)) := hide (fun u hu => (((((unhide HT2).drew).trans hu).2 w.heap.size cv (Array.getElem?_eq_some_iff.1 (unhide HD)).1 hXB (unhide HS1) (unhide HCV)).1).trans (unhide HD))
    have b2 : u2.heap[w.heap.size]? = some (.cells #[.int .i64 (kn : Int), .int .i64 0] 100) := (((unhide HT2).2 w.heap.size cv (Array.getElem?_eq_some_iff.1 (unhide HD)).1 hXB (unhide HS1) (unhide HCV)).1).trans (unhide HD)
    clear d0 d1
    have d0 := cell_lays b2 0
    have d1 := cell_lays b2 1
    have g0 : u2.cell? ⟨1, kn, none⟩ = some (.int .i64 ((kn : Int) + 2)) := by
      obtain ⟨_, _, _, _, _, _, _, hkk⟩ := id s2
      exact hkk.cell (unhide hf kn ((kn : Int) + 2) (unhide HROW))
    have HC := hide (smPut_any w0 _ B V2.2 _ ((kn : Int) + 2) 0 s2.drew (by simp only [List.length_append]; omega))
    clear s2 t2 H2 b2 HT1
    generalize w.heap.size = X at HFX d0 d1 ⊢
    go_wp2_with fail
    refine wp_region_held_drew (S := fun y => y.cell? ⟨X, 0, none⟩ = some (.int .i64 (kn : Int)) ∧ y.cell? ⟨X, 1, none⟩ = some (.int .i64 0) ∧ y.cell? ⟨1, kn, none⟩ = some (.int .i64 ((kn : Int) + 2))) (by kernel_rfl) ⟨d0, d1, g0⟩ (fun hHeld => ?_)
    refine planY [0, 1, 2, 3, 4, 5, 6] ?_
    repeat
      refine takeY (v := ?_) hHeld (fun u hSu => ?_) ?_
      rotate_left
      · (obtain ⟨y0, y1, y2⟩ := hSu; (try dsimp only at y0 y1 y2); go_simp) <;> with_reducible rfl
      try simp only [Act.put, List.setIfInBounds_toArray, List.set_cons_zero, List.set_cons_succ]
    refine endY ?_
    refine take_oneF (i := 7) rfl (by kernel_rfl) (fun K hK => ?_)
    go_simp
    refine (unhide HC).mono ?_
    rintro _ u ⟨rfl, su, tu⟩
    have HU := hide su
    have HTU := hide tu
    have bu := unhide HFX u tu
    clear su tu
    refine hK.out _ _ ⟨cell_lays bu 0, cell_lays bu 1, ?_⟩ (fun hHeld => ?_)
    · obtain ⟨_, _, _, _, _, _, _, hkk⟩ := unhide HU
      exact hkk.cell (unhide hf kn ((kn : Int) + 2) (unhide HROW))
    refine wpAnyH_done (by kernel_rfl) ?_ _
    go_wp2_with fail
    first | go_end0 | refine bodyPost_ret (results_none rfl _ _ _) rfl ?_
    refine ⟨rfl, ?_, ((unhide HSM).trans (unhide HT2)).trans (unhide HTU)⟩
    have h9 := unhide HU
    rwa [List.append_assoc, List.append_assoc] at h9
theorem smPart_any (w0 : World) (B : Nat) (hf : Hid (FKinds w0)) : ∀ n, PartC w0 B n
  | 0 => fun o e c w hl ho h1 _ _ _ _ => by
    obtain rfl : e = [] := List.length_eq_zero_iff.1 (by omega)
    simp [onlyS] at h1
    omega
  | n + 1 => smPart_step w0 B n hf (hide (smPart_any w0 B hf n))
open Go.RowKit Go.ChangeShapes Go.WideShapes Go.ChangeAt
theorem gForge : Tryz.prog.globalNamed "glebe/forge.kinds" = some 1 := by kernel_rfl
theorem gForgeType : (Tryz.prog.globals[1]?).map (·.type) = some 127 := by kernel_rfl
theorem forge_laid {W : World} (h : laidMetH Tryz.prog [("glebe/forge.kinds", Rows.laid_glebe_forge_kinds), ("glebe/op.kinds", Rows.laid_glebe_op_kinds)] W) : FKinds W ∧ KindsAt W := by
  obtain ⟨ps, ⟨g', t', cs, fuel, p, q, hg', ht', hvar, hd, hrest, hps⟩, hnd, hcl⟩ := (h : laidMet Tryz.prog [("glebe/forge.kinds", Rows.laid_glebe_forge_kinds), ("glebe/op.kinds", Rows.laid_glebe_op_kinds)] W)
  subst hps
  have h2 : KindsAt W := kinds_of_laid (show laidMet Tryz.prog [("glebe/op.kinds", Rows.laid_glebe_op_kinds)] W from ⟨q, hrest, (List.nodup_append.1 hnd).2.1, fun b off hb => hcl b off (List.mem_append_right _ hb)⟩)
  refine ⟨?_, h2⟩
  clear h2 hrest hnd hcl
  obtain rfl := Option.some.inj (gForge.symm.trans hg')
  obtain rfl := Option.some.inj (gForgeType.symm.trans ht')
  obtain ⟨xs, m, _, hx, _, hxl, hi⟩ := DataW.trod_array Tryz.underlying127 hd
  have hagg : (Rows.laid_glebe_forge_kinds : DataW Unit) = .agg (xs.map (·.1)) := congrArg Prod.fst hx
  unfold Rows.laid_glebe_forge_kinds at hagg
  have hag := DataW.agg.inj hagg
  intro k v hv
  have hk : k < 7 := (List.getElem?_eq_some_iff.1 hv).1
  rw [World.var?_cell gForge hvar k]
  have hl : (xs[k]?).map (·.1) = some (.lit (.int .i64 v)) := by
    rw [← List.getElem?_map, ← hag]
    have : k = 0 ∨ k = 1 ∨ k = 2 ∨ k = 3 ∨ k = 4 ∨ k = 5 ∨ k = 6 := by omega
    rcases this with rfl | rfl | rfl | rfl | rfl | rfl | rfl <;> (simp at hv; subst hv; rfl)
  have h1 := hi k hk
  obtain ⟨x, hxi, hx1⟩ := Option.map_eq_some_iff.1 hl
  rw [hxi, cellsInt] at h1
  obtain ⟨z0, e0, r0, _⟩ := DataW.trod_int Tryz.underlying3 h1
  rw [r0] at hx1
  simp at hx1
  subst hx1
  have := congrArg (·[0]?) e0
  simpa [List.getElem?_take, List.getElem?_drop] using this
def tkS : List (List UInt8 × Nat) := [([112, 117, 115, 104], 1), ([112, 111, 112], 0), ([108, 111, 97, 100], 1), ([115, 116, 111, 114, 101], 1), ([97, 100, 100], 0), ([115, 117, 98], 0), ([109, 117, 108], 0), ([108, 101, 115, 115], 0), ([115, 97, 109, 101], 0), ([106, 117, 109, 112], 1), ([122, 101, 114, 111], 1), ([99, 97, 108, 108], 1), ([114, 101, 116, 117, 114, 110], 0), ([109, 97, 107, 101], 1), ([114, 101, 115, 117, 109, 101], 0), ([121, 105, 101, 108, 100], 0), ([112, 117, 116], 0)]
def lineT (word : List UInt8) (l : List Int) : List UInt8 := Lib.join (word :: l.map Lib.itoa) [32] ++ [10]
def opT (x : Int × Int) : List UInt8 := if (tkS.getD x.1.toNat ([], 0)).2 = 0 then lineT (tkS.getD x.1.toNat ([], 0)).1 [] else lineT (tkS.getD x.1.toNat ([], 0)).1 [x.2]
def fnT (f : Fn) : List UInt8 := lineT [102, 117, 110, 99] [f.args, f.locals] ++ f.code.flatMap opT
def showT (p : List Fn) : List UInt8 := p.flatMap fnT
open Go.RowKit
theorem wp_appR {o : Oper} {a : Act} {K : Act → World → Prop} {Q : Exit → Act → World → Prop} (w : World) (s x : Operand) (t : TypeId)
    (ho : o.op = .call { callee := .builtin .append, args := #[s, x], argTypes := #[t, t] }) {v u v' : Value} {w' : World} (hs : a.eval s = v) (hx : a.eval x = u)
    (hr : (Builtin.append_ #[t, t] o.type #[v, u]).run Tryz.prog w = .ok v' w') (h : K (a.put o.dst v') w') : o.wp Tryz.prog a w K Q := by
  unfold Oper.wp execOp
  simp only [ho, resolve, invoke, builtin, Sem.run_bind, Sem.run_pure, Result.andThen_ok, List.map_toArray, List.map_cons, List.map_nil, hs, hx, hr]
  exact h
theorem wpList_appR {ops : Array Oper} {rest : List Oper} {o : Oper} {a : Act} {Q : Exit → Act → World → Prop} (w : World) (hgd : o.guard = none) (s x : Operand) (t : TypeId)
    (ho : o.op = .call { callee := .builtin .append, args := #[s, x], argTypes := #[t, t] }) {v u v' : Value} {w' : World} (hs : a.eval s = v) (hx : a.eval x = u)
    (hr : (Builtin.append_ #[t, t] o.type #[v, u]).run Tryz.prog w = .ok v' w') (h : wpList Tryz.prog ops Q rest (a.put o.dst v') w') : wpList Tryz.prog ops Q (o :: rest) a w :=
  wpList_plain hgd fun _ hK => wp_appR w s x t ho hs hx hr (hK _ _ h)
theorem step_appR {ops : Array Oper} {o : Oper} {a : Act} {K : Act → World → Prop} {Q : Exit → Act → World → Prop} {E : Prop} (w : World) (hgd : o.guard = none) (s x : Operand) (t : TypeId)
    (ho : o.op = .call { callee := .builtin .append, args := #[s, x], argTypes := #[t, t] }) {v u v' : Value} {w' : World} (hs : a.eval s = v) (hx : a.eval x = u)
    (hr : (Builtin.append_ #[t, t] o.type #[v, u]).run Tryz.prog w = .ok v' w') (h : K (a.put o.dst v') w') : if Region.wanted o (yielded ops a.tmps) = true then Oper.wp Tryz.prog o a w K Q else E := by
  rw [if_pos (by simp [Region.wanted, hgd])]
  exact wp_appR w s x t ho hs hx hr h
def TabW (w : World) : Prop := Lib.TabIs Tryz.prog w "internal/strconv.uint64pow10" .u64 Lib.pow10Tab
theorem TabW.kept {w w' : World} (h : TabW w) (k : Kept w w') : TabW w' := by
  have hg : Tryz.prog.globalNamed "internal/strconv.uint64pow10" = some 4 := by kernel_rfl
  unfold TabW Lib.TabIs World.var? at h ⊢
  rw [hg] at h ⊢
  simp only [Option.bind_some] at h ⊢
  have hlt : 4 < w.heap.size := by
    cases hq : w.heap[4]? with
    | none => rw [hq] at h; cases h
    | some o => exact (Array.getElem?_eq_some_iff.1 hq).1
  rw [k.block _ hlt]
  exact h
theorem grow_kept (w : World) (k : Nat) (os : Array Obj) : Kept w (Sort.grow (w.drewN k) os) :=
  ⟨rfl, rfl, rfl, by simp [Sort.grow], fun g hg => by simp [Sort.grow, Array.getElem?_append, hg]⟩
def I64 (z : Int) : Prop := -9223372036854775808 ≤ z ∧ z ≤ 9223372036854775807
theorem itoa_any (w : World) (z : Int) (hz : I64 z) (ht : TabW w) : Calls Tryz.prog 65 #[.int .i64 z] w fun e w' => e = .returned (.string ⟨(Lib.itoa z).toArray⟩) ∧ Kept w w' :=
  (Tryz.strconv_Itoa z hz.1 hz.2 w ht).mono fun _ _ ⟨h1, k, os, h2⟩ => ⟨h1, h2 ▸ grow_kept w k os⟩
theorem strInfo : (Tryz.prog.info? 9).map (fun i => (i.zero, i.size, i.bytes)) = some (some (.string ⟨#[]⟩), 1, 16) := by kernel_rfl
theorem made_strs (m : Nat) : madeCells #[Value.string ⟨#[]⟩] (m * 1) = Array.replicate m (Value.string ⟨#[]⟩) := by
  apply Array.ext
  · simp [madeCells]
  · intro i h1 h2
    simp [madeCells, Nat.mod_one]
theorem make_strs (m : Nat) (hm : m ≤ 1000000) (u : World) : (Instr.makeSlice 62 (.int .i64 m) (.int .i64 m)).run Tryz.prog u =
    .ok (.slice (some ⟨u.heap.size, 0, none⟩) m m) (u.alloc (.cells (Array.replicate m (Value.string ⟨#[]⟩)) 9)) := by
  obtain ⟨i0, hi, hz0, hz1, hz2⟩ := info_parts strInfo
  have h := run_make (P := Tryz.prog) u 62 9 i0 (.string ⟨#[]⟩) Tryz.underlying62 hi hz0 .i64 .i64 (m : Int) (m : Int) (by omega) (Int.le_refl _) (by rw [hz2]; omega) (by omega)
  rw [Int.toNat_natCast] at h
  rw [← made_strs]
  simpa [hz1, Value.cells] using h
def strV (l : List UInt8) : Value := .string ⟨l.toArray⟩
def StrsAt (w : World) (g : Nat) (l : List (List UInt8)) : Prop := ∃ cur, w.heap[g]? = some (.cells cur 9) ∧ cur.size = l.length ∧ ∀ (i : Nat) x, l[i]? = some x → cur[i]? = some (strV x)
theorem numbers_any (w : World) (vl : Value) (l : List Int) (h : IntsW w vl l) (hl : l.length ≤ 1000) (hz : ∀ z ∈ l, I64 z) (ht : TabW w) :
    Calls Tryz.prog 43 #[vl] w fun e w' => ∃ g, e = .returned (.slice (some ⟨g, 0, none⟩) l.length l.length) ∧ StrsAt w' g (l.map Lib.itoa) ∧ w.heap.size ≤ g ∧ Kept w w' := by
  obtain ⟨oa, cap, rfl, hn, hi⟩ := h
  have hmk := make_strs l.length (by omega)
  generalize hN : l.length = n at *
  have HN := hide hN
  have HI := hide hi
  have HT := hide ht
  have HZ := hide hz
  have H1 : Hid (∃ cur, (w.alloc (.cells (Array.replicate n (Value.string ⟨#[]⟩)) 9)).heap[w.heap.size]? = some (.cells cur 9) ∧ cur.size = n ∧ (∀ (i : Nat) z, i < 0 → l[i]? = some z → cur[i]? = some (strV (Lib.itoa z))) ∧ Kept w (w.alloc (.cells (Array.replicate n (Value.string ⟨#[]⟩)) 9))) := hide ⟨_, lays_new rfl, by simp, fun i z h0 => by omega, (Kept.refl w).alloc _⟩
  have HG : Hid (w.heap.size ≤ w.heap.size) := hide (Nat.le_refl _)
  clear hi hN hn ht hz
  go_enter Tryz.func43, Tryz.ntmps43
  go_wp2_with fail
  generalize w.alloc (.cells (Array.replicate n (Value.string ⟨#[]⟩)) 9) = wm at H1 ⊢
  obtain ⟨G, hG⟩ : ∃ G, G = w.heap.size := ⟨_, rfl⟩
  rw [← hG] at H1 ⊢
  replace HG : Hid (w.heap.size ≤ G) := hide (by omega)
  clear hG hmk
  go_loopw [11] (fun s11 wr => ∃ k : Nat, k ≤ n ∧ s11 = .int .i64 k ∧ Hid (∃ cur, wr.heap[G]? = some (.cells cur 9) ∧ cur.size = n ∧ (∀ (i : Nat) z, i < k → l[i]? = some z → cur[i]? = some (strV (Lib.itoa z))) ∧ Kept w wr)) (fun s11 _ => n - (intOf s11).toNat)
  case atStart =>
    obtain ⟨cur, hh⟩ := unhide H1
    exact ⟨0, Nat.zero_le _, rfl, hide ⟨cur, hh⟩⟩
  case round =>
    obtain ⟨k, hkm, rfl, HW⟩ := hrel
    clear H1
    by_cases hk : k < n
    · obtain ⟨cur, a3, a4, a5, a6⟩ := unhide HW
      obtain ⟨x, hx⟩ : ∃ x, l[k]? = some x := ⟨_, List.getElem?_eq_getElem (by rw [unhide HN]; exact hk)⟩
      obtain ⟨b, o, rfl, c0⟩ := (unhide HI) k x hx
      replace c0 := a6.cell c0
      have hk0 : (0 : Int) ≤ (k : Int) := by omega
      have hk1 : (k : Int) < (n : Int) := by omega
      have HC := hide (itoa_any wr x ((unhide HZ) x (List.mem_of_getElem? hx)) ((unhide HT).kept a6))
      have HX := hide hx
      have HA := hide (And.intro a3 (And.intro a4 (And.intro a5 a6)))
      clear hx a3 a4 a5 a6 HW
      go_wp2_with fail
      refine (unhide HC).mono ?_
      rintro _ w2 ⟨rfl, k2⟩
      obtain ⟨a3, a4, a5, a6⟩ := unhide HA
      have g2 := lays_kept k2 a3
      obtain ⟨d1, c1⟩ : ∃ d, w2.cell? ⟨G, k, none⟩ = some d := ⟨_, (cell_lays g2 k).trans (Array.getElem?_eq_getElem (by omega))⟩
      have f1 := frozen_lays g2 k
      have HN2 : Hid (∃ cur, (w2.setCell ⟨G, k, none⟩ (.string ⟨(Lib.itoa x).toArray⟩)).heap[G]? = some (.cells cur 9) ∧ cur.size = n ∧ (∀ (i : Nat) z, i < k + 1 → l[i]? = some z → cur[i]? = some (strV (Lib.itoa z))) ∧ Kept w (w2.setCell ⟨G, k, none⟩ (.string ⟨(Lib.itoa x).toArray⟩))) := hide (by
        refine ⟨cur.setIfInBounds k (.string ⟨(Lib.itoa x).toArray⟩), lays_set g2 k _, by simp [a4], fun i y hi hy => ?_, (a6.trans k2).setCell (p := ⟨G, k, none⟩) (unhide HG) _⟩
        rw [Array.getElem?_setIfInBounds]
        by_cases hik : i = k
        · subst hik
          rw [if_pos rfl, if_pos (by omega)]
          rw [unhide HX] at hy
          cases hy
          rfl
        · rw [if_neg (fun e => hik e.symm)]
          exact a5 i y (by omega) hy)
      generalize (ByteArray.mk (Lib.itoa x).toArray) = S at *
      clear a3 a4 a5 a6 g2 k2 HA HC c0
      go_wp2_with fail
      go_roundw
      case rel => exact ⟨k + 1, by omega, by go_num, HN2⟩
      case measure => simp [intOf]; omega
    · obtain rfl : k = n := by omega
      go_wp2
      go_ret
      obtain ⟨cur, a3, a4, a5, a6⟩ := unhide HW
      refine ⟨G, rfl, ⟨cur, a3, by simp [a4, unhide HN], fun i x hx => ?_⟩, unhide HG, a6⟩
      rw [List.getElem?_map, Option.map_eq_some_iff] at hx
      obtain ⟨z, hz, rfl⟩ := hx
      exact a5 i z (by have := (List.getElem?_eq_some_iff.1 hz).1; have := unhide HN; omega) hz
theorem strs_app (a b : List UInt8) : (ByteArray.mk a.toArray) ++ (ByteArray.mk b.toArray) = ⟨(a ++ b).toArray⟩ := by
  apply ByteArray.ext
  simp
theorem flat_strs (xs : List (List UInt8)) : (xs.map (fun x => ByteArray.mk x.toArray)).map (·.data.toList) = xs := by simp [Function.comp_def]
theorem wLine_any (w : World) (g c : Nat) (xs : List (List UInt8)) (hc : xs.length ≤ c) (h : ∀ (j : Nat) x, xs[j]? = some x → w.cell? ⟨g, j, none⟩ = some (strV x)) (hg : g < w.heap.size) (hl : (Lib.join xs [32]).length ≤ 1000000) (hx : xs.length ≤ 1000) :
    Calls Tryz.prog 42 #[.slice (some ⟨g, 0, none⟩) xs.length c] w fun e w' => e = .returned (strV (Lib.join xs [32] ++ [10])) ∧ Kept w w' := by
  have HC : Hid (Calls Tryz.prog 64 #[.slice (some ⟨g, 0, none⟩) xs.length c, .string ⟨#[32]⟩] w fun e w' => e = .returned (.string ⟨(Lib.join xs [32]).toArray⟩) ∧ Kept w w') := hide (by
    have := Tryz.strings_Join g 0 c (xs.map (fun x => ByteArray.mk x.toArray)) ⟨#[32]⟩ w (fun j x hj => by
      rw [List.getElem?_map, Option.map_eq_some_iff] at hj
      obtain ⟨y, hy, rfl⟩ := hj
      rw [Nat.zero_add]
      exact h j y hy) hg (by simp; omega) (by simpa using hc) (by rw [flat_strs]; exact Nat.le_trans hl (by omega))
    rw [flat_strs, List.length_map] at this
    exact this)
  have hE := strs_app (Lib.join xs [32]) [10]
  have hJ : ¬ 9223372036854775807 < (ByteArray.mk (Lib.join xs [32]).toArray).size + 1 := by rw [show (ByteArray.mk (Lib.join xs [32]).toArray).size = (Lib.join xs [32]).length by simp [ByteArray.size]]; omega
  unfold strV
  generalize (ByteArray.mk (Lib.join xs [32]).toArray) = J at *
  generalize (ByteArray.mk (Lib.join xs [32] ++ [10]).toArray) = R at *
  generalize xs.length = n at *
  clear h hl hx hc
  go_enter Tryz.func42, Tryz.ntmps42
  go_wp2_with fail
  refine (unhide HC).mono ?_
  rintro _ w2 ⟨rfl, k2⟩
  have HK := hide k2
  clear k2 HC
  go_wp2_with fail
  go_ret
  exact ⟨rfl, unhide HK⟩
theorem join_len (xs : List (List UInt8)) (k : Nat) (h : ∀ x ∈ xs, x.length ≤ k) : (Lib.join xs [32]).length ≤ xs.length * (k + 1) := by
  induction xs with
  | nil => simp [Lib.join]
  | cons x xs ih =>
    have h1 := h x (by simp)
    have h2 := ih (fun y hy => h y (by simp [hy]))
    cases xs with
    | nil => simp [Lib.join, List.intercalate] at *; omega
    | cons y ys =>
      simp only [Lib.join, List.intercalate, List.intersperse, List.flatten_cons, List.length_append, List.length_cons, List.length_nil] at *
      rw [Nat.add_mul]
      omega
theorem dec_len (n : Nat) : ∀ k, n < 10 ^ k → 0 < k → (Lib.decDigits n).length ≤ k := by
  intro k
  induction k generalizing n with
  | zero => intro _ h; omega
  | succ k ih =>
    intro h _
    unfold Lib.decDigits
    split
    · simp
    · have h1 : n / 10 < 10 ^ k := by rw [Nat.pow_succ] at h; omega
      have h2 : 0 < k := by
        cases k with
        | zero => simp at h; omega
        | succ k => omega
      have := ih (n / 10) h1 h2
      simp
      omega
theorem itoa_len {z : Int} (h : I64 z) : (Lib.itoa z).length ≤ 20 := by
  unfold Lib.itoa
  obtain ⟨h1, h2⟩ := h
  split
  · have := dec_len z.natAbs 19 (by simp; omega) (by omega)
    simp
    omega
  · have := dec_len z.toNat 19 (by simp; omega) (by omega)
    omega
theorem row_same' {w w' : World} {base : Nat} {e : TypeId} {size : Nat} {v : Value} {n : Nat} {xs : List Value} (h : w.ownsRow base e size v n xs) (k : Kept w w') : w'.ownsRow base e size v n xs := by
  refine ⟨h.1, ?_⟩
  rcases h.2 with hn | ⟨g, cap, cur, rfl, hb, hgg, rest⟩
  · exact .inl hn
  · exact .inr ⟨g, cap, cur, rfl, hb, lays_kept k hgg, rest⟩
theorem tLine_any (w : World) (word : List UInt8) (vl : Value) (l : List Int) (h : IntsW w vl l) (hw : word.length ≤ 1000) (hl : l.length ≤ 10) (hz : ∀ z ∈ l, I64 z) (ht : TabW w) :
    Calls Tryz.prog 19 #[.string ⟨word.toArray⟩, vl] w fun e w' => e = .returned (strV (lineT word l)) ∧ Kept w w' := by
  obtain ⟨i0, hi0, hz0, hz1, hz2⟩ := info_parts strInfo
  have HC := hide (numbers_any (w.alloc (.cells #[.string ⟨word.toArray⟩] 9)) vl l (h.kept ((Kept.refl w).alloc _)) (by omega) hz (ht.kept ((Kept.refl w).alloc _)))
  have HRW : Hid ((w.alloc (.cells #[.string ⟨word.toArray⟩] 9)).ownsRow w.heap.size 9 1 (.slice (some ⟨w.heap.size, 0, none⟩) 1 1) 1 [strV word]) := hide ⟨rfl, .inr ⟨w.heap.size, 1, _, rfl, Nat.le_refl _, lays_new rfl, Nat.le_refl _, by unfold maxLen; omega, rfl, rfl⟩⟩
  have HLJ : Hid ((Lib.join (word :: l.map Lib.itoa) [32]).length ≤ 1000000) := hide (by
    have := join_len (word :: l.map Lib.itoa) 1000 (fun x hx => by
      rcases List.mem_cons.1 hx with rfl | hx
      · exact hw
      · obtain ⟨z, hz', rfl⟩ := List.mem_map.1 hx
        have := itoa_len (hz z hz')
        omega)
    simp only [List.length_cons, List.length_map] at this
    have h2 : (l.length + 1) * (1000 + 1) ≤ 11 * 1001 := Nat.mul_le_mul (by omega) (by omega)
    omega)
  unfold lineT
  obtain ⟨oa, cap, rfl, _⟩ := h
  generalize hN : l.length = n at *
  have HN := hide hN
  clear hz ht hw hN
  generalize (ByteArray.mk word.toArray) = WD at *
  go_enter Tryz.func19, Tryz.ntmps19
  go_wp2_with fail
  refine (unhide HC).mono ?_
  rintro _ w2 ⟨g, rfl, ⟨cur, h2, hs, hc⟩, hge, k2⟩
  obtain ⟨v3, w3, hrun, hown, hgrow, _, _⟩ := run_append_own_at (P := Tryz.prog) (w := w2) w.heap.size 62 62 9 i0 _ 1 16 Tryz.underlying62 hi0 hz0 hz1 hz2 rfl (by decide) _ 1 [strV word] (row_same' (unhide HRW) k2) ⟨g, 0, none⟩ n n ((l.map Lib.itoa).map strV) (by simp [unhide HN]) (fun j u hj => by
      have : ((⟨g, 0, none⟩ : Addr).add j) = ⟨g, j, none⟩ := by unfold Addr.add; split <;> simp_all
      rw [this, cell_lays h2]
      rw [List.getElem?_map, Option.map_eq_some_iff] at hj
      obtain ⟨x, hx, rfl⟩ := hj
      exact hc j x hx) (fun u hu => by
      obtain ⟨x, _, rfl⟩ := List.mem_map.1 hu
      rfl) (by unfold maxLen; omega) (by omega) (by have := k2.size; simp at this; omega)
  have hK3 : Kept w w3 := Below.grown (a := w) (w := w2) ((Kept.refl w).alloc _ |>.trans k2) hgrow (by have := k2.size; simp at this; omega) (fun g hg => (World.ownsRow.lt (row_same' (unhide HRW) k2) g hg).1)
  obtain ⟨g3, cap3, cur3, rfl, hg3, hcap3, hcur3⟩ : ∃ g3 cap3 cur3, v3 = .slice (some ⟨g3, 0, none⟩) (1 + n) cap3 ∧ w3.heap[g3]? = some (.cells cur3 9) ∧ 1 + n ≤ cap3 ∧ ∀ (j : Nat) u, ([strV word] ++ (l.map Lib.itoa).map strV)[j]? = some u → cur3[j]? = some u := by
    obtain ⟨hl0, ⟨_, h0⟩ | ⟨g3, cap3, cur3, rfl, _, hh, h1, _, _, htk⟩⟩ := hown
    · omega
    · refine ⟨g3, cap3, cur3, rfl, hh, h1, fun j u hj => ?_⟩
      rw [← htk, List.getElem?_take] at hj
      split at hj
      · simpa using hj
      · cases hj
  have HL : Hid (Calls Tryz.prog 42 #[.slice (some ⟨g3, 0, none⟩) (1 + n) cap3] w3 fun e w' => e = .returned (strV (Lib.join (word :: l.map Lib.itoa) [32] ++ [10])) ∧ Kept w3 w') := hide (by
    have hlen : (word :: l.map Lib.itoa).length = 1 + n := by simp [unhide HN]; omega
    have := wLine_any w3 g3 cap3 (word :: l.map Lib.itoa) (by omega) (fun j x hj => by
      rw [cell_lays hg3]
      exact hcur3 j _ (by rw [show [strV word] ++ (l.map Lib.itoa).map strV = (word :: l.map Lib.itoa).map strV by simp, List.getElem?_map, hj]; rfl)) (Array.getElem?_eq_some_iff.1 hg3).1 (unhide HLJ) (by omega)
    rwa [hlen] at this)
  have HR := hide hrun
  have HK := hide hK3
  clear hK3 hrun hown hgrow hg3 hcap3 hcur3 h2 hs hc hge k2 HRW HLJ HC
  go_wp2_with (at_builtin; refine unhide ?_)
  refine hide ?_
  refine wpList_appR _ rfl (.tmp 6) (.tmp 8) 62 rfl rfl rfl (unhide HR) ?_
  clear HR
  go_wp2_with fail
  refine (unhide HL).mono ?_
  rintro _ w4 ⟨rfl, k4⟩
  replace HK := hide ((unhide HK).trans k4)
  clear k4 HL
  unfold strV
  generalize hRR : (ByteArray.mk (Lib.join (word :: l.map Lib.itoa) [32] ++ [10]).toArray) = R at *
  go_wp2_with fail
  go_ret
  exact ⟨by rw [strV, hRR]; rfl, unhide HK⟩
def TKAt (w : World) : Prop := ∀ k, k < 17 → w.cell? ⟨0, k * 2, none⟩ = some (strV (tkS.getD k ([], 0)).1) ∧ w.cell? ⟨0, k * 2 + 1, none⟩ = some (.int .i64 ((tkS.getD k ([], 0)).2 : Nat))
theorem TKAt.kept {w w' : World} (h : TKAt w) (k : Kept w w') : TKAt w' := fun i hi => ⟨k.cell (h i hi).1, k.cell (h i hi).2⟩
theorem tk_len (k : Nat) : (tkS.getD k ([], 0)).1.length ≤ 6 := by
  by_cases h : k < 17
  · revert h; revert k; decide
  · rw [show tkS.getD k ([], 0) = ([], 0) by simp [List.getD, List.getElem?_eq_none (show tkS.length ≤ k by simp [tkS]; omega)]]; simp
theorem opLine_any (w : World) (k : Nat) (a : Int) (hk : k < 17) (ha : I64 a) (ht : TabW w) (htk : TKAt w) :
    Calls Tryz.prog 20 #[.agg #[.int .i64 k, .int .i64 a]] w fun e w' => e = .returned (strV (opT (k, a))) ∧ Kept w w' := by
  have H0 : Hid (∀ u, Kept w u → Calls Tryz.prog 19 #[.string ⟨(tkS.getD k ([], 0)).1.toArray⟩, .slice none 0 0] u fun e w' => e = .returned (strV (lineT (tkS.getD k ([], 0)).1 [])) ∧ Kept u w') := hide fun u hu => tLine_any u _ _ [] (IntsW.nil u) (by have := tk_len k; omega) (by simp) (by simp) (ht.kept hu)
  have H1 : Hid (∀ u b, Kept w u → u.heap[b]? = some (.cells #[.int .i64 a] 3) → Calls Tryz.prog 19 #[.string ⟨(tkS.getD k ([], 0)).1.toArray⟩, .slice (some ⟨b, 0, none⟩) 1 1] u fun e w' => e = .returned (strV (lineT (tkS.getD k ([], 0)).1 [a])) ∧ Kept u w') := hide fun u b hu hb => tLine_any u _ _ [a] ⟨_, _, rfl, by simp, fun i z hz => ⟨b, 0, rfl, by
      rw [cell_lays hb, Nat.zero_add]
      cases i with
      | zero => simpa using hz
      | succ i => simp at hz⟩⟩ (by have := tk_len k; omega) (by simp) (by simpa using ha) (ht.kept hu)
  have b0 : ∀ o : Obj, (w.alloc o).cell? ⟨0, k * 2, none⟩ = some (strV (tkS.getD k ([], 0)).1) := fun o => ((Kept.refl w).alloc o).cell (htk k hk).1
  have b1 : ∀ o : Obj, (w.alloc o).cell? ⟨0, k * 2 + 1, none⟩ = some (.int .i64 ((tkS.getD k ([], 0)).2 : Nat)) := fun o => ((Kept.refl w).alloc o).cell (htk k hk).2
  unfold opT
  simp only [Int.toNat_natCast]
  generalize (tkS.getD k ([], 0)).1 = wd at *
  generalize (tkS.getD k ([], 0)).2 = nn at *
  unfold strV at b0
  generalize (ByteArray.mk wd.toArray) = WD at *
  have hk0 : (0 : Int) ≤ (k : Int) := by omega
  have hk1 : (k : Int) < 17 := by omega
  clear ht htk
  by_cases hn : nn = 0
  · subst hn
    rw [if_pos rfl]
    go_enter Tryz.func20, Tryz.ntmps20
    go_wp2_with fail
    refine ((unhide H0) _ (((Kept.refl w).alloc _).alloc _)).mono ?_
    rintro _ w4 ⟨rfl, k4⟩
    have HK := hide ((((Kept.refl w).alloc (.cells #[.int .i64 (k : Int), .int .i64 a] 44)).alloc (.cells #[.string WD, .int .i64 0] 85)).trans k4)
    clear k4 H0 H1 b0 b1
    unfold strV
    generalize hRR : (ByteArray.mk (lineT wd []).toArray) = R at *
    go_wp2_with fail
    go_ret
    exact ⟨by rw [strV, hRR]; rfl, unhide HK⟩
  · rw [if_neg hn]
    have hn0 : ((nn : Int) == 0) = false := by simp; omega
    go_enter Tryz.func20, Tryz.ntmps20
    go_wp2_with fail
    refine ((unhide H1) _ _ ((((Kept.refl w).alloc _).alloc _).alloc _) (lays_new (by simp))).mono ?_
    rintro _ w4 ⟨rfl, k4⟩
    have HK := hide (((((Kept.refl w).alloc (.cells #[.int .i64 (k : Int), .int .i64 a] 44)).alloc (.cells #[.string WD, .int .i64 (nn : Int)] 85)).alloc (.cells #[.int .i64 a] 3)).trans k4)
    clear k4 H0 H1 b0 b1
    unfold strV
    generalize hRR : (ByteArray.mk (lineT wd [a]).toArray) = R at *
    go_wp2_with fail
    go_ret
    exact ⟨by rw [strV, hRR]; rfl, unhide HK⟩
theorem conv_up (w : World) (b : Nat) (hsh : w.shape? b = some (50, 2)) : (convert 47 110 (.pointer (some ⟨b, 0, none⟩))).run Tryz.prog w = .ok (.pointer (some ⟨b, 0, none⟩)) w := by
  obtain ⟨jj, hj, hjs⟩ := Option.map_eq_some_iff.1 (show (Tryz.prog.info? 50).map (·.size) = some 2 by kernel_rfl)
  simp [convert, run_underlying Tryz.underlying47, run_underlying Tryz.underlying110]
  conv => lhs; arg 2; whnf
  simp only [Sem.run, Sem.bind, Tryz.underlying47]
  change Sem.run Tryz.prog ((pure _ : Sem _) >>= _) w = _
  simp [run_underlying Tryz.underlying110, Conv.seenAt, viewAt, cellsIn, hsh, sizeOf, typeInfo, hj, hjs]
theorem conv_down (w : World) (b : Nat) (hsh : w.shape? b = some (50, 2)) : (convert 110 47 (.pointer (some ⟨b, 0, none⟩))).run Tryz.prog w = .ok (.pointer (some ⟨b, 0, none⟩)) w := by
  obtain ⟨jj, hj, hjs⟩ := Option.map_eq_some_iff.1 (show (Tryz.prog.info? 50).map (·.size) = some 2 by kernel_rfl)
  have hlies : liesAt Tryz.prog Tryz.prog.depth 50 (2 / Tryz.prog.cellsOf 50) 0 50 1 = true := by kernel_rfl
  simp [convert, run_underlying Tryz.underlying47, run_underlying Tryz.underlying110]
  conv => lhs; arg 2; whnf
  simp only [Sem.run, Sem.bind, Tryz.underlying110]
  change Sem.run Tryz.prog ((pure _ : Sem _) >>= _) w = _
  simp [run_underlying Tryz.underlying47, Conv.seenAt, viewAt, hsh, variablesAt, hlies, sizeOf, typeInfo, hj]
end Go.Proofs.YtjioipkfnekigaaGreatDoor
