/- DeskH, DeskI -/
import Derived.Test.YtokhibfenccijaaGreatDoorKB16
set_option maxRecDepth 100000
set_option maxHeartbeats 8000000
namespace Go.Proofs.YtokhibfenccijaaGreatDoor
open Go.RowKit Go.Maps
theorem dDo_step (w : World) (D : Nat) (vp : Value) (s : St) (r : (St × List (List UInt8)) ⊕ Int) (b o cap : Nat) (a c : List UInt8) (n : Int) (hc : w.cell? ⟨b, o, none⟩ = some (.string ⟨a.toArray⟩)) (hd : w.cell? ⟨b, o + 1, none⟩ = some (.string ⟨c.toArray⟩)) (ha : a.length ≤ 100000)
    (HN : Hid (Calls Tryz.prog 71 #[.string ⟨c.toArray⟩] w fun e w' => e = .returned (.tuple #[.int .i64 n, .bool true]) ∧ Kept w w'))
    (hv : (withM D).atKey (.string a) (.held .nilFunc) = .held (mvD 107 D)) (ho : has (withM D) (.string a) = true)
    (HF : Hid (∀ u, Kept w u → Calls Tryz.prog 107 #[.pointer (some ⟨D, 0, none⟩), .int .i64 n] u (DoP2 D vp s r u))) :
    Calls Tryz.prog 42 #[.pointer (some ⟨D, 0, none⟩), .slice (some ⟨b, o, none⟩) 2 cap] w (DoP2 D vp s r w) := by
  have HLK : Hid (∀ (u : World) (g : Nat), u.ownsMap Tryz.prog 9 rdF g 2 (withM D) → (Instr.lookup 125 (.map (some g)) (.string ⟨a.toArray⟩) true).run Tryz.prog u = .ok (.tuple #[mvD 107 D, .bool true]) u) := hide fun u g hu => tab_look Tryz.underlying125 (zeroF1 u) hu a ha hv ho
  generalize (ByteArray.mk a.toArray) = W at *
  generalize (ByteArray.mk c.toArray) = C at *
  clear ha hv ho
  go_enter Tryz.func42, Tryz.ntmps42
  go_wp2_with fail
  refine (unhide HN).mono ?_
  rintro _ w1 ⟨rfl, k1⟩
  have HK1 := hide k1
  have HA := hide (dWith w1.drew D)
  replace hc := k1.cell hc
  clear k1 hd HN
  go_wp2_with fail
  refine wp_region_held_drew (S := fun y => Kept w1 y) (by kernel_rfl) ((Kept.refl w1).drew) (fun hHeld => ?_)
  refine planY [0, 2, 3, 4] ?_
  repeat
    refine takeY (v := ?_) hHeld (fun u hSu => ?_) ?_
    rotate_left
    · (have y0 := hSu.cell hc; (try dsimp only at y0); go_simp) <;> with_reducible rfl
    try simp only [Act.put, List.setIfInBounds_toArray, List.set_cons_zero, List.set_cons_succ]
  refine endY ?_
  refine take_one (i := 1) rfl (by kernel_rfl) (fun K hK => ?_)
  go_simp
  refine (unhide HA).mono ?_
  rintro _ w2 ⟨rfl, hm, k2⟩
  have hS2 : Kept w1 w2 := hHeld.trans k2
  have HK2 := hide ((unhide HK1).trans hS2)
  have hlk := (unhide HLK) w2 w1.heap.size hm
  dsimp only [mvD] at hlk
  clear k2 HA hc HLK hm
  refine hK.out _ _ hS2 (fun hHeld => ?_)
  clear hK K hS2
  try simp only [Act.put, List.setIfInBounds_toArray, List.set_cons_zero, List.set_cons_succ]
  refine take_one (i := 5) rfl (by kernel_rfl) (fun K hK => ?_)
  go_simp
  refine hK.out _ _ hHeld (fun hHeld => ?_)
  clear hK K hlk
  try simp only [Act.put, List.setIfInBounds_toArray, List.set_cons_zero, List.set_cons_succ]
  refine planY [6, 7, 8, 9, 10] ?_
  repeat
    refine takeY (v := ?_) hHeld (fun u hSu => ?_) ?_
    rotate_left
    · go_simp <;> with_reducible rfl
    try simp only [Act.put, List.setIfInBounds_toArray, List.set_cons_zero, List.set_cons_succ]
  refine endY ?_
  refine wpAnyH_done (by kernel_rfl) ?_ _
  clear hHeld
  go_wp2_with fail
  refine ((unhide HF) _ (unhide HK2)).mono ?_
  rintro e w3 hpost
  replace hpost := hpost.from (unhide HK2)
  cases r with
  | inl x =>
    obtain ⟨v, rfl, h2, h3, h4⟩ := hpost
    have HE := hide (And.intro h2 (And.intro h3 h4))
    clear h2 h3 h4 HF HK2
    go_wp2_with fail
    go_ret
    exact ⟨_, rfl, unhide HE⟩
  | inr z =>
    obtain ⟨rfl, h3, h4⟩ := hpost
    exact ⟨rfl, rfl, h3, h4⟩
theorem dDo_heights (w : World) (D : Nat) (vp : Value) (s : St) (r : (St × List (List UInt8)) ⊕ Int) (b o cap : Nat) (a c : List UInt8) (n : Int) (hc : w.cell? ⟨b, o, none⟩ = some (.string ⟨a.toArray⟩)) (hd : w.cell? ⟨b, o + 1, none⟩ = some (.string ⟨c.toArray⟩)) (ha : a.length ≤ 100000)
    (HN : Hid (Calls Tryz.prog 71 #[.string ⟨c.toArray⟩] w fun e w' => e = .returned (.tuple #[.int .i64 n, .bool true]) ∧ Kept w w'))
    (hv : (withM D).atKey (.string a) (.held .nilFunc) = .held (mvD 108 D)) (ho : has (withM D) (.string a) = true)
    (HF : Hid (∀ u, Kept w u → Calls Tryz.prog 108 #[.pointer (some ⟨D, 0, none⟩), .int .i64 n] u (DoP2 D vp s r u))) :
    Calls Tryz.prog 42 #[.pointer (some ⟨D, 0, none⟩), .slice (some ⟨b, o, none⟩) 2 cap] w (DoP2 D vp s r w) := by
  have HLK : Hid (∀ (u : World) (g : Nat), u.ownsMap Tryz.prog 9 rdF g 2 (withM D) → (Instr.lookup 125 (.map (some g)) (.string ⟨a.toArray⟩) true).run Tryz.prog u = .ok (.tuple #[mvD 108 D, .bool true]) u) := hide fun u g hu => tab_look Tryz.underlying125 (zeroF1 u) hu a ha hv ho
  generalize (ByteArray.mk a.toArray) = W at *
  generalize (ByteArray.mk c.toArray) = C at *
  clear ha hv ho
  go_enter Tryz.func42, Tryz.ntmps42
  go_wp2_with fail
  refine (unhide HN).mono ?_
  rintro _ w1 ⟨rfl, k1⟩
  have HK1 := hide k1
  have HA := hide (dWith w1.drew D)
  replace hc := k1.cell hc
  clear k1 hd HN
  go_wp2_with fail
  refine wp_region_held_drew (S := fun y => Kept w1 y) (by kernel_rfl) ((Kept.refl w1).drew) (fun hHeld => ?_)
  refine planY [0, 2, 3, 4] ?_
  repeat
    refine takeY (v := ?_) hHeld (fun u hSu => ?_) ?_
    rotate_left
    · (have y0 := hSu.cell hc; (try dsimp only at y0); go_simp) <;> with_reducible rfl
    try simp only [Act.put, List.setIfInBounds_toArray, List.set_cons_zero, List.set_cons_succ]
  refine endY ?_
  refine take_one (i := 1) rfl (by kernel_rfl) (fun K hK => ?_)
  go_simp
  refine (unhide HA).mono ?_
  rintro _ w2 ⟨rfl, hm, k2⟩
  have hS2 : Kept w1 w2 := hHeld.trans k2
  have HK2 := hide ((unhide HK1).trans hS2)
  have hlk := (unhide HLK) w2 w1.heap.size hm
  dsimp only [mvD] at hlk
  clear k2 HA hc HLK hm
  refine hK.out _ _ hS2 (fun hHeld => ?_)
  clear hK K hS2
  try simp only [Act.put, List.setIfInBounds_toArray, List.set_cons_zero, List.set_cons_succ]
  refine take_one (i := 5) rfl (by kernel_rfl) (fun K hK => ?_)
  go_simp
  refine hK.out _ _ hHeld (fun hHeld => ?_)
  clear hK K hlk
  try simp only [Act.put, List.setIfInBounds_toArray, List.set_cons_zero, List.set_cons_succ]
  refine planY [6, 7, 8, 9, 10] ?_
  repeat
    refine takeY (v := ?_) hHeld (fun u hSu => ?_) ?_
    rotate_left
    · go_simp <;> with_reducible rfl
    try simp only [Act.put, List.setIfInBounds_toArray, List.set_cons_zero, List.set_cons_succ]
  refine endY ?_
  refine wpAnyH_done (by kernel_rfl) ?_ _
  clear hHeld
  go_wp2_with fail
  refine ((unhide HF) _ (unhide HK2)).mono ?_
  rintro e w3 hpost
  replace hpost := hpost.from (unhide HK2)
  cases r with
  | inl x =>
    obtain ⟨v, rfl, h2, h3, h4⟩ := hpost
    have HE := hide (And.intro h2 (And.intro h3 h4))
    clear h2 h3 h4 HF HK2
    go_wp2_with fail
    go_ret
    exact ⟨_, rfl, unhide HE⟩
  | inr z =>
    obtain ⟨rfl, h3, h4⟩ := hpost
    exact ⟨rfl, rfl, h3, h4⟩
theorem dDo_missa (w : World) (D : Nat) (vp : Value) (s : St) (b o cap : Nat) (a c : List UInt8) (n : Int) (bn : Bool) (hc : w.cell? ⟨b, o, none⟩ = some (.string ⟨a.toArray⟩)) (hd : w.cell? ⟨b, o + 1, none⟩ = some (.string ⟨c.toArray⟩)) (ha : a.length ≤ 100000)
    (HN : Hid (Calls Tryz.prog 71 #[.string ⟨c.toArray⟩] w fun e w' => e = .returned (.tuple #[.int .i64 n, .bool bn]) ∧ Kept w w'))
    (hv : (withM D).atKey (.string a) (.held .nilFunc) = .held .nilFunc) (ho : has (withM D) (.string a) = false)
    (HD : Hid (DkAt w D vp s)) :
    Calls Tryz.prog 42 #[.pointer (some ⟨D, 0, none⟩), .slice (some ⟨b, o, none⟩) 2 cap] w (DoP2 D vp s (.inr 1) w) := by
  have HLK : Hid (∀ (u : World) (g : Nat), u.ownsMap Tryz.prog 9 rdF g 2 (withM D) → (Instr.lookup 125 (.map (some g)) (.string ⟨a.toArray⟩) true).run Tryz.prog u = .ok (.tuple #[.nilFunc, .bool false]) u) := hide fun u g hu => tab_look Tryz.underlying125 (zeroF1 u) hu a ha hv ho
  generalize (ByteArray.mk a.toArray) = W at *
  generalize (ByteArray.mk c.toArray) = C at *
  clear ha hv ho
  go_enter Tryz.func42, Tryz.ntmps42
  go_wp2_with fail
  refine (unhide HN).mono ?_
  rintro _ w1 ⟨rfl, k1⟩
  have HK1 := hide k1
  have HA := hide (dWith w1.drew D)
  replace hc := k1.cell hc
  clear k1 hd HN
  go_wp2_with fail
  refine wp_region_held_drew (S := fun y => Kept w1 y) (by kernel_rfl) ((Kept.refl w1).drew) (fun hHeld => ?_)
  refine planY [0, 2, 3, 4] ?_
  repeat
    refine takeY (v := ?_) hHeld (fun u hSu => ?_) ?_
    rotate_left
    · (have y0 := hSu.cell hc; (try dsimp only at y0); go_simp) <;> with_reducible rfl
    try simp only [Act.put, List.setIfInBounds_toArray, List.set_cons_zero, List.set_cons_succ]
  refine endY ?_
  refine take_one (i := 1) rfl (by kernel_rfl) (fun K hK => ?_)
  go_simp
  refine (unhide HA).mono ?_
  rintro _ w2 ⟨rfl, hm, k2⟩
  have hS2 : Kept w1 w2 := hHeld.trans k2
  have HK2 := hide ((unhide HK1).trans hS2)
  have hlk := (unhide HLK) w2 w1.heap.size hm
  clear k2 HA hc HLK hm
  refine hK.out _ _ hS2 (fun hHeld => ?_)
  clear hK K hS2
  try simp only [Act.put, List.setIfInBounds_toArray, List.set_cons_zero, List.set_cons_succ]
  refine take_one (i := 5) rfl (by kernel_rfl) (fun K hK => ?_)
  go_simp
  refine hK.out _ _ hHeld (fun hHeld => ?_)
  clear hK K hlk
  try simp only [Act.put, List.setIfInBounds_toArray, List.set_cons_zero, List.set_cons_succ]
  refine planY [6, 7, 8, 9, 10] ?_
  repeat
    refine takeY (v := ?_) hHeld (fun u hSu => ?_) ?_
    rotate_left
    · go_simp <;> with_reducible rfl
    try simp only [Act.put, List.setIfInBounds_toArray, List.set_cons_zero, List.set_cons_succ]
  refine endY ?_
  refine wpAnyH_done (by kernel_rfl) ?_ _
  clear hHeld
  go_wp2_with fail
  exact ⟨rfl, rfl, (unhide HD).kept (unhide HK2), .of (unhide HK2)⟩
theorem dDo_missb (w : World) (D : Nat) (vp : Value) (s : St) (b o cap : Nat) (a c : List UInt8) (n : Int) (v : Value) (hc : w.cell? ⟨b, o, none⟩ = some (.string ⟨a.toArray⟩)) (hd : w.cell? ⟨b, o + 1, none⟩ = some (.string ⟨c.toArray⟩)) (ha : a.length ≤ 100000)
    (HN : Hid (Calls Tryz.prog 71 #[.string ⟨c.toArray⟩] w fun e w' => e = .returned (.tuple #[.int .i64 n, .bool false]) ∧ Kept w w'))
    (hv : (withM D).atKey (.string a) (.held .nilFunc) = .held v) (ho : has (withM D) (.string a) = true)
    (HD : Hid (DkAt w D vp s)) :
    Calls Tryz.prog 42 #[.pointer (some ⟨D, 0, none⟩), .slice (some ⟨b, o, none⟩) 2 cap] w (DoP2 D vp s (.inr 1) w) := by
  have HLK : Hid (∀ (u : World) (g : Nat), u.ownsMap Tryz.prog 9 rdF g 2 (withM D) → (Instr.lookup 125 (.map (some g)) (.string ⟨a.toArray⟩) true).run Tryz.prog u = .ok (.tuple #[v, .bool true]) u) := hide fun u g hu => tab_look Tryz.underlying125 (zeroF1 u) hu a ha hv ho
  generalize (ByteArray.mk a.toArray) = W at *
  generalize (ByteArray.mk c.toArray) = C at *
  clear ha hv ho
  go_enter Tryz.func42, Tryz.ntmps42
  go_wp2_with fail
  refine (unhide HN).mono ?_
  rintro _ w1 ⟨rfl, k1⟩
  have HK1 := hide k1
  have HA := hide (dWith w1.drew D)
  replace hc := k1.cell hc
  clear k1 hd HN
  go_wp2_with fail
  refine wp_region_held_drew (S := fun y => Kept w1 y) (by kernel_rfl) ((Kept.refl w1).drew) (fun hHeld => ?_)
  refine planY [0, 2, 3, 4] ?_
  repeat
    refine takeY (v := ?_) hHeld (fun u hSu => ?_) ?_
    rotate_left
    · (have y0 := hSu.cell hc; (try dsimp only at y0); go_simp) <;> with_reducible rfl
    try simp only [Act.put, List.setIfInBounds_toArray, List.set_cons_zero, List.set_cons_succ]
  refine endY ?_
  refine take_one (i := 1) rfl (by kernel_rfl) (fun K hK => ?_)
  go_simp
  refine (unhide HA).mono ?_
  rintro _ w2 ⟨rfl, hm, k2⟩
  have hS2 : Kept w1 w2 := hHeld.trans k2
  have HK2 := hide ((unhide HK1).trans hS2)
  have hlk := (unhide HLK) w2 w1.heap.size hm
  clear k2 HA hc HLK hm
  refine hK.out _ _ hS2 (fun hHeld => ?_)
  clear hK K hS2
  try simp only [Act.put, List.setIfInBounds_toArray, List.set_cons_zero, List.set_cons_succ]
  refine take_one (i := 5) rfl (by kernel_rfl) (fun K hK => ?_)
  go_simp
  refine hK.out _ _ hHeld (fun hHeld => ?_)
  clear hK K hlk
  try simp only [Act.put, List.setIfInBounds_toArray, List.set_cons_zero, List.set_cons_succ]
  refine planY [6, 7, 8, 9, 10] ?_
  repeat
    refine takeY (v := ?_) hHeld (fun u hSu => ?_) ?_
    rotate_left
    · go_simp <;> with_reducible rfl
    try simp only [Act.put, List.setIfInBounds_toArray, List.set_cons_zero, List.set_cons_succ]
  refine endY ?_
  refine wpAnyH_done (by kernel_rfl) ?_ _
  clear hHeld
  go_wp2_with fail
  exact ⟨rfl, rfl, (unhide HD).kept (unhide HK2), .of (unhide HK2)⟩
theorem dDo_two (w : World) (D : Nat) (vp : Value) (s : St) (O : OpsD) (h : PartsD w D vp s O) (b o cap : Nat) (a c : List UInt8) (hc : w.cell? ⟨b, o, none⟩ = some (.string ⟨a.toArray⟩)) (hd : w.cell? ⟨b, o + 1, none⟩ = some (.string ⟨c.toArray⟩)) (ha : a.length ≤ 100000) (hcl : c.length ≤ 100000) :
    Calls Tryz.prog 42 #[.pointer (some ⟨D, 0, none⟩), .slice (some ⟨b, o, none⟩) 2 cap] w (DoP2 D vp s (doD O s [a, c]) w) := by
  obtain ⟨h1, h2⟩ := with_at D a
  show Calls Tryz.prog 42 #[.pointer (some ⟨D, 0, none⟩), .slice (some ⟨b, o, none⟩) 2 cap] w (DoP2 D vp s (match numT c with | some n => withD O s a n | none => .inr 1) w)
  cases hn : numT c with
  | none =>
    have HN := hide (number_no w c hn hcl h.tab h.errs)
    by_cases e1 : a = [115, 116, 101, 112] ∨ a = [104, 101, 105, 103, 104, 116, 115]
    · exact dDo_missb w D vp s b o cap a c 0 _ hc hd ha HN h1 (by rw [h2]; simpa using e1) (hide h.dk)
    · have e2 : a ≠ [115, 116, 101, 112] := fun e => e1 (.inl e)
      have e3 : a ≠ [104, 101, 105, 103, 104, 116, 115] := fun e => e1 (.inr e)
      rw [if_neg e2, if_neg e3] at h1
      exact dDo_missa w D vp s b o cap a c 0 false hc hd ha HN h1 (by rw [h2]; simpa using e1) (hide h.dk)
  | some n =>
    have HN := hide (number_ok w c n hn h.tab)
    by_cases e1 : a = [115, 116, 101, 112]
    · rw [if_pos e1] at h1
      have hp := fun u hu => h.step u n hu
      rw [← e1] at hp
      exact dDo_step w D vp s _ b o cap a c n hc hd ha HN h1 (by rw [h2]; simp [e1]) (hide hp)
    · rw [if_neg e1] at h1
      by_cases e2 : a = [104, 101, 105, 103, 104, 116, 115]
      · rw [if_pos e2] at h1
        have hp := fun u hu => h.hgt u n hu
        rw [← e2] at hp
        exact dDo_heights w D vp s _ b o cap a c n hc hd ha HN h1 (by rw [h2]; simp [e2]) (hide hp)
      · rw [if_neg e2] at h1
        have e3 : withD O s a n = .inr 1 := by unfold withD; rw [if_neg e1, if_neg e2]
        simp only [e3]
        exact dDo_missa w D vp s b o cap a c n true hc hd ha HN h1 (by rw [h2]; simp [e1, e2]) (hide h.dk)
theorem dDo_any (w : World) (D : Nat) (vp : Value) (s : St) (O : OpsD) (h : PartsD w D vp s O) (lv : Value) (ws : List (List UInt8)) (hs : StrsW w lv ws) (hl : ∀ x ∈ ws, x.length ≤ 100000) :
    Calls Tryz.prog 42 #[.pointer (some ⟨D, 0, none⟩), lv] w (DoP2 D vp s (doD O s ws) w) := by
  obtain ⟨oa, cap, rfl, hn, hi⟩ := hs
  match ws, hi, hl, hn with
  | [], hi, hl, hn => exact dDo_many w D vp s (hide h.dk) oa 0 cap (by decide) (by decide)
  | [a], hi, hl, hn =>
    obtain ⟨b, o, rfl, c0⟩ := hi 0 a rfl
    exact dDo_one w D vp s O h b o cap a c0 (hl a (by simp))
  | [a, c], hi, hl, hn =>
    obtain ⟨b, o, rfl, c0⟩ := hi 0 a rfl
    obtain ⟨b', o', e, c1⟩ := hi 1 c rfl
    cases e
    exact dDo_two w D vp s O h b o cap a c c0 c1 (hl a (by simp)) (hl c (by simp))
  | a :: c :: d :: ws, hi, hl, hn =>
    exact dDo_many w D vp s (hide h.dk) oa _ cap (by simp; omega) (by simp; omega)
theorem asErrD (v : Value) (w : World) : (Instr.typeAssert (.iface 22 v) 20 22 false).run Tryz.prog w = .ok v w := by kernel_rfl
theorem RowS.off {b : Nat} {w : World} {v : Value} {l : List (List UInt8)} (h : RowS b w v l) {r i : Nat} {c : Array Value} {t : TypeId} (hr : w.heap[r]? = some (.cells c t)) (u : Value) (ht : t ≠ 9 := by decide) : RowS b (w.setCell ⟨r, i, none⟩ u) v l := by
  obtain ⟨⟨h1, h2⟩, h3⟩ := h
  refine ⟨⟨h1, ?_⟩, h3⟩
  rcases h2 with h | ⟨g, cap, cur, e, hg, hh, r9⟩
  · exact .inl h
  · exact .inr ⟨g, cap, cur, e, hg, lays_other hh (fun q => by
      simp only at q
      subst q
      rw [hr] at hh
      simp only [Option.some.injEq, Obj.cells.injEq] at hh
      exact ht hh.2.1) _, r9⟩
theorem catchD (r : Nat) (e : Int) (he : I64 e) (vs : Value) (older : List PanicEntry) (w : World) (hr : w.heap[r]? = some (.cells #[vs] 38)) (ht : TabW w) :
    CallsD Tryz.prog 40 #[.pointer (some ⟨r, 0, none⟩)] (.panicking ({ v := .iface 22 (.int .i64 e), recovered := false } :: older)) w fun en u' w' =>
      en = .returned (.tuple #[]) ∧ u' = .panicking ({ v := .iface 22 (.int .i64 e), recovered := true } :: older) ∧ ∃ g cap, w'.heap[r]? = some (.cells #[.slice (some ⟨g, 0, none⟩) 2 cap] 38) ∧ RowS w.heap.size w' (.slice (some ⟨g, 0, none⟩) 2 cap) (faultD e) ∧ KeptX r w w' := by
  have c1 : w.cell? ⟨r, 0, none⟩ = some vs := cell_lays hr 0
  have z1 := frozen_lays hr 0
  refine callsD_of_wpS Tryz.func40 rfl fun c₀ cs hu => ?_
  apply wpS_seq
  apply wpS_region
  simp [wpOpsS, go_sem, recoverD, hu, Tryz.ntmps40, Exit.thenS]
  have ht8 : (#[Value.pointer (some ⟨r, 0, none⟩)] ++ ((Array.replicate 7 undef).setIfInBounds 1 (Value.iface 22 (.int .i64 e))).setIfInBounds 0 (Value.iface 22 (.int .i64 e))) = #[Value.pointer (some ⟨r, 0, none⟩), Value.iface 22 (.int .i64 e), Value.iface 22 (.int .i64 e), undef, undef, undef, undef, undef] := rfl
  rw [ht8]
  apply wpS_of_wp
  have has := asErrD (.int .i64 e)
  have HC := hide (fault_any w e he ht)
  have HR := hide hr
  clear hr ht ht8 c1 z1
  go_wp2_with fail
  refine (unhide HC).mono ?_
  rintro _ w2 ⟨g, cap, rfl, h2, k2⟩
  have hr2 := lays_kept k2 (unhide HR)
  have c1 := cell_lays hr2 0
  simp only [List.getElem?_toArray, List.getElem?_cons_zero] at c1
  have z1 := frozen_lays hr2 0
  have l2 := lays_set hr2 0 (.slice (some ⟨g, 0, none⟩) 2 cap)
  have hk2 : KeptX r w (w2.setCell ⟨r, 0, none⟩ (.slice (some ⟨g, 0, none⟩) 2 cap)) := (KeptX.of (B := r) k2).setCell (p := ⟨r, 0, none⟩) (.inl rfl) _
  have hrow : RowS w.heap.size (w2.setCell ⟨r, 0, none⟩ (.slice (some ⟨g, 0, none⟩) 2 cap)) (.slice (some ⟨g, 0, none⟩) 2 cap) (faultD e) := h2.off hr2 _
  have HE : Hid ((w2.setCell ⟨r, 0, none⟩ (.slice (some ⟨g, 0, none⟩) 2 cap)).heap[r]? = some (.cells #[.slice (some ⟨g, 0, none⟩) 2 cap] 38) ∧ RowS w.heap.size (w2.setCell ⟨r, 0, none⟩ (.slice (some ⟨g, 0, none⟩) 2 cap)) (.slice (some ⟨g, 0, none⟩) 2 cap) (faultD e) ∧ KeptX r w (w2.setCell ⟨r, 0, none⟩ (.slice (some ⟨g, 0, none⟩) 2 cap))) := hide ⟨by simpa using l2, hrow, hk2⟩
  clear h2 k2 hr2 l2 hk2 hrow HC has
  go_wp2_with fail
  exact ⟨rfl, _, rfl, _, (by simp [results, Tryz.results40, go_sem]), rfl, rfl, g, cap, unhide HE⟩
theorem idleD (r : Nat) (w : World) :
    CallsD Tryz.prog 40 #[.pointer (some ⟨r, 0, none⟩)] .returning w fun e u' w' => e = .returned (.tuple #[]) ∧ u' = .returning ∧ w' = w := by
  refine callsD_of_wpS Tryz.func40 rfl fun c₀ cs hu => ?_
  apply wpS_seq
  apply wpS_region
  simp [wpOpsS, go_sem, recoverD, hu, Tryz.ntmps40, Exit.thenS]
  have ht : (#[Value.pointer (some ⟨r, 0, none⟩)] ++ ((Array.replicate 7 undef).setIfInBounds 1 Value.nilIface).setIfInBounds 0 Value.nilIface) = #[Value.pointer (some ⟨r, 0, none⟩), Value.nilIface, Value.nilIface, undef, undef, undef, undef, undef] := rfl
  rw [ht]
  apply wpS_seq
  apply wpS_region
  simp [wpOpsS, go_sem, Exit.thenS]
  refine wpS_cond (t := false) (by simp [Act.eval]) ?_
  simp only [Bool.false_eq_true, if_false]
  refine wpS_of_wp (wp_skip ?_)
  cases c₀
  simp_all [bodyPostS, results, Tryz.results40]
theorem PartsD.kept {w u : World} {D : Nat} {vp : Value} {s : St} {O : OpsD} (h : PartsD w D vp s O) (k : Kept w u) : PartsD u D vp s O :=
  ⟨fun u' hu => h.out u' (k.trans hu), fun u' hu => h.line u' (k.trans hu), fun u' hu => h.kinds u' (k.trans hu), fun u' hu => h.trim u' (k.trans hu), fun u' hu => h.again u' (k.trans hu), fun u' n hu => h.step u' n (k.trans hu), fun u' n hu => h.hgt u' n (k.trans hu), h.dk.kept k, h.tab.kept k, h.errs.kept k⟩
theorem odd_set {w : World} {r i : Nat} {c : Array Value} (hr : w.heap[r]? = some (.cells c 38)) (u : Value) : ∀ (b : Nat) (d : Array Value) (t : TypeId), ¬ OddT t → w.heap[b]? = some (.cells d t) → (w.setCell ⟨r, i, none⟩ u).heap[b]? = some (.cells d t) := fun b d t ht hb => lays_other hb (fun q => by
  simp only at q
  subst q
  rw [hr] at hb
  simp only [Option.some.injEq, Obj.cells.injEq] at hb
  exact ht (.inl hb.2.1.symm)) _
theorem kx_odd {w w' : World} {r : Nat} {c : Array Value} (hr : w.heap[r]? = some (.cells c 38)) (k : KeptX r w w') : ∀ (b : Nat) (d : Array Value) (t : TypeId), ¬ OddT t → w.heap[b]? = some (.cells d t) → w'.heap[b]? = some (.cells d t) := fun b d t ht hb => k.lays (fun q => by
  subst q
  rw [hr] at hb
  simp only [Option.some.injEq, Obj.cells.injEq] at hb
  exact ht (.inl hb.2.1.symm)) hb
theorem kx_two {w w1 w2 : World} {D r : Nat} (h : KeptX D w w1) (hr : w.heap.size ≤ r) (k : KeptX r w1 w2) : KeptX D w w2 :=
  ⟨k.os.trans h.os, k.tape.trans h.tape, k.output.trans h.output, Nat.le_trans h.size k.size, fun j hj hne => (k.block j (Nat.lt_of_lt_of_le hj h.size) (by omega)).trans (h.block j hj hne)⟩
theorem dAnswer (w : World) (D : Nat) (vp : Value) (s : St) (O : OpsD) (h : PartsD w D vp s O) (lv : Value) (ws : List (List UInt8)) (hs : StrsW w lv ws) (hl : ∀ x ∈ ws, x.length ≤ 100000) (hI : ∀ z, doD O s ws = .inr z → I64 z) (ht : ∀ u, KeptX D w u → TabW u) :
    Calls Tryz.prog 18 #[.pointer (some ⟨D, 0, none⟩), lv] w fun e w' => ∃ v, e = .returned v ∧ RowS w.heap.size w' v (ansD O s ws).2 ∧ DkAt w' D vp (ansD O s ws).1 ∧ KeptX D w w' := by
  have k0 := (Kept.refl w).alloc (.cells #[.slice none 0 0] 38)
  have HC := hide (dDo_any (w.alloc (.cells #[.slice none 0 0] 38)) D vp s O (h.kept k0) lv ws (hs.kept k0) hl)
  have HZ : Hid (Kept w (w.alloc (.cells #[.slice none 0 0] 38)) ∧ (w.alloc (.cells #[.slice none 0 0] 38)).heap[w.heap.size]? = some (.cells #[.slice none 0 0] 38)) := hide ⟨k0, lays_new rfl⟩
  have HI := hide hI
  have HT := hide ht
  have hDlt : D < w.heap.size := by obtain ⟨_, _, _, h1, _⟩ := h.dk; exact (Array.getElem?_eq_some_iff.1 h1).1
  clear k0 hs hl hI ht h
  go_enter_defers Tryz.func18, Tryz.ntmps18
  go_wp2_with fail
  generalize w.alloc (.cells #[.slice none 0 0] 38) = w0 at *
  obtain ⟨R, hR⟩ : ∃ r, r = w.heap.size := ⟨_, rfl⟩
  have HR : Hid (w.heap.size ≤ R ∧ R ≠ D) := hide ⟨by omega, by omega⟩
  rw [← hR] at HZ ⊢
  clear hR
  refine (unhide HC).mono ?_
  intro e w1 hpost
  cases hdo : doD O s ws with
  | inr z =>
    rw [hdo] at hpost
    obtain ⟨rfl, hd, hx⟩ := hpost
    have hR1 := hx.lays (unhide HR).2 (unhide HZ).2
    have hx1 : KeptX D w w1 := (KeptX.of (unhide HZ).1).trans hx
    have hT1 := (unhide HT) w1 hx1
    have hz := (unhide HI) z hdo
    have hans : ansD O s ws = (s, faultD z) := by unfold ansD; rw [hdo]
    have hsz := hx1.size
    dsimp only [leftD]
    refine leaves_cons (f := 40) (args := #[.pointer (some ⟨R, 0, none⟩)]) (by simp) (by simp [go_sem]) ?_
    refine (catchD R z hz _ [] _ hR1 hT1).mono ?_
    rintro e u' w2 ⟨rfl, rfl, g, cap, h1, h2, h3⟩
    have t0 := cell_lays h1 0
    simp only [List.getElem?_toArray, List.getElem?_cons_zero] at t0
    have hE : RowS w.heap.size w2 (.slice (some ⟨g, 0, none⟩) 2 cap) (faultD z) ∧ DkAt w2 D vp s ∧ KeptX D w w2 := ⟨h2.low hsz, hd.odd (kx_odd hR1 h3), kx_two hx1 (unhide HR).1 h3⟩
    have HE := hide hE
    clear hE h1 h2 h3 hR1 hx1 hT1 hx hd
    simp [Leaves, settle, results, Tryz.results18, go_sem, t0]
    rw [hans]
    exact unhide HE
  | inl x =>
    rw [hdo] at hpost
    obtain ⟨v, rfl, hrow, hd, hx⟩ := hpost
    obtain ⟨_, g, cap, rfl⟩ := id hrow
    have hR1 := hx.lays (unhide HR).2 (unhide HZ).2
    have hx1 : KeptX D w w1 := (KeptX.of (unhide HZ).1).trans hx
    have c1 := cell_lays hR1 0
    have z1 := frozen_lays hR1 0
    have l1 := lays_set hR1 0 (.slice (some ⟨g, 0, none⟩) x.2.length cap)
    have hsz : w.heap.size ≤ w0.heap.size := (unhide HZ).1.size
    have hE : RowS w.heap.size (w1.setCell ⟨R, 0, none⟩ (.slice (some ⟨g, 0, none⟩) x.2.length cap)) (.slice (some ⟨g, 0, none⟩) x.2.length cap) x.2 ∧ DkAt (w1.setCell ⟨R, 0, none⟩ (.slice (some ⟨g, 0, none⟩) x.2.length cap)) D vp x.1 ∧ KeptX D w (w1.setCell ⟨R, 0, none⟩ (.slice (some ⟨g, 0, none⟩) x.2.length cap)) := ⟨(hrow.low hsz).off hR1 _, hd.odd (odd_set hR1 _), hx1.setCell (p := ⟨R, 0, none⟩) (.inr (unhide HR).1) _⟩
    have l2 : (w1.setCell ⟨R, 0, none⟩ (.slice (some ⟨g, 0, none⟩) x.2.length cap)).heap[R]? = some (.cells #[.slice (some ⟨g, 0, none⟩) x.2.length cap] 38) := by simpa using l1
    have HE := hide (And.intro l2 hE)
    have y1 := cell_lays l2 0
    have z2 := frozen_lays l2 0
    simp only [List.getElem?_toArray, List.getElem?_cons_zero] at c1 y1
    clear l1 l2 hE hrow hd hx hx1 hR1 HC
    by_cases h0 : x.2 = []
    · have hlen : x.2.length = 0 := by simp [h0]
      have hans : ansD O s ws = (x.1, [[45]]) := by unfold ansD; rw [hdo]; simp [h0]
      rw [hlen] at HE y1 z2 ⊢
      have hsz2 : (w1.setCell ⟨R, 0, none⟩ (.slice (some ⟨g, 0, none⟩) 0 cap)).heap.size = w1.heap.size := by simp
      have hr := RowS.one (w1.setCell ⟨R, 0, none⟩ (.slice (some ⟨g, 0, none⟩) 0 cap)) [45]
      have l3 := lays_alloc (unhide HE).1 (.cells #[.string ⟨#[45]⟩] 9)
      have y3 := cell_lays l3 0
      have z3 := frozen_lays l3 0
      simp only [List.getElem?_toArray, List.getElem?_cons_zero] at y3
      have k3 := (Kept.refl (w1.setCell ⟨R, 0, none⟩ (.slice (some ⟨g, 0, none⟩) 0 cap))).alloc (.cells #[.string ⟨#[45]⟩] 9)
      have l4 := lays_set l3 0 (.slice (some ⟨w1.heap.size, 0, none⟩) 1 1)
      have t4 := cell_lays l4 0
      rw [hsz2] at hr
      have hsz3 : w.heap.size ≤ w1.heap.size := by rw [← hsz2]; exact (unhide HE).2.2.2.size
      have HF : Hid (RowS w.heap.size (((w1.setCell ⟨R, 0, none⟩ (.slice (some ⟨g, 0, none⟩) 0 cap)).alloc (.cells #[.string ⟨#[45]⟩] 9)).setCell ⟨R, 0, none⟩ (.slice (some ⟨w1.heap.size, 0, none⟩) 1 1)) (.slice (some ⟨w1.heap.size, 0, none⟩) 1 1) [[45]] ∧ DkAt (((w1.setCell ⟨R, 0, none⟩ (.slice (some ⟨g, 0, none⟩) 0 cap)).alloc (.cells #[.string ⟨#[45]⟩] 9)).setCell ⟨R, 0, none⟩ (.slice (some ⟨w1.heap.size, 0, none⟩) 1 1)) D vp x.1 ∧ KeptX D w (((w1.setCell ⟨R, 0, none⟩ (.slice (some ⟨g, 0, none⟩) 0 cap)).alloc (.cells #[.string ⟨#[45]⟩] 9)).setCell ⟨R, 0, none⟩ (.slice (some ⟨w1.heap.size, 0, none⟩) 1 1))) := hide ⟨(hr.low hsz3).off l3 _, ((unhide HE).2.2.1.kept k3).odd (odd_set l3 _), ((unhide HE).2.2.2.trans (.of k3)).setCell (p := ⟨R, 0, none⟩) (.inr (unhide HR).1) _⟩
      simp only [List.setIfInBounds_toArray, List.set_cons_zero, List.getElem?_toArray, List.getElem?_cons_zero] at t4
      clear hr l3 l4 k3
      go_wp2_with fail
      refine leaves_cons (f := 40) (args := #[.pointer (some ⟨R, 0, none⟩)]) (by simp) (by simp [go_sem]) ?_
      refine (idleD R _).mono ?_
      rintro e u' w2 ⟨rfl, rfl, rfl⟩
      simp [Leaves, settle, results, Tryz.results18, go_sem, t4]
      rw [hans]
      exact unhide HF
    · have hlen : 0 < x.2.length := by cases hq : x.2 with | nil => exact absurd hq h0 | cons => simp
      have hans : ansD O s ws = (x.1, x.2) := by unfold ansD; rw [hdo]; simp [h0]
      have hb : ((x.2.length : Int) == 0) = false := by simp; omega
      have l3 := lays_set (unhide HE).1 0 (.slice (some ⟨g, 0, none⟩) x.2.length cap)
      have t4 := cell_lays l3 0
      simp only [List.setIfInBounds_toArray, List.set_cons_zero, List.getElem?_toArray, List.getElem?_cons_zero] at t4
      have HF : Hid (RowS w.heap.size ((w1.setCell ⟨R, 0, none⟩ (.slice (some ⟨g, 0, none⟩) x.2.length cap)).setCell ⟨R, 0, none⟩ (.slice (some ⟨g, 0, none⟩) x.2.length cap)) (.slice (some ⟨g, 0, none⟩) x.2.length cap) x.2 ∧ DkAt ((w1.setCell ⟨R, 0, none⟩ (.slice (some ⟨g, 0, none⟩) x.2.length cap)).setCell ⟨R, 0, none⟩ (.slice (some ⟨g, 0, none⟩) x.2.length cap)) D vp x.1 ∧ KeptX D w ((w1.setCell ⟨R, 0, none⟩ (.slice (some ⟨g, 0, none⟩) x.2.length cap)).setCell ⟨R, 0, none⟩ (.slice (some ⟨g, 0, none⟩) x.2.length cap))) := hide ⟨(unhide HE).2.1.off (unhide HE).1 _, (unhide HE).2.2.1.odd (odd_set (unhide HE).1 _), (unhide HE).2.2.2.setCell (p := ⟨R, 0, none⟩) (.inr (unhide HR).1) _⟩
      clear l3
      generalize x.2.length = ln at *
      go_wp2_with fail
      refine leaves_cons (f := 40) (args := #[.pointer (some ⟨R, 0, none⟩)]) (by simp) (by simp [go_sem]) ?_
      refine (idleD R _).mono ?_
      rintro e u' w2 ⟨rfl, rfl, rfl⟩
      simp [Leaves, settle, results, Tryz.results18, go_sem, t4]
      rw [hans]
      exact unhide HF
end Go.Proofs.YtokhibfenccijaaGreatDoor
