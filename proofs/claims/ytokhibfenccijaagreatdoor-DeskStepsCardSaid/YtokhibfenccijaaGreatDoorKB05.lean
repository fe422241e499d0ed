/- TextJ, TextK, TextL, TextM, StateT, DeskS -/
import Derived.Test.YtokhibfenccijaaGreatDoorKB04
import Derived.Test.YtokhibfenccijaaGreatDoorKB01
import Derived.Lib.SplitLaws
import Derived.Lib.Split
import Derived.Lib.IndexBytes
import Derived.Recover
import Derived.Defers
set_option maxRecDepth 100000
set_option maxHeartbeats 8000000
namespace Go.Proofs.YtokhibfenccijaaGreatDoor
open Go.RowKit Go.Maps
def addOpT (p : List Fn) (x : Int × Int) : List Fn := match p.getLast? with
  | none => p
  | some f => p.dropLast ++ [⟨f.args, f.locals, f.code ++ [x]⟩]
def stepT (p : List Fn) : List (List UInt8) → Option (List Fn)
  | [] => none
  | wd :: r => match numsT r with
    | none => none
    | some l => if wd = [102, 117, 110, 99] then (if l.length = 2 then some (p ++ [⟨l.getD 0 0, l.getD 1 0, []⟩]) else none)
      else if p = [] then none else match opOfT wd l with
        | none => none
        | some x => some (addOpT p x)
def TLinePost (b : Nat) (p : List Fn) (ws : List (List UInt8)) (w : World) (e : Ending) (w' : World) : Prop := match stepT p ws with
  | some p' => ∃ v' m', e = .returned v' ∧ PrR b m' w' v' p' ∧ Below b w w'
  | none => e = leftT ∧ Below b w w'
structure EnvT (w : World) : Prop where
  tab : TabW w
  errs : ErrsAt w
  kinds : TKAt w
  most : ∃ m, w.cell? ⟨1, 0, none⟩ = some (.int .i64 m)
theorem EnvT.kept {w w' : World} (h : EnvT w) (k : Kept w w') : EnvT w' := ⟨h.tab.kept k, h.errs.kept k, h.kinds.kept k, by obtain ⟨m, hm⟩ := h.most; exact ⟨m, k.cell hm⟩⟩
theorem withLine_any (w : World) (b m : Nat) (v lv : Value) (p : List Fn) (wd : List UInt8) (r : List (List UInt8)) (hp : PrR b m w v p) (hl : p.length ≤ 10000) (hlc : ∀ f ∈ p, f.code.length ≤ 10000) (hs : StrsW w lv (wd :: r)) (hw : ∀ x ∈ wd :: r, x.length ≤ 100000) (henv : EnvT w) :
    Calls Tryz.prog 64 #[v, lv] w (TLinePost b p (wd :: r) w) := by
  obtain ⟨oa, cap, rfl, hn, hi⟩ := hs
  obtain ⟨gb, go, rfl, c0⟩ := hi 0 wd rfl
  simp only [List.length_cons] at hn
  have hSR : ∀ u, Kept w u → StrsW u (.slice (if cap = 1 then some ⟨gb, go, none⟩ else some ⟨gb, go + 1, none⟩) r.length (cap - 1)) r := fun u hu => by
    by_cases hc1 : cap = 1
    · have hr0 : r = [] := List.eq_nil_of_length_eq_zero (by omega)
      subst hr0
      exact ⟨_, _, rfl, by simp, fun i x hx => by simp at hx⟩
    · rw [if_neg hc1]
      refine ⟨_, _, rfl, by omega, fun i x hx => ⟨gb, go + 1, rfl, ?_⟩⟩
      obtain ⟨b', o', e, c⟩ := hi (i + 1) x (by simpa using hx)
      cases e
      rw [show go + 1 + i = go + (i + 1) by omega]
      exact hu.cell c
  have HNU : Hid (∀ u, Kept w u → Calls Tryz.prog 93 #[.slice (if cap = 1 then some ⟨gb, go, none⟩ else some ⟨gb, go + 1, none⟩) r.length (cap - 1)] u (NumsPost r u)) := hide fun u hu => numbersOf_any u _ r (hSR u hu) (fun x hx => hw x (by simp [hx])) (henv.tab.kept hu) (henv.errs.kept hu)
  have HS0 : Hid (Kept w w.drew) := hide ((Kept.refl w).drew)
  unfold strV at c0
  rw [Nat.add_zero] at c0
  have HP := hide hp
  have HE := hide henv
  clear hi hSR hp henv
  generalize hWD : (ByteArray.mk wd.toArray) = WD at *
  generalize hRN : r.length = rn at *
  obtain ⟨ov, cv, rfl⟩ : ∃ ov cv, v = .slice ov p.length cv := by
    obtain ⟨_, _, c, hr, _⟩ := unhide HP
    obtain ⟨oa, cp, e, _⟩ := rowT_at hr
    exact ⟨oa, cp, e⟩
  simp only [List.length_cons, hRN]
  go_enter Tryz.func64, Tryz.ntmps64
  go_wp2_with fail
  refine wp_region_held_drew (S := fun y => Kept w y) (by kernel_rfl) (unhide HS0) (fun hHeld => ?_)
  have hr1 : (1 : Int) ≤ (rn : Int) + 1 := by omega
  refine planY [0, 1, 2, 3, 4] ?_
  repeat
    refine takeY (v := ?_) hHeld (fun u hSu => ?_) ?_
    rotate_left
    · (have y0 := Kept.cell hSu c0; (try dsimp only at y0); go_simp) <;> with_reducible rfl
    try simp only [Act.put, List.setIfInBounds_toArray, List.set_cons_zero, List.set_cons_succ]
  refine endY ?_
  generalize (if cap = 1 then some (⟨gb, go, none⟩ : Addr) else some ⟨gb, go + 1, none⟩) = oS at *
  have HC := hide ((unhide HNU) w.drew hHeld)
  refine take_one (i := 5) rfl (by kernel_rfl) (fun K hK => ?_)
  go_simp
  refine (unhide HC).mono ?_
  intro e w2 hpost
  unfold NumsPost at hpost
  cases hnu : numsT r with
  | none =>
    rw [hnu] at hpost
    obtain ⟨rfl, k2⟩ := hpost
    have HST : Hid (stepT p (wd :: r) = none) := hide (by simp only [stepT, hnu])
    have HK2 : Hid (Below b w w2) := hide (by
      have h1 := (unhide HP).1
      have h2 := (unhide HP).2.1
      exact ⟨k2.os, k2.tape, k2.output, k2.size, fun g hg => k2.block g (by show g < w.heap.size; omega)⟩)
    clear k2 HC HNU hK hnu
    dsimp only [leftT]
    refine ⟨rfl, ?_⟩
    unfold TLinePost
    rw [unhide HST]
    exact ⟨rfl, unhide HK2⟩
  | some l =>
    rw [hnu] at hpost
    obtain ⟨g, rfl, hcur, k2⟩ := hpost
    have kw : Kept w w2 := hHeld.trans k2
    refine hK.out _ _ kw (fun hHeld => ?_)
    clear hK K
    try simp only [Act.put, List.setIfInBounds_toArray, List.set_cons_zero, List.set_cons_succ]
    refine take_one (i := 6) rfl (by kernel_rfl) (fun K hK => ?_)
    go_simp
    refine hK.out _ _ hHeld (fun hHeld => ?_)
    clear hK K
    try simp only [Act.put, List.setIfInBounds_toArray, List.set_cons_zero, List.set_cons_succ]
    refine take_one (i := 7) rfl (by kernel_rfl) (fun K hK => ?_)
    go_simp
    refine hK.out _ _ hHeld (fun hHeld => ?_)
    clear hK K
    try simp only [Act.put, List.setIfInBounds_toArray, List.set_cons_zero, List.set_cons_succ]
    refine wpAnyH_done (by kernel_rfl) ?_ _
    have HY : Hid (∀ u, Calls Tryz.prog 63 #[.bool true] u fun e w' => e = .returned (.tuple #[]) ∧ u = w') := hide fun u => (ask_yes u).mono fun _ _ h => ⟨h.1, h.2.symm⟩
    have HO : Hid (∀ u, Calls Tryz.prog 63 #[.bool false] u fun e w' => e = leftT ∧ u = w') := hide fun u => (ask_no u).mono fun _ _ h => ⟨h.1, h.2.symm⟩
    have HP2 := hide ((unhide HP).kept kw)
    have HCU := hide hcur
    have HKW := hide kw
    have HB : Hid (∀ u, Kept w u → Below b w u) := hide (by
      have h1 := (unhide HP).1
      have h2 := (unhide HP).2.1
      exact fun u hu => ⟨hu.os, hu.tape, hu.output, hu.size, fun g hg => hu.block g (by omega)⟩)
    have HNU2 := hide hnu
    clear hHeld hcur k2 kw hnu HC HNU c0 HP
    by_cases hf : wd = [102, 117, 110, 99]
    · have hq : (WD.toList == [102, 117, 110, 99]) = true := by rw [← hWD, ByteArray.toList_mk, hf]; rfl
      have HF := hide hf
      generalize hLN : l.length = nl at *
      have HLN := hide hLN
      clear hf hWD hLN
      by_cases h2 : nl = 2
      · subst h2
        go_wp2_with fail
        refine ((unhide HY) _).mono ?_
        rintro _ _ ⟨rfl, rfl⟩
        obtain ⟨x0, x1, hl2⟩ : ∃ x0 x1, l = [x0, x1] := by
          match l, unhide HLN with
          | [x0, x1], _ => exact ⟨x0, x1, rfl⟩
        obtain ⟨cur, hc1, hc2⟩ := unhide HCU
        have d0 : cur[0]? = some (.int .i64 x0) := hc2 0 x0 (by rw [hl2]; rfl)
        have d1 : cur[1]? = some (.int .i64 x1) := hc2 1 x1 (by rw [hl2]; rfl)
        have HST : Hid (stepT p (wd :: r) = some (p ++ [⟨x0, x1, []⟩])) := hide (by simp only [stepT, unhide HNU2, unhide HF, if_true, hl2]; rfl)
        obtain ⟨v3, w3, hrun, hpr, hbl, hst⟩ := ((unhide HP2).kept ((Kept.refl w2).drew)).addFn (by omega) x0 x1
        have HR := hide hrun
        have HPR := hide hpr
        have HBL : Hid (Below b w w3) := hide (Below.trans ((unhide HB) _ ((unhide HKW).drew)) hbl)
        have HS1 : Hid (w2.drew.heap[g]? = some (.cells cur 3)) := hide hc1
        have HS2 := hide (lays_alloc (unhide HS1) (.cells #[.int .i64 x0, .int .i64 x1, .slice none 0 0] 69))
        have HS3 := hide (hst g cur hc1)
        clear hc1 hc2 hrun hpr hbl hst hl2 HCU HP2
        go_wp2_with fail
        refine wp_region_held_drew (S := fun y => y.heap[g]? = some (.cells cur 3)) (by kernel_rfl) (unhide HS1) (fun hHeld => ?_)
        refine planY [0, 1, 2, 3, 4, 5, 6, 7] ?_
        repeat
          refine takeY (v := ?_) hHeld (fun u hSu => ?_) ?_
          rotate_left
          · (have y0 := (cell_lays hSu 0).trans d0; have y1 := (cell_lays hSu 1).trans d1; (try dsimp only at y0 y1); go_simp) <;> with_reducible rfl
          try simp only [Act.put, List.setIfInBounds_toArray, List.set_cons_zero, List.set_cons_succ]
        refine endY ?_
        refine take_one (i := 8) rfl (by kernel_rfl) (fun K hK => ?_)
        go_simp
        refine hK.out _ _ (unhide HS2) (fun hHeld => ?_)
        clear hK K
        try simp only [Act.put, List.setIfInBounds_toArray, List.set_cons_zero, List.set_cons_succ]
        refine take_one (i := 9) rfl (by kernel_rfl) (fun K hK => ?_)
        rw [if_pos (by rfl)]
        refine wp_appR _ _ _ 27 rfl rfl rfl (unhide HR) ?_
        refine hK.out _ _ (unhide HS3) (fun hHeld => ?_)
        clear hK K HR
        try simp only [Act.put, List.setIfInBounds_toArray, List.set_cons_zero, List.set_cons_succ]
        refine take_one (i := 10) rfl (by kernel_rfl) (fun K hK => ?_)
        go_simp
        refine hK.out _ _ hHeld (fun hHeld => ?_)
        clear hK K
        try simp only [Act.put, List.setIfInBounds_toArray, List.set_cons_zero, List.set_cons_succ]
        refine wpAnyH_done (by kernel_rfl) ?_ _
        clear hHeld
        go_wp2_with fail
        go_ret
        unfold TLinePost
        rw [unhide HST]
        exact ⟨_, _, rfl, unhide HPR, unhide HBL⟩
      · have hq2 : ((nl : Int) == 2) = false := by simp; omega
        have HST : Hid (stepT p (wd :: r) = none) := hide (by simp only [stepT, unhide HNU2, unhide HF, if_true, unhide HLN, if_neg h2])
        clear h2
        go_wp2_with fail
        refine ((unhide HO) _).mono ?_
        rintro _ _ ⟨rfl, rfl⟩
        dsimp only [leftT]
        go_wp2_with fail
        refine ⟨rfl, ?_⟩
        unfold TLinePost
        rw [unhide HST]
        exact ⟨rfl, (unhide HB) _ (unhide HKW)⟩
    · have hq : (WD.toList == [102, 117, 110, 99]) = false := by rw [← hWD, ByteArray.toList_mk]; simpa using hf
      have HF := hide hf
      have HOP : Hid (∀ u, Kept w2 u → Calls Tryz.prog 94 #[.string WD, .slice (some ⟨g, 0, none⟩) l.length l.length] u (OpPost wd l u)) := hide fun u hu => by
        rw [← hWD]
        obtain ⟨cur, hc1, hc2⟩ := unhide HCU
        exact opOf_any u wd g l.length l rfl ⟨cur, lays_kept hu hc1, hc2⟩ (by have := (numsT_at (unhide HNU2)).1; omega) ((unhide HE).kinds.kept ((unhide HKW).trans hu))
      clear hf hWD HCU
      by_cases hp0 : p = []
      · subst hp0
        have HST : Hid (stepT [] (wd :: r) = none) := hide (by simp only [stepT, unhide HNU2, if_neg (unhide HF), if_true])
        simp only [List.length_nil]
        go_wp2_with fail
        refine ((unhide HO) _).mono ?_
        rintro _ _ ⟨rfl, rfl⟩
        dsimp only [leftT]
        go_wp2_with fail
        refine ⟨rfl, ?_⟩
        unfold TLinePost
        rw [unhide HST]
        exact ⟨rfl, (unhide HB) _ (unhide HKW)⟩
      · obtain ⟨q, f, rfl⟩ : ∃ q f, p = q ++ [f] := ⟨p.dropLast, p.getLast hp0, (List.dropLast_concat_getLast hp0).symm⟩
        have hlf := hlc f (by simp)
        simp only [List.length_append, List.length_cons, List.length_nil, Nat.zero_add] at hl HP2 ⊢
        obtain ⟨gp, cap0, cvv, oc, cc, e1, rfl, e3, e4, _, _⟩ := (unhide HP2).last
        simp only [Value.slice.injEq] at e1
        obtain ⟨rfl, _, rfl⟩ := e1
        have hq0 : (0 : Int) < (q.length : Int) + 1 := by omega
        have HSA : Hid (w2.drew.cell? ⟨gp, q.length * 3 + 2, none⟩ = some (.slice oc f.code.length cc)) := hide e3
        have HLAST : Hid ((q ++ [f]).getLast? = some f ∧ (q ++ [f]).dropLast = q) := hide ⟨by simp, by simp⟩
        generalize hFC : f.code.length = fc at *
        have HFC := hide hFC
        clear e3 e4 hlc hp0 hFC
        go_wp2_with fail
        refine ((unhide HY) _).mono ?_
        rintro _ _ ⟨rfl, rfl⟩
        go_wp2_with fail
        refine wp_regionP 12 [0, 1, 2, 3, 4, 5, 6] (fun u => u.cell? ⟨gp, q.length * 3 + 2, none⟩ = some (.slice oc fc cc)) (by kernel_rfl) ?_
        have hHeld := unhide HSA
        repeat
          refine takeP (v := ?_) hHeld (fun u hSu => ?_) ?_
          rotate_left
          · ((try dsimp only at hSu); go_simp) <;> with_reducible rfl
          try simp only [Act.put, List.setIfInBounds_toArray, List.set_cons_zero, List.set_cons_succ]
        refine takeP_end ?_
        have HC := hide ((unhide HOP) w2.drew ((Kept.refl w2).drew))
        refine takeT_one (i := 7) rfl (by kernel_rfl) (fun K hK => ?_)
        go_simp
        refine (unhide HC).mono ?_
        intro e w4 hpost
        unfold OpPost at hpost
        cases hot : opOfT wd l with
        | none =>
          rw [hot] at hpost
          obtain ⟨rfl, k4⟩ := hpost
          have HST : Hid (stepT (q ++ [f]) (wd :: r) = none) := hide (by simp only [stepT, unhide HNU2, if_neg (unhide HF), if_neg (show ¬ (q ++ [f] = []) by simp), hot])
          have HK4 := hide ((unhide HB) _ (((unhide HKW).drew).trans k4))
          clear hK k4 hot
          dsimp only [leftT]
          refine ⟨rfl, ?_⟩
          unfold TLinePost
          rw [unhide HST]
          exact ⟨rfl, unhide HK4⟩
        | some x =>
          rw [hot] at hpost
          obtain ⟨rfl, k4⟩ := hpost
          have HST : Hid (stepT (q ++ [f]) (wd :: r) = some (q ++ [⟨f.args, f.locals, f.code ++ [x]⟩])) := hide (by simp only [stepT, unhide HNU2, if_neg (unhide HF), if_neg (show ¬ (q ++ [f] = []) by simp), hot, addOpT, (unhide HLAST).1, (unhide HLAST).2])
          have hS4 := k4.cell hHeld
          obtain ⟨v5, w5, hrun, ⟨oc5, nc5, cc5, rfl⟩, z1, z2, hpr, hbl⟩ := (((unhide HP2).kept ((Kept.refl w2).drew)).kept k4).addOp hS4 x (by have := unhide HFC; omega)
          have HR := hide hrun
          have HPR := hide hpr
          have HBL := hide (Below.trans ((unhide HB) _ (((unhide HKW).drew).trans k4)) hbl)
          have hS4a := ((Kept.refl w4).alloc (.cells #[.int .i64 x.1, .int .i64 x.2] 72)).cell hS4
          refine hK.out _ _ (fun _ => hS4) ?_
          clear hK K hrun hpr hbl k4 hot
          try simp only [Act.put, List.setIfInBounds_toArray, List.set_cons_zero, List.set_cons_succ]
          refine takeT_one (i := 8) rfl (by kernel_rfl) (fun K hK => ?_)
          go_simp
          refine hK.out _ _ (fun _ => hS4a) ?_
          clear hK K
          try simp only [Act.put, List.setIfInBounds_toArray, List.set_cons_zero, List.set_cons_succ]
          refine takeT_one (i := 9) rfl (by kernel_rfl) (fun K hK => ?_)
          rw [if_pos (by rfl)]
          refine wp_appR _ _ _ 67 rfl rfl rfl (unhide HR) ?_
          refine hK.out _ _ (fun _ => z1) ?_
          clear hK K HR
          try simp only [Act.put, List.setIfInBounds_toArray, List.set_cons_zero, List.set_cons_succ]
          refine takeT_one (i := 10) rfl (by kernel_rfl) (fun K hK => ?_)
          go_simp
          refine hK.out _ _ (fun _ => z1) ?_
          clear hK K
          try simp only [Act.put, List.setIfInBounds_toArray, List.set_cons_zero, List.set_cons_succ]
          refine takeT_one (i := 11) rfl (by kernel_rfl) (fun K hK => ?_)
          go_simp
          refine hK.out _ _ (fun _ => z1) ?_
          clear hK K
          try simp only [Act.put, List.setIfInBounds_toArray, List.set_cons_zero, List.set_cons_succ]
          refine takeT_one (i := 12) rfl (by kernel_rfl) (fun K hK => ?_)
          go_simp
          refine hK.out _ _ (fun h => absurd rfl h) ?_
          clear hK K
          try simp only [Act.put, List.setIfInBounds_toArray, List.set_cons_zero, List.set_cons_succ]
          refine takeT_done (by kernel_rfl) ?_ _
          clear hS4 hS4a hHeld z1 z2
          go_wp2_with fail
          go_ret
          unfold TLinePost
          rw [unhide HST]
          exact ⟨_, _, rfl, unhide HPR, unhide HBL⟩
def splitT (c : UInt8) : List UInt8 → List (List UInt8)
  | [] => [[]]
  | b :: l => if b = c then [] :: splitT c l else match splitT c l with
    | [] => [[b]]
    | y :: ys => (b :: y) :: ys
theorem splitT_ne (c : UInt8) : ∀ l, splitT c l ≠ []
  | [] => by simp [splitT]
  | b :: l => by
    unfold splitT
    split
    · simp
    · split <;> simp
theorem splitK_eq (c : UInt8) (k : Nat) (l : List UInt8) : Lib.splitK [c] 0 (k + 1) (c :: l) = [] :: Lib.splitK [c] 0 k l := by
  have h : Lib.index (c :: l) [c] = 0 := by rw [Lib.index_one]; simp [Lib.indexByte]
  unfold Lib.splitK
  rw [h, if_neg (by decide)]
  cases k <;> simp [Lib.splitK]
theorem split_is (c : UInt8) : ∀ l, Lib.split l [c] = splitT c l
  | [] => by
    have : Lib.count [] [c] = 0 := by rw [Lib.count_one]; rfl
    unfold Lib.split
    rw [this]
    rfl
  | b :: l => by
    have ih := split_is c l
    unfold Lib.split at ih ⊢
    unfold splitT
    by_cases hb : b = c
    · subst hb
      rw [if_pos rfl, Lib.count_cons_eq, Nat.add_comm, splitK_eq, ih]
    · rw [if_neg hb, Lib.count_cons_ne b c l hb, ← ih]
      cases hk : Lib.count l [c] with
      | zero => rfl
      | succ k =>
        have hi : Lib.index l [c] ≠ -1 := fun h => by
          rw [Lib.count_miss h] at hk
          cases hk
        have h1 : Lib.index (b :: l) [c] = Lib.index l [c] + 1 := by
          rw [Lib.index_one, Lib.index_one]
          rw [Lib.index_one] at hi
          simp [Lib.indexByte, hb, hi]
        have h0 : 0 ≤ Lib.index l [c] := by
          have := Lib.indexByte_ge l c
          rw [Lib.index_one] at hi ⊢
          omega
        obtain ⟨i, hi'⟩ := Int.eq_ofNat_of_zero_le h0
        unfold Lib.splitK
        rw [h1, hi', if_neg (by simp; omega), if_neg (by simp)]
        have e1 : ((i : Int) + 1).toNat = i + 1 := by omega
        rw [e1, Int.toNat_natCast]
        simp
theorem split_length (c : UInt8) (l : List UInt8) : (splitT c l).length = l.count c + 1 := by
  induction l with
  | nil => rfl
  | cons b l ih =>
    unfold splitT
    by_cases hb : b = c
    · subst hb; simp [ih]
    · rw [if_neg hb]
      cases hs : splitT c l with
      | nil => exact absurd hs (splitT_ne c l)
      | cons y ys =>
        rw [hs] at ih
        simp [List.count_cons_of_ne hb] at ih ⊢
        exact ih
theorem split_none {c : UInt8} : ∀ {x : List UInt8}, c ∉ x → splitT c x = [x]
  | [], _ => rfl
  | b :: x, h => by
    have hb : b ≠ c := fun e => h (by simp [e])
    unfold splitT
    rw [if_neg hb, split_none (fun e => h (by simp [e]))]
theorem split_app {c : UInt8} (l : List UInt8) : ∀ {x : List UInt8}, c ∉ x → splitT c (x ++ c :: l) = x :: splitT c l
  | [], _ => by simp [splitT]
  | b :: x, h => by
    have hb : b ≠ c := fun e => h (by simp [e])
    rw [List.cons_append]
    conv => lhs; unfold splitT
    rw [if_neg hb, split_app l (fun e => h (by simp [e]))]
theorem split_join {c : UInt8} : ∀ {xs : List (List UInt8)}, xs ≠ [] → (∀ x ∈ xs, c ∉ x) → splitT c (Lib.join xs [c]) = xs
  | [], h, _ => absurd rfl h
  | [x], _, h => by rw [Lib.join_one]; exact split_none (h x (by simp))
  | x :: y :: ys, _, h => by
    have ih := split_join (xs := y :: ys) (by simp) (fun z hz => h z (by simp [hz]))
    rw [Lib.join_cons]
    have : Lib.joinTail [c] (y :: ys) = c :: Lib.join (y :: ys) [c] := by rw [Lib.join_cons]; simp [Lib.joinTail]
    rw [this, split_app _ (h x (by simp)), ih]
theorem splitB_is (c : UInt8) (l : List UInt8) : (Lib.splitB ⟨#[c]⟩ 0 (Lib.countB ⟨l.toArray⟩ ⟨#[c]⟩) ⟨l.toArray⟩).map Value.string = (splitT c l).map strV ∧ Lib.countB ⟨l.toArray⟩ ⟨#[c]⟩ + 1 = (splitT c l).length := by
  have hc : Lib.countB ⟨l.toArray⟩ ⟨#[c]⟩ = Lib.count l [c] := by simp [Lib.countB]
  refine ⟨?_, by rw [hc, Lib.count_one, split_length]⟩
  have h := Lib.splitB_data ⟨#[c]⟩ 0 (Lib.countB ⟨l.toArray⟩ ⟨#[c]⟩) ⟨l.toArray⟩
  have h2 : (Lib.splitB ⟨#[c]⟩ 0 (Lib.countB ⟨l.toArray⟩ ⟨#[c]⟩) ⟨l.toArray⟩).map (·.data.toList) = splitT c l := by
    rw [h, hc, ← split_is c l]
    simp [Lib.split]
  rw [← h2, List.map_map]
  apply List.map_congr_left
  intro x _
  cases x
  simp [strV]
theorem split_any (w : World) (c : UInt8) (l : List UInt8) (hl : l.length ≤ 100000) (he : EnvT w) :
    Calls Tryz.prog 36 #[.string ⟨l.toArray⟩, .string ⟨#[c]⟩] w fun e w' => ∃ g n, e = .returned (.slice (some ⟨g, 0, none⟩) n n) ∧ n = (splitT c l).length ∧ StrsW w' (.slice (some ⟨g, 0, none⟩) n n) (splitT c l) ∧ Kept w w' := by
  obtain ⟨m, hm⟩ := he.most
  obtain ⟨q1, q2⟩ := splitB_is c l
  refine (Tryz.strings_Split ⟨l.toArray⟩ ⟨#[c]⟩ m w (by simp [ByteArray.size]; omega) hm (by simp [ByteArray.size])).mono ?_
  rintro e w' ⟨rfl, rfl⟩
  rw [q1, q2]
  refine ⟨_, _, rfl, rfl, ⟨_, _, rfl, ⟨?_, Nat.le_refl _⟩, fun i x hx => ⟨_, 0, rfl, ?_⟩⟩, (Kept.refl w).alloc _⟩
  · rw [split_length]
    have := List.count_le_length (a := c) (l := l)
    omega
  · rw [cell_lays (lays_new rfl), Nat.zero_add]
    simp [hx]
theorem of_any (w : World) (l : List UInt8) (hl : l.length ≤ 100000) (he : EnvT w) :
    Calls Tryz.prog 19 #[.string ⟨l.toArray⟩] w fun e w' => ∃ g n, e = .returned (.slice (some ⟨g, 0, none⟩) n n) ∧ n = (splitT 32 l).length ∧ StrsW w' (.slice (some ⟨g, 0, none⟩) n n) (splitT 32 l) ∧ Kept w w' := by
  have HC := hide (split_any w 32 l hl he)
  generalize (ByteArray.mk l.toArray) = S at *
  clear he
  go_enter Tryz.func19, Tryz.ntmps19
  go_wp2_with fail
  refine (unhide HC).mono ?_
  rintro _ w2 ⟨g, n, rfl, hn, hs, hk⟩
  have HR := hide (And.intro hn (And.intro hs hk))
  clear hn hs hk HC
  go_wp2_with fail
  go_ret
  exact ⟨g, n, rfl, unhide HR⟩
def linesT (l : List UInt8) : Option (List (List UInt8)) := if l = [] then some [] else if l.getLast? = some 10 then some (splitT 10 l.dropLast) else none
def LinesPost (l : List UInt8) (w : World) (e : Ending) (w' : World) : Prop := match linesT l with
  | some ls => ∃ oa n cap, e = .returned (.tuple #[.slice oa n cap, .bool true]) ∧ n = ls.length ∧ StrsW w' (.slice oa n cap) ls ∧ Kept w w'
  | none => e = .returned (.tuple #[.slice none 0 0, .bool false]) ∧ Kept w w'
theorem suffix_nl (l : List UInt8) : Lib.hasSuffix l [10] = decide (l.getLast? = some 10) := by
  unfold Lib.hasSuffix
  rw [Bool.eq_iff_iff, List.isSuffixOf_iff_suffix, decide_eq_true_iff]
  constructor
  · rintro ⟨t, rfl⟩; simp
  · intro h
    obtain ⟨t, rfl⟩ : ∃ t, l = t ++ [10] := by
      have hne : l ≠ [] := fun e => by simp [e] at h
      refine ⟨l.dropLast, ?_⟩
      have := List.dropLast_concat_getLast hne
      rw [List.getLast?_eq_some_getLast hne] at h
      simp only [Option.some.injEq] at h
      rw [h] at this
      exact this.symm
    exact ⟨t, rfl⟩
theorem lines_any (w : World) (l : List UInt8) (hl : l.length ≤ 100000) (he : EnvT w) : Calls Tryz.prog 14 #[.string ⟨l.toArray⟩] w (LinesPost l w) := by
  by_cases h0 : l = []
  · subst h0
    have h3 : (ByteArray.mk ([] : List UInt8).toArray).toList.isEmpty = true := by rw [ByteArray.toList_mk]; rfl
    generalize (ByteArray.mk ([] : List UInt8).toArray) = S at *
    clear he
    go_enter Tryz.func14, Tryz.ntmps14
    go_wp2_with fail
    go_ret2
    unfold LinesPost linesT
    rw [if_pos rfl]
    exact ⟨none, 0, 0, rfl, rfl, ⟨_, _, rfl, by simp, fun i x hx => by simp at hx⟩, Kept.refl w⟩
  · have h3 : (ByteArray.mk l.toArray).toList.isEmpty = false := by rw [ByteArray.toList_mk]; simpa using h0
    have hsz : (ByteArray.mk l.toArray).size = l.length := by simp [ByteArray.size]
    have hcs := Tryz.strings_CutSuffix ⟨l.toArray⟩ ⟨#[10]⟩ w (by rw [hsz]; omega)
    have hsf := suffix_nl l
    by_cases h1 : l.getLast? = some 10
    · have ht : Lib.trimSuffix l [10] = l.dropLast := by
        unfold Lib.trimSuffix
        rw [hsf, decide_eq_true h1, if_pos rfl, List.dropLast_eq_take]
        rfl
      have HC : Hid (Calls Tryz.prog 35 #[.string ⟨l.toArray⟩, .string ⟨#[10]⟩] w fun e w' => e = .returned (.tuple #[.string ⟨l.dropLast.toArray⟩, .bool true]) ∧ w = w') := hide (hcs.mono fun _ _ ⟨q1, q2⟩ => ⟨by rw [q1]; simp [ht, hsf, h1], q2.symm⟩)
      have HS := hide (split_any w 10 l.dropLast (by simp; omega) he)
      have HL : Hid (linesT l = some (splitT 10 l.dropLast)) := hide (by unfold linesT; rw [if_neg h0, if_pos h1])
      generalize (ByteArray.mk l.toArray) = S at *
      generalize (ByteArray.mk l.dropLast.toArray) = D at *
      clear he h0 hcs hsf h1 ht hsz
      go_enter Tryz.func14, Tryz.ntmps14
      go_wp2_with fail
      refine (unhide HC).mono ?_
      rintro _ _ ⟨rfl, rfl⟩
      go_wp2_with fail
      refine (unhide HS).mono ?_
      rintro _ w2 ⟨g, n, rfl, hn, hs, hk⟩
      have HR := hide (And.intro hn (And.intro hs hk))
      clear hn hs hk HC HS
      go_wp2_with fail
      go_ret2
      unfold LinesPost
      rw [unhide HL]
      exact ⟨_, n, n, rfl, unhide HR⟩
    · have HC : Hid (Calls Tryz.prog 35 #[.string ⟨l.toArray⟩, .string ⟨#[10]⟩] w fun e w' => ∃ D, e = .returned (.tuple #[.string D, .bool false]) ∧ w = w') := hide (hcs.mono fun _ _ ⟨q1, q2⟩ => ⟨⟨(Lib.trimSuffix l [10]).toArray⟩, by rw [q1]; simp [hsf, h1], q2.symm⟩)
      have HL : Hid (linesT l = none) := hide (by unfold linesT; rw [if_neg h0, if_neg h1])
      generalize (ByteArray.mk l.toArray) = S at *
      clear he h0 hcs hsf h1 hsz
      go_enter Tryz.func14, Tryz.ntmps14
      go_wp2_with fail
      refine (unhide HC).mono ?_
      rintro _ _ ⟨D, rfl, rfl⟩
      go_wp2_with fail
      go_ret2
      unfold LinesPost
      rw [unhide HL]
      exact ⟨rfl, Kept.refl w⟩
def foldT : List Fn → List (List UInt8) → Option (List Fn)
  | p, [] => some p
  | p, l :: ls => match stepT p (splitT 32 l) with
    | none => none
    | some p' => foldT p' ls
def wholeT (l : List UInt8) : Option (List Fn) := match linesT l with
  | none => none
  | some ls => foldT [] ls
def WholePost (l : List UInt8) (w : World) (e : Ending) (w' : World) : Prop := match wholeT l with
  | some p => ∃ v b m, e = .returned (.tuple #[v, .int .i64 0]) ∧ w.heap.size ≤ b ∧ PrR b m w' v p ∧ Kept w w'
  | none => e = .returned (.tuple #[.slice none 0 0, .int .i64 1]) ∧ Kept w w'
theorem foldT_cases : ∀ (ls : List (List UInt8)) (p : List Fn), (∃ P : Nat → List Fn, P 0 = p ∧ (∀ k l, ls[k]? = some l → stepT (P k) (splitT 32 l) = some (P (k + 1))) ∧ foldT p ls = some (P ls.length)) ∨ ∃ (K : Nat) (P : Nat → List Fn) (x : List UInt8), P 0 = p ∧ ls[K]? = some x ∧ (∀ k l, k < K → ls[k]? = some l → stepT (P k) (splitT 32 l) = some (P (k + 1))) ∧ stepT (P K) (splitT 32 x) = none ∧ foldT p ls = none
  | [], p => .inl ⟨fun _ => p, rfl, fun k l h => by simp at h, rfl⟩
  | l :: ls, p => by
    cases hs : stepT p (splitT 32 l) with
    | none => exact .inr ⟨0, fun _ => p, l, rfl, rfl, fun k _ h => by omega, hs, by simp only [foldT, hs]⟩
    | some p' =>
      rcases foldT_cases ls p' with ⟨P, h0, h1, h2⟩ | ⟨K, P, x, h0, h1, h2, h3, h4⟩
      · refine .inl ⟨fun k => match k with | 0 => p | k + 1 => P k, rfl, fun k l' h => ?_, by simp only [foldT, hs, h2, List.length_cons]⟩
        cases k with
        | zero => obtain rfl : l = l' := by simpa using h
                  simpa [h0] using hs
        | succ k => exact h1 k l' (by simpa using h)
      · refine .inr ⟨K + 1, fun k => match k with | 0 => p | k + 1 => P k, x, rfl, by simpa using h1, fun k l' hk h => ?_, h3, by simp only [foldT, hs, h4]⟩
        cases k with
        | zero => obtain rfl : l = l' := by simpa using h
                  simpa [h0] using hs
        | succ k => exact h2 k l' (by omega) (by simpa using h)
theorem asErrT (v : Value) (w : World) : (Instr.typeAssert (.iface 22 v) 20 22 false).run Tryz.prog w = .ok v w := by kernel_rfl
theorem catchT (r g : Nat) (x e : Int) (vs : Value) (older : List PanicEntry) (w : World) (hr : w.heap[r]? = some (.cells #[vs] 27)) (hc : w.heap[g]? = some (.cells #[.int .i64 x] 22)) (hrg : r ≠ g) :
    CallsD Tryz.prog 62 #[.pointer (some ⟨r, 0, none⟩), .pointer (some ⟨g, 0, none⟩)] (.panicking ({ v := .iface 22 (.int .i64 e), recovered := false } :: older)) w fun en u' w' =>
      en = .returned (.tuple #[]) ∧ u' = .panicking ({ v := .iface 22 (.int .i64 e), recovered := true } :: older) ∧ w'.heap[r]? = some (.cells #[.slice none 0 0] 27) ∧ w'.heap[g]? = some (.cells #[.int .i64 e] 22) ∧ ∀ w0 : World, Kept w0 w → w0.heap.size ≤ r → w0.heap.size ≤ g → Kept w0 w' := by
  have c0 : w.cell? ⟨g, 0, none⟩ = some (.int .i64 x) := cell_lays hc 0
  have z0 := frozen_lays hc 0
  have c1 : w.cell? ⟨r, 0, none⟩ = some vs := cell_lays hr 0
  have z1 := frozen_lays hr 0
  refine callsD_of_wpS Tryz.func62 rfl fun c₀ cs hu => ?_
  apply wpS_seq
  apply wpS_region
  simp [wpOpsS, go_sem, recoverD, hu, Tryz.ntmps62, Exit.thenS]
  have ht : (#[Value.pointer (some ⟨r, 0, none⟩), Value.pointer (some ⟨g, 0, none⟩)] ++ ((Array.replicate 6 undef).setIfInBounds 1 (Value.iface 22 (.int .i64 e))).setIfInBounds 0 (Value.iface 22 (.int .i64 e))) = #[Value.pointer (some ⟨r, 0, none⟩), Value.pointer (some ⟨g, 0, none⟩), Value.iface 22 (.int .i64 e), Value.iface 22 (.int .i64 e), undef, undef, undef, undef] := rfl
  rw [ht]
  apply wpS_of_wp
  have hbr := lays_other (a := ⟨g, 0, none⟩) (lays_set hr 0 (.slice none 0 0)) hrg (.int .i64 e)
  have hcg := lays_set (lays_other (a := ⟨r, 0, none⟩) hc (Ne.symm hrg) (.slice none 0 0)) 0 (.int .i64 e)
  have hz0 : (w.setCell ⟨r, 0, none⟩ (.slice none 0 0)).frozen? ⟨g, 0, none⟩ = false := frozen_lays (lays_other (a := ⟨r, 0, none⟩) hc (Ne.symm hrg) (.slice none 0 0)) 0
  have hc0 : (w.setCell ⟨r, 0, none⟩ (.slice none 0 0)).cell? ⟨g, 0, none⟩ = some (.int .i64 x) := cell_lays (lays_other (a := ⟨r, 0, none⟩) hc (Ne.symm hrg) (.slice none 0 0)) 0
  have has := asErrT (.int .i64 e)
  have HH := hide (And.intro hbr hcg)
  clear hbr hcg hr hc ht
  go_wp2_with fail
  refine wp_region_held_drew (S := fun _ => True) (by kernel_rfl) trivial (fun hHeld => ?_)
  refine planY [0, 1] ?_
  repeat
    refine takeY (v := ?_) hHeld (fun u _ => ?_) ?_
    rotate_left
    · go_simp <;> with_reducible rfl
    try simp only [Act.put, List.setIfInBounds_toArray, List.set_cons_zero, List.set_cons_succ]
  refine endY ?_
  refine take_one (i := 2) rfl (by kernel_rfl) (fun K hK => ?_)
  go_simp
  refine hK.out _ _ trivial (fun hHeld => ?_)
  clear hK K
  try simp only [Act.put, List.setIfInBounds_toArray, List.set_cons_zero, List.set_cons_succ]
  refine take_one (i := 3) rfl (by kernel_rfl) (fun K hK => ?_)
  go_simp
  refine hK.out _ _ trivial (fun hHeld => ?_)
  clear hK K
  try simp only [Act.put, List.setIfInBounds_toArray, List.set_cons_zero, List.set_cons_succ]
  refine wpAnyH_done (by kernel_rfl) ?_ _
  obtain ⟨h1, h2⟩ := unhide HH
  refine ⟨rfl, _, rfl, _, (by simp [results, Tryz.results62, go_sem]), rfl, rfl, h1, h2, fun w0 hk h3 h4 => ?_⟩
  exact ((hk.setCell (p := ⟨r, 0, none⟩) h3 _).setCell (p := ⟨g, 0, none⟩) h4 _).drew
theorem idleT (r g : Nat) (w : World) :
    CallsD Tryz.prog 62 #[.pointer (some ⟨r, 0, none⟩), .pointer (some ⟨g, 0, none⟩)] .returning w fun e u' w' => e = .returned (.tuple #[]) ∧ u' = .returning ∧ w' = w := by
  refine callsD_of_wpS Tryz.func62 rfl fun c₀ cs hu => ?_
  apply wpS_seq
  apply wpS_region
  simp [wpOpsS, go_sem, recoverD, hu, Tryz.ntmps62, Exit.thenS]
  have ht : (#[Value.pointer (some ⟨r, 0, none⟩), Value.pointer (some ⟨g, 0, none⟩)] ++ ((Array.replicate 6 undef).setIfInBounds 1 Value.nilIface).setIfInBounds 0 Value.nilIface) = #[Value.pointer (some ⟨r, 0, none⟩), Value.pointer (some ⟨g, 0, none⟩), Value.nilIface, Value.nilIface, undef, undef, undef, undef] := rfl
  rw [ht]
  apply wpS_seq
  apply wpS_region
  simp [wpOpsS, go_sem, Exit.thenS]
  refine wpS_cond (t := false) (by simp [Act.eval]) ?_
  simp only [Bool.false_eq_true, if_false]
  refine wpS_of_wp (wp_skip ?_)
  cases c₀
  simp_all [bodyPostS, results, Tryz.results62]
def SizeT (p : List Fn) (k : Nat) : Prop := p.length ≤ k ∧ ∀ f ∈ p, f.code.length ≤ k
theorem stepT_size {p p' : List Fn} {ws : List (List UInt8)} {k : Nat} (h : stepT p ws = some p') (hs : SizeT p k) : SizeT p' (k + 1) := by
  cases ws with
  | nil => cases h
  | cons wd r =>
    cases hn : numsT r with
    | none => simp only [stepT, hn] at h; cases h
    | some l =>
      simp only [stepT, hn] at h
      by_cases hw : wd = [102, 117, 110, 99]
      · rw [if_pos hw] at h
        by_cases h2 : l.length = 2
        · rw [if_pos h2] at h
          cases h
          refine ⟨by simp; exact hs.1, fun f hf => ?_⟩
          rcases List.mem_append.1 hf with hf | hf
          · have := hs.2 f hf; omega
          · obtain rfl := List.mem_singleton.1 hf; simp
        · rw [if_neg h2] at h; cases h
      · rw [if_neg hw] at h
        by_cases hp : p = []
        · rw [if_pos hp] at h; cases h
        · rw [if_neg hp] at h
          cases ho : opOfT wd l with
          | none => rw [ho] at h; cases h
          | some x =>
            rw [ho] at h
            cases h
            have hl : p.getLast? = some (p.getLast hp) := List.getLast?_eq_some_getLast hp
            unfold addOpT
            rw [hl]
            refine ⟨?_, fun f hf => ?_⟩
            · have := hs.1
              simp
              omega
            · rcases List.mem_append.1 hf with hf | hf
              · have := hs.2 f (List.dropLast_subset p hf); omega
              · obtain rfl := List.mem_singleton.1 hf
                have := hs.2 _ (List.getLast_mem hp)
                simp
                omega
theorem splitT_len {c : UInt8} : ∀ {l x : List UInt8}, x ∈ splitT c l → x.length ≤ l.length
  | [], x, h => by simp [splitT] at h; simp [h]
  | b :: l, x, h => by
    unfold splitT at h
    split at h
    · rcases List.mem_cons.1 h with rfl | h
      · simp
      · have := splitT_len h; simp; omega
    · cases hs : splitT c l with
      | nil => exact absurd hs (splitT_ne c l)
      | cons y ys =>
        rw [hs] at h
        rcases List.mem_cons.1 h with rfl | h
        · have := splitT_len (c := c) (l := l) (x := y) (by rw [hs]; simp)
          simp; omega
        · have := splitT_len (c := c) (l := l) (x := x) (by rw [hs]; simp [h])
          simp; omega
structure Fr where
  fn : Int
  at_ : Int
  locals : List Int
  stack : List Int
structure Fb where
  frames : List Fr
  caller : Int
structure St where
  fibers : List Fb
  now : Int
  out : List Int
def Fr.zero : Fr := ⟨0, 0, [], []⟩
def Fb.zero : Fb := ⟨[], 0⟩
def St.zero : St := ⟨[], 0, []⟩
structure OpsD where
  line : St → List Int
  kind : St → Nat → Int
  trim : List Fn
  hgt : Int → List Int × Int
  run : St → Int → St × Nat × Int
  beg : St
def numsD (l : List Int) : List (List UInt8) := l.map Lib.itoa
def faultD (e : Int) : List (List UInt8) := [[101, 114, 114, 111, 114], Lib.itoa e]
def opsD (p : List Fn) : Int := (p.map (fun f => (f.code.length : Int))).sum
def aloneD (O : OpsD) (s : St) (a : List UInt8) : (St × List (List UInt8)) ⊕ Int :=
  if a = [111, 117, 116] then .inl (s, numsD s.out)
  else if a = [108, 105, 110, 101] then .inl (s, numsD (O.line s))
  else if a = [107, 105, 110, 100, 115] then .inl (s, numsD ((List.range s.fibers.length).map fun k => O.kind s k))
  else if a = [116, 114, 105, 109] then .inl (s, numsD [opsD O.trim])
  else if a = [97, 103, 97, 105, 110] then .inl (O.beg, [[111, 107]])
  else .inr 1
def withD (O : OpsD) (s : St) (a : List UInt8) (n : Int) : (St × List (List UInt8)) ⊕ Int :=
  if a = [115, 116, 101, 112] then (if (O.run s n).2.2 = 3 then .inr 3 else .inl ((O.run s n).1, numsD [((O.run s n).2.1 : Int)] ++ if (O.run s n).2.2 = 0 then [] else faultD (O.run s n).2.2))
  else if a = [104, 101, 105, 103, 104, 116, 115] then (if (O.hgt n).2 = 0 then .inl (s, numsD (O.hgt n).1) else .inr (O.hgt n).2)
  else .inr 1
def doD (O : OpsD) (s : St) (ws : List (List UInt8)) : (St × List (List UInt8)) ⊕ Int := match ws with
  | [a] => aloneD O s a
  | [a, b] => match numT b with
    | some n => withD O s a n
    | none => .inr 1
  | _ => .inr 1
def ansD (O : OpsD) (s : St) (ws : List (List UInt8)) : St × List (List UInt8) := match doD O s ws with
  | .inl (s', l) => (s', if l = [] then [[45]] else l)
  | .inr e => (s, faultD e)
def linesD (O : OpsD) : St → List (List UInt8) → St × List UInt8
  | s, [] => (s, [])
  | s, l :: ls => ((linesD O (ansD O s (splitT 32 l)).1 ls).1, Lib.join (ansD O s (splitT 32 l)).2 [32] ++ [10] ++ (linesD O (ansD O s (splitT 32 l)).1 ls).2)
end Go.Proofs.YtokhibfenccijaaGreatDoor
