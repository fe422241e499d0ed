/-
  Proved: whatever two expressions and values it is handed, the statement ExprTrue (J1, without the reference: of two parts it is what they are, reckoned; if one is 1, the other part of an If counts for nothing) returns true, and its arguments read afterwards as they read before. Conditions: nothing beyond the form's own.
-/
import Derived.Test.YtohlefnljgkdcafOpenE
import Derived.Test.YtohlefnljgkdcafExprF
import Derived.Deep.DeepHandedRow
import Derived.LaidLaws
import Derived.Deep.DeepCutAuto
namespace Go.Proofs.Ytohlefnljgkdcaf
open Go.RowKit Go.ChangeShapes Go.WideShapes Go.ChangeAt

theorem wf_app {a b : List (Int × Int)} (ha : ∀ x ∈ a, (Lit.int .i64 x.1).wf = true) (hb : ∀ x ∈ b, (Lit.int .i64 x.1).wf = true) : ∀ x ∈ a ++ b, (Lit.int .i64 x.1).wf = true := by
  intro x hx
  rcases List.mem_append.1 hx with h | h
  · exact ha x h
  · exact hb x h
theorem flatNodes_len (c : List (Int × Int)) : (flatNodes c).length = c.length * 2 := by
  induction c with
  | nil => rfl
  | cons x r ih =>
    have e : flatNodes (x :: r) = .int .i64 x.1 :: .int .i64 x.2 :: flatNodes r := by simp [flatNodes]
    rw [e]
    simp [ih]
    omega
theorem flatNodes_app (c d : List (Int × Int)) : flatNodes (c ++ d) = flatNodes c ++ flatNodes d := by simp [flatNodes]
theorem flatNodes_one (c : List (Int × Int)) : ∀ u ∈ flatNodes c, u.oneCell' = true := by
  intro u hu
  obtain ⟨x, _, hx⟩ := List.mem_flatMap.1 hu
  simp only [List.mem_cons, List.not_mem_nil, or_false] at hx
  rcases hx with rfl | rfl <;> rfl
theorem infoNode : (Try.prog.info? 29).map (fun i => (i.zero, i.size, i.bytes)) = some (some (.agg #[.int .i64 0, .int .i64 0]), 2, 16) := by kernel_rfl

/-- An append whose run is known. -/
theorem wp_app {o : Oper} {a : Act} {K : Act → World → Prop} {Q : Exit → Act → World → Prop} (w : World) (s x : Operand) (t : TypeId)
    (ho : o.op = .call { callee := .builtin .append, args := #[s, x], argTypes := #[t, t] }) {v u v' : Value} {w' : World} (hs : a.eval s = v) (hx : a.eval x = u)
    (hr : (Builtin.append_ #[t, t] o.type #[v, u]).run Try.prog w = .ok v' w') (h : K (a.put o.dst v') w') : o.wp Try.prog a w K Q := by
  unfold Oper.wp execOp
  simp only [ho, resolve, invoke, builtin, Sem.run_bind, Sem.run_pure, Result.andThen_ok, List.map_toArray, List.map_cons, List.map_nil, hs, hx, hr]
  exact h
theorem wpList_app {ops : Array Oper} {rest : List Oper} {o : Oper} {a : Act} {Q : Exit → Act → World → Prop} (w : World) (hgd : o.guard = none) (s x : Operand) (t : TypeId)
    (ho : o.op = .call { callee := .builtin .append, args := #[s, x], argTypes := #[t, t] }) {v u v' : Value} {w' : World} (hs : a.eval s = v) (hx : a.eval x = u)
    (hr : (Builtin.append_ #[t, t] o.type #[v, u]).run Try.prog w = .ok v' w') (h : wpList Try.prog ops Q rest (a.put o.dst v') w') : wpList Try.prog ops Q (o :: rest) a w :=
  wpList_plain hgd fun _ hK => wp_app w s x t ho hs hx hr (hK _ _ h)

/-- Nodes are appended to a row of one's own. -/
theorem app_nodes (w : World) (base g n cap : Nat) (c d : List (Int × Int)) (vb : Value) (hown : w.ownsRow base 29 2 (.slice (some ⟨g, 0, none⟩) n cap) n (flatNodes c)) (hd : NodesAt w vb d) (hne : d ≠ []) (hb : base ≤ w.heap.size) (hl : n + d.length ≤ 1000) :
    ∃ g' cap' w', (Builtin.append_ #[22, 22] 22 #[.slice (some ⟨g, 0, none⟩) n cap, vb]).run Try.prog w = .ok (.slice (some ⟨g', 0, none⟩) (n + d.length) cap') w' ∧
      w'.ownsRow base 29 2 (.slice (some ⟨g', 0, none⟩) (n + d.length) cap') (n + d.length) (flatNodes (c ++ d)) ∧ w.grownBy w' (some g) := by
  have hi := infoNode
  cases hx : Try.prog.info? 29 with
  | none => rw [hx] at hi; cases hi
  | some i0 =>
    rw [hx] at hi
    simp only [Option.map_some, Option.some.injEq, Prod.mk.injEq] at hi
    obtain ⟨hz0, hz1, hz2⟩ := hi
    have hlen : 0 < d.length := List.length_pos_iff.2 hne
    obtain ⟨oa, cd, rfl, _, hdi⟩ := hd
    obtain ⟨bd, od, rfl, _, _⟩ := hdi 0 _ (getD_of_lt d 0 (0, 0) hlen)
    have hcell : ∀ j u, (flatNodes d)[j]? = some u → w.cell? ((⟨bd, od, none⟩ : Addr).add j) = some u := by
      intro j u hj
      have hj2 : j < d.length * 2 := by rw [← flatNodes_len]; exact (List.getElem?_eq_some_iff.1 hj).1
      obtain ⟨q1, q2⟩ := flatNodes_at d (j / 2) _ (getD_of_lt d (j / 2) (0, 0) (by omega))
      obtain ⟨b', o', e, c1, c2⟩ := hdi (j / 2) _ (getD_of_lt d (j / 2) (0, 0) (by omega))
      obtain ⟨rfl, rfl⟩ := (by simpa using e : bd = b' ∧ od = o')
      rw [add_of_spot rfl]
      by_cases hp : j % 2 = 0
      · have ej : j = j / 2 * 2 := by omega
        rw [ej, q1] at hj
        rw [← hj, ← c1]
        congr 2
        simp only []
        omega
      · have ej : j = j / 2 * 2 + 1 := by omega
        rw [ej, q2] at hj
        rw [← hj, ← c2]
        congr 2
        simp only []
        omega
    obtain ⟨v', w', hrun, hown', hgrow, _⟩ := run_append_own w base 22 22 29 i0 _ 2 16 Try.underlying22 hx hz0 hz1 hz2 rfl (by decide) _ n (flatNodes c) hown ⟨bd, od, none⟩ d.length cd (flatNodes d) (flatNodes_len d) hcell (flatNodes_one d) (by unfold maxLen; omega) (by omega) hb
    rcases id hown' with ⟨_, ⟨_, h0⟩ | ⟨g', cap', cur, rfl, _⟩⟩
    · omega
    · exact ⟨g', cap', w', hrun, by rw [flatNodes_app]; exact hown', hgrow⟩

theorem own_nodes {w : World} {base g n cap : Nat} {c : List (Int × Int)} (h : w.ownsRow base 29 2 (.slice (some ⟨g, 0, none⟩) n cap) n (flatNodes c)) (hl : n ≤ 1000) : base ≤ g ∧ NodesAt w (.slice (some ⟨g, 0, none⟩) n cap) c := by
  obtain ⟨hlen, ⟨h0, _⟩ | ⟨g', cap', cur, e, hb, hh, hnc, _, _, ht⟩⟩ := h
  · cases h0
  · simp only [Value.slice.injEq, Option.some.injEq, Addr.mk.injEq] at e
    obtain ⟨⟨rfl, _⟩, _, rfl⟩ := e
    have hn : n = c.length := by rw [flatNodes_len] at hlen; omega
    subst hn
    refine ⟨hb, _, _, rfl, ⟨by omega, hnc⟩, fun i x hx => ⟨g, 0, rfl, ?_, ?_⟩⟩
    · have q := (flatNodes_at c i x hx).1
      have hi : i < c.length := (List.getElem?_eq_some_iff.1 hx).1
      rw [cell_lays hh]
      rw [← ht, List.getElem?_take] at q
      simpa [show i * 2 < c.length * 2 by omega] using q
    · have q := (flatNodes_at c i x hx).2
      have hi : i < c.length := (List.getElem?_eq_some_iff.1 hx).1
      rw [cell_lays hh]
      rw [← ht, List.getElem?_take] at q
      simpa [show i * 2 + 1 < c.length * 2 by omega] using q

theorem own_new (w : World) (pre : List (Int × Int)) (hp : pre.length ≤ 2) : (w.alloc (.cells (flatNodes pre).toArray 29)).ownsRow w.heap.size 29 2 (.slice (some ⟨w.heap.size, 0, none⟩) pre.length pre.length) pre.length (flatNodes pre) :=
  ⟨flatNodes_len pre, .inr ⟨w.heap.size, pre.length, (flatNodes pre).toArray, rfl, Nat.le_refl _, lays_new rfl, Nat.le_refl _, by unfold maxLen; omega, by simp [flatNodes_len], by rw [← flatNodes_len]; simp⟩⟩

/-- Nodes are appended to a literal. -/
theorem pre_append (w : World) (pre d : List (Int × Int)) (vb : Value) (n m : Nat) (A : Array Value) (hn : pre.length = n) (hm : n + d.length = m) (hA : (flatNodes pre).toArray = A) (hd : NodesAt w vb d) (hne : d ≠ []) (hp : n ≤ 2) (hl : d.length ≤ 100) :
    ∃ g cap w', (Builtin.append_ #[22, 22] 22 #[.slice (some ⟨w.heap.size, 0, none⟩) n n, vb]).run Try.prog (w.alloc (.cells A 29)) = .ok (.slice (some ⟨g, 0, none⟩) m cap) w' ∧
      NodesAt w' (.slice (some ⟨g, 0, none⟩) m cap) (pre ++ d) ∧ Kept w w' := by
  subst hn hA hm
  obtain ⟨g, cap, w', hr, ho, hg⟩ := app_nodes _ w.heap.size w.heap.size pre.length pre.length pre d vb (own_new w pre hp) (hd.kept ((Kept.refl w).alloc _)) hne (by simp) (by omega)
  exact ⟨g, cap, w', hr, (own_nodes ho (by omega)).2, Below.grown ((Kept.refl w).alloc _) hg (by simp) (fun j hj => by cases hj; exact Nat.le_refl _)⟩

set_option maxHeartbeats 1000000 in
theorem exprTrue_bad (a b : List (Int × Int)) (v0 v1 : Value) (vals : List Int) (v2 : Value) (w : World) (HE : Hid (NodesAt w v0 a)) (WA : Hid (∀ x ∈ a, (Lit.int .i64 x.1).wf = true)) (HB : Hid (NodesAt w v1 b)) (WB : Hid (∀ x ∈ b, (Lit.int .i64 x.1).wf = true)) (HV : Hid (IntsW w v2 vals))
    (h : exErrS a vals.length ≠ 0 ∨ (exErrS a vals.length = 0 ∧ exErrS b vals.length ≠ 0)) :
    Calls Try.prog 3 #[v0, v1, v2] w fun e w' => e = .returned (.bool true) ∧ Kept w w' := by
  have HCA := hide (exValue_any a vals _ _ w (unhide HE) (unhide WA) (unhide HV))
  have HCB := hide (fun u (hk : Kept w u) => exValue_any b vals _ _ u ((unhide HB).kept hk) (unhide WB) ((unhide HV).kept hk))
  generalize exErrS a vals.length = ea at HCA h
  generalize exErrS b vals.length = eb at HCB h
  generalize exValS a vals = va at HCA
  generalize exValS b vals = vb at HCB
  rcases h with h | ⟨h, h'⟩
  · have hb : (ea != 0) = true := bne_iff_ne.2 h
    clear h
    go_enter Try.func3, Try.ntmps3
    go_wp2_with fail
    refine (unhide HCA).mono ?_
    rintro _ w1 ⟨rfl, hk1⟩
    have HC2 := hide ((unhide HCB) w1 hk1)
    have HK1 := hide hk1
    clear hk1 HCB HCA
    go_wp2_with fail
    refine (unhide HC2).mono ?_
    rintro _ w2 ⟨rfl, hk2⟩
    have HK2 := hide ((unhide HK1).trans hk2)
    clear hk2 HC2 HK1
    go_wp2_with fail
    refine (exprBegun_any _).mono ?_
    rintro _ we ⟨rfl, hke⟩
    have HKE := hide ((unhide HK2).trans hke)
    clear hke HK2
    go_wp2
    go_ret
    exact ⟨rfl, unhide HKE⟩
  · have hb : (eb != 0) = true := bne_iff_ne.2 h'
    subst h
    clear h'
    go_enter Try.func3, Try.ntmps3
    go_wp2_with fail
    refine (unhide HCA).mono ?_
    rintro _ w1 ⟨rfl, hk1⟩
    have HC2 := hide ((unhide HCB) w1 hk1)
    have HK1 := hide hk1
    clear hk1 HCB HCA
    go_wp2_with fail
    refine (unhide HC2).mono ?_
    rintro _ w2 ⟨rfl, hk2⟩
    have HK2 := hide ((unhide HK1).trans hk2)
    clear hk2 HC2 HK1
    go_wp2_with fail
    refine (exprBegun_any _).mono ?_
    rintro _ we ⟨rfl, hke⟩
    have HKE := hide ((unhide HK2).trans hke)
    clear hke HK2
    go_wp2
    go_ret
    exact ⟨rfl, unhide HKE⟩

set_option maxRecDepth 100000 in
set_option maxHeartbeats 1000000 in
theorem exprTrue_good (a b : List (Int × Int)) (v0 v1 : Value) (vals : List Int) (v2 : Value) (w : World) (HE : Hid (NodesAt w v0 a)) (WA : Hid (∀ x ∈ a, (Lit.int .i64 x.1).wf = true)) (HB : Hid (NodesAt w v1 b)) (WB : Hid (∀ x ∈ b, (Lit.int .i64 x.1).wf = true)) (HV : Hid (IntsW w v2 vals))
    (ha : exErrS a vals.length = 0) (hb : exErrS b vals.length = 0) :
    Calls Try.prog 3 #[v0, v1, v2] w fun e w' => e = .returned (.bool true) ∧ Kept w w' := by
  obtain ⟨_, _, la, _, _, oa⟩ := exErr_ok ha
  obtain ⟨_, _, lb, _, _, ob⟩ := exErr_ok hb
  have nea : a ≠ [] := by rintro rfl; simp [onlyS] at oa
  have neb : b ≠ [] := by rintro rfl; simp [onlyS] at ob
  have pa : 0 < a.length := List.length_pos_iff.2 nea
  have pb : 0 < b.length := List.length_pos_iff.2 neb
  have neab : a ++ b ≠ [] := by simp [nea]
  obtain ⟨t2, u2⟩ := two_right ha hb 2 (by omega) (by omega)
  obtain ⟨t5, u5⟩ := two_right ha hb 5 (by omega) (by omega)
  obtain ⟨t7, u7⟩ := if_right ha hb 1 (.inr rfl)
  obtain ⟨t8, u8⟩ := if_right ha hb 0 (.inl rfl)
  generalize hs1 : exValS ((2, 0) :: (a ++ b)) vals = s1 at u2
  generalize hs2 : exValS ((5, 0) :: (a ++ b)) vals = s2 at u5
  generalize hs3 : exValS ((7, 0) :: (0, 1) :: (a ++ b)) vals = s3 at u7
  generalize hs4 : exValS ((7, 0) :: (0, 0) :: (a ++ b)) vals = s4 at u8
  generalize he1 : exErrS ((2, 0) :: (a ++ b)) vals.length = e1 at t2
  generalize he2 : exErrS ((5, 0) :: (a ++ b)) vals.length = e2 at t5
  generalize he3 : exErrS ((7, 0) :: (0, 1) :: (a ++ b)) vals.length = e3 at t7
  generalize he4 : exErrS ((7, 0) :: (0, 0) :: (a ++ b)) vals.length = e4 at t8
  have HS1 := hide hs1
  have HS2 := hide hs2
  have HS3 := hide hs3
  have HS4 := hide hs4
  have HE1 := hide he1
  have HE2 := hide he2
  have HE3 := hide he3
  have HE4 := hide he4
  have HCA := hide (exValue_any a vals _ _ w (unhide HE) (unhide WA) (unhide HV))
  have HCB := hide (fun u (hk : Kept w u) => exValue_any b vals _ _ u ((unhide HB).kept hk) (unhide WB) ((unhide HV).kept hk))
  rw [ha] at HCA
  rw [hb] at HCB
  generalize exValS a vals = va at HCA u2 u5 u7 u8
  generalize exValS b vals = vb at HCB u2 u5 u7 u8
  have HT := hide (And.intro t2 (And.intro t5 (And.intro t7 (And.intro t8 (And.intro u2 (And.intro u5 (And.intro u7 u8)))))))
  clear t2 t5 t7 t8 u2 u5 u7 u8 hs1 hs2 hs3 hs4 he1 he2 he3 he4 oa ob
  obtain ⟨oA, cA, rfl, _, _⟩ := id (unhide HE)
  obtain ⟨oB, cB, rfl, _, _⟩ := id (unhide HB)
  obtain ⟨oV, cV, rfl, _, _⟩ := id (unhide HV)
  have HNA := hide nea
  have HNB := hide neb
  have HNAB := hide neab
  clear nea neb neab ha hb
  go_enter Try.func3, Try.ntmps3
  go_wp2_with fail
  refine (unhide HCA).mono ?_
  rintro _ w1 ⟨rfl, hk1⟩
  have HC2 := hide ((unhide HCB) w1 hk1)
  have HK1 := hide hk1
  clear hk1 HCB HCA
  go_wp2_with fail
  refine (unhide HC2).mono ?_
  rintro _ w2 ⟨rfl, hk2⟩
  have HK2 := hide ((unhide HK1).trans hk2)
  clear hk2 HC2 HK1
  obtain ⟨ga, cpa, x1, ra, hoa, hga⟩ := app_nodes _ w2.heap.size w2.heap.size 0 0 [] a _ (own_new w2 [] (by simp)) ((unhide HE).kept ((unhide HK2).alloc (.cells (flatNodes []).toArray 29))) (unhide HNA) (by simp) (by omega)
  have hkx1 : Kept w2 x1 := Below.grown ((Kept.refl w2).alloc _) hga (by simp) (fun j hj => by cases hj; exact Nat.le_refl _)
  obtain ⟨gb, cpb, x2, rb, hob, hgb⟩ := app_nodes x1 w2.heap.size ga (0 + a.length) cpa ([] ++ a) b _ hoa ((unhide HB).kept ((unhide HK2).trans hkx1)) (unhide HNB) hkx1.size (by omega)
  have hkx2 : Kept w2 x2 := Below.grown hkx1 hgb hkx1.size (fun j hj => by cases hj; exact (own_nodes hoa (by omega)).1)
  have HBO : Hid (NodesAt x2 (.slice (some ⟨gb, 0, none⟩) (a.length + b.length) cpb) (a ++ b)) := by
    have := (own_nodes hob (by omega)).2
    simp only [Nat.zero_add, List.nil_append] at this
    exact hide this
  have HKB := hide ((unhide HK2).trans hkx2)
  simp only [Nat.zero_add] at ra rb
  rw [show (flatNodes []).toArray = #[] from rfl] at ra
  have HX2 := hide (Kept.refl x2)
  go_wp2_with (at_builtin; refine unhide ?_)
  refine hide ?_
  refine wpList_app (v := .slice (some ⟨w2.heap.size, 0, none⟩) 0 0) (u := .slice oA a.length cA) _ rfl _ _ 22 rfl rfl rfl ra ?_
  clear ra
  go_wp2_with (at_builtin; refine unhide ?_)
  refine hide ?_
  refine wpList_app (v := .slice (some ⟨ga, 0, none⟩) a.length cpa) (u := .slice oB b.length cB) _ rfl _ _ 22 rfl rfl rfl rb ?_
  clear rb
  obtain ⟨g1, c1, y1, ra1, hn1, hy1⟩ := pre_append x2 [(2, 0)] (a ++ b) (.slice (some ⟨gb, 0, none⟩) (a.length + b.length) cpb) 1 (a.length + b.length + 1) #[.int .i64 2, .int .i64 0] rfl (by simp; omega) rfl (NodesAt.kept (unhide HX2) (unhide HBO)) (unhide HNAB) (by simp) (by simp; omega)
  have HCALL1 := hide (exValue_is ([(2, 0)] ++ (a ++ b)) vals _ _ s1 e1 y1 hn1 (wf_app (by decide) (wf_app (unhide WA) (unhide WB))) ((unhide HV).kept ((unhide HKB).trans ((unhide HX2).trans hy1))) (by simpa using unhide HS1) (by simpa using unhide HE1))
  have HY1 := hide ((unhide HX2).trans hy1)
  clear hn1 hy1
  go_wp2_with (at_builtin; refine unhide ?_)
  refine hide ?_
  refine wpList_app (v := .slice (some ⟨x2.heap.size, 0, none⟩) 1 1) (u := .slice (some ⟨gb, 0, none⟩) (a.length + b.length) cpb) _ rfl _ _ 22 rfl rfl rfl ra1 ?_
  clear ra1
  go_wp2_with fail
  refine (unhide HCALL1).mono ?_
  rintro _ z1 ⟨rfl, hz1⟩
  have HW1 := hide ((unhide HY1).trans hz1)
  clear hz1 HY1 HCALL1
  obtain ⟨g2, c2, y2, ra2, hn2, hy2⟩ := pre_append z1 [(5, 0)] (a ++ b) (.slice (some ⟨gb, 0, none⟩) (a.length + b.length) cpb) 1 (a.length + b.length + 1) #[.int .i64 5, .int .i64 0] rfl (by simp; omega) rfl (NodesAt.kept (unhide HW1) (unhide HBO)) (unhide HNAB) (by simp) (by simp; omega)
  have HCALL2 := hide (exValue_is ([(5, 0)] ++ (a ++ b)) vals _ _ s2 e2 y2 hn2 (wf_app (by decide) (wf_app (unhide WA) (unhide WB))) ((unhide HV).kept ((unhide HKB).trans ((unhide HW1).trans hy2))) (by simpa using unhide HS2) (by simpa using unhide HE2))
  have HY2 := hide ((unhide HW1).trans hy2)
  clear hn2 hy2
  go_wp2_with (at_builtin; refine unhide ?_)
  refine hide ?_
  refine wpList_app (v := .slice (some ⟨z1.heap.size, 0, none⟩) 1 1) (u := .slice (some ⟨gb, 0, none⟩) (a.length + b.length) cpb) _ rfl _ _ 22 rfl rfl rfl ra2 ?_
  clear ra2
  go_wp2_with fail
  refine (unhide HCALL2).mono ?_
  rintro _ z2 ⟨rfl, hz2⟩
  have HW2 := hide ((unhide HY2).trans hz2)
  clear hz2 HY2 HCALL2
  obtain ⟨g3, c3, y3, ra3, hn3, hy3⟩ := pre_append z2 [(7, 0), (0, 1)] (a ++ b) (.slice (some ⟨gb, 0, none⟩) (a.length + b.length) cpb) 2 (a.length + b.length + 2) #[.int .i64 7, .int .i64 0, .int .i64 0, .int .i64 1] rfl (by simp; omega) rfl (NodesAt.kept (unhide HW2) (unhide HBO)) (unhide HNAB) (by simp) (by simp; omega)
  have HCALL3 := hide (exValue_is ([(7, 0), (0, 1)] ++ (a ++ b)) vals _ _ s3 e3 y3 hn3 (wf_app (by decide) (wf_app (unhide WA) (unhide WB))) ((unhide HV).kept ((unhide HKB).trans ((unhide HW2).trans hy3))) (by simpa using unhide HS3) (by simpa using unhide HE3))
  have HY3 := hide ((unhide HW2).trans hy3)
  clear hn3 hy3
  go_wp2_with (at_builtin; refine unhide ?_)
  refine hide ?_
  refine wpList_app (v := .slice (some ⟨z2.heap.size, 0, none⟩) 2 2) (u := .slice (some ⟨gb, 0, none⟩) (a.length + b.length) cpb) _ rfl _ _ 22 rfl rfl rfl ra3 ?_
  clear ra3
  go_wp2_with fail
  refine (unhide HCALL3).mono ?_
  rintro _ z3 ⟨rfl, hz3⟩
  have HW3 := hide ((unhide HY3).trans hz3)
  clear hz3 HY3 HCALL3
  obtain ⟨g4, c4, y4, ra4, hn4, hy4⟩ := pre_append z3 [(7, 0), (0, 0)] (a ++ b) (.slice (some ⟨gb, 0, none⟩) (a.length + b.length) cpb) 2 (a.length + b.length + 2) #[.int .i64 7, .int .i64 0, .int .i64 0, .int .i64 0] rfl (by simp; omega) rfl (NodesAt.kept (unhide HW3) (unhide HBO)) (unhide HNAB) (by simp) (by simp; omega)
  have HCALL4 := hide (exValue_is ([(7, 0), (0, 0)] ++ (a ++ b)) vals _ _ s4 e4 y4 hn4 (wf_app (by decide) (wf_app (unhide WA) (unhide WB))) ((unhide HV).kept ((unhide HKB).trans ((unhide HW3).trans hy4))) (by simpa using unhide HS4) (by simpa using unhide HE4))
  have HY4 := hide ((unhide HW3).trans hy4)
  clear hn4 hy4
  go_wp2_with (at_builtin; refine unhide ?_)
  refine hide ?_
  refine wpList_app (v := .slice (some ⟨z3.heap.size, 0, none⟩) 2 2) (u := .slice (some ⟨gb, 0, none⟩) (a.length + b.length) cpb) _ rfl _ _ 22 rfl rfl rfl ra4 ?_
  clear ra4
  go_wp2_with fail
  refine (unhide HCALL4).mono ?_
  rintro _ z4 ⟨rfl, hz4⟩
  have HW4 := hide ((unhide HY4).trans hz4)
  clear hz4 HY4 HCALL4
  have HKD := hide ((unhide HKB).trans (unhide HW4))
  clear HW1 HW2 HW3 HW4 HX2 HBO HKB
  obtain ⟨t1, t2, t3, t4, q1, q2, q3, q4⟩ := unhide HT
  clear HT HS1 HS2 HS3 HS4 HE1 HE2 HE3 HE4
  have hsum : twoS 2 va vb = wrap64 (va + vb) := rfl
  have hless : twoS 5 va vb = if va < vb then 1 else 0 := rfl
  rw [hsum] at q1
  rw [hless] at q2
  clear hsum hless
  by_cases h1 : a.length + b.length + 1 ≤ 9
  · obtain rfl : e1 = 0 := by rw [t1, if_neg (by omega)]
    obtain rfl : e2 = 0 := by rw [t2, if_neg (by omega)]
    obtain rfl : s1 = wrap64 (va + vb) := q1 h1
    have q2' := q2 h1
    clear t1 t2 q1 q2
    by_cases h2 : a.length + b.length + 2 ≤ 9
    · obtain rfl : e3 = 0 := by rw [t3, if_neg (by omega)]
      obtain rfl : e4 = 0 := by rw [t4, if_neg (by omega)]
      obtain rfl : s3 = va := by rw [q3 h2]; rfl
      obtain rfl : s4 = vb := by rw [q4 h2]; rfl
      clear t3 t4 q3 q4
      by_cases hl : s3 < s4
      · obtain rfl : s2 = 1 := by rw [q2', if_pos hl]
        clear q2' h1 h2
        go_wp2_with fail
        refine (exprBegun_any _).mono ?_
        rintro _ we ⟨rfl, hke⟩
        have HKE := hide ((unhide HKD).trans hke)
        clear hke HKD
        go_wp2
        go_ret
        exact ⟨rfl, unhide HKE⟩
      · obtain rfl : s2 = 0 := by rw [q2', if_neg hl]
        clear q2' h1 h2
        go_wp2_with fail
        refine (exprBegun_any _).mono ?_
        rintro _ we ⟨rfl, hke⟩
        have HKE := hide ((unhide HKD).trans hke)
        clear hke HKD
        go_wp2
        go_ret
        exact ⟨rfl, unhide HKE⟩
    · obtain rfl : e3 = 2 := by rw [t3, if_pos (by omega)]
      obtain rfl : e4 = 2 := by rw [t4, if_pos (by omega)]
      clear t3 t4 q3 q4
      by_cases hl : va < vb
      · obtain rfl : s2 = 1 := by rw [q2', if_pos hl]
        clear q2' h1 h2
        go_wp2_with fail
        refine (exprBegun_any _).mono ?_
        rintro _ we ⟨rfl, hke⟩
        have HKE := hide ((unhide HKD).trans hke)
        clear hke HKD
        go_wp2
        go_ret
        exact ⟨rfl, unhide HKE⟩
      · obtain rfl : s2 = 0 := by rw [q2', if_neg hl]
        clear q2' h1 h2
        go_wp2_with fail
        refine (exprBegun_any _).mono ?_
        rintro _ we ⟨rfl, hke⟩
        have HKE := hide ((unhide HKD).trans hke)
        clear hke HKD
        go_wp2
        go_ret
        exact ⟨rfl, unhide HKE⟩
  · obtain rfl : e1 = 2 := by rw [t1, if_pos (by omega)]
    obtain rfl : e2 = 2 := by rw [t2, if_pos (by omega)]
    obtain rfl : e3 = 2 := by rw [t3, if_pos (by omega)]
    obtain rfl : e4 = 2 := by rw [t4, if_pos (by omega)]
    clear t1 t2 t3 t4 q1 q2 q3 q4 h1
    go_wp2_with fail
    refine (exprBegun_any _).mono ?_
    rintro _ we ⟨rfl, hke⟩
    have HKE := hide ((unhide HKD).trans hke)
    clear hke HKD
    go_wp2
    go_ret
    exact ⟨rfl, unhide HKE⟩

set_option maxHeartbeats 400000 in
theorem exprTrue_walk (a : List (Int × Int)) (v0 : Value) (b : List (Int × Int)) (v1 : Value) (vals : List Int) (v2 : Value) (w : World) (ha : NodesAt w v0 a ∧ ∀ x ∈ a, (Lit.int .i64 x.1).wf = true) (hb : NodesAt w v1 b ∧ ∀ x ∈ b, (Lit.int .i64 x.1).wf = true) (hv : IntsW w v2 vals) :
    Calls Try.prog 3 #[v0, v1, v2] w fun e w' => e = .returned (.bool true) ∧ Kept w w' := by
  by_cases h0 : exErrS a vals.length = 0
  · by_cases h1 : exErrS b vals.length = 0
    · exact exprTrue_good a b v0 v1 vals v2 w (hide ha.1) (hide ha.2) (hide hb.1) (hide hb.2) (hide hv) h0 h1
    · exact exprTrue_bad a b v0 v1 vals v2 w (hide ha.1) (hide ha.2) (hide hb.1) (hide hb.2) (hide hv) (.inr ⟨h0, h1⟩)
  · exact exprTrue_bad a b v0 v1 vals v2 w (hide ha.1) (hide ha.2) (hide hb.1) (hide hb.2) (hide hv) (.inl h0)

set_option maxRecDepth 100000 in
theorem exprTrue_contract (H : Type) (enc : TypeId × Value → H) (W : World) (base : Nat) (args : Array Value) (ds gs : List (DataW H)) (before : List MemPlace)
    (hval : ∀ (j : Nat) t v, Try.f3.params[j]? = some t → args[j]? = some v → Value.okWide Try.prog W .any base t v)
    (hW : DataW.Whole enc Try.prog Try.f3.params.toList Rows.exprTrueSpec.vars false W args.toList ds gs before)
    (hsz : (DataW.weightsEach Try.prog (Try.f3.params.toList ++ (OpenSpec.ofChange Rows.exprTrueSpec).bare.plain.varTypes Try.prog) (ds ++ gs)).all (· ≤ reachBytes) = true) :
    Calls Try.prog 3 args W fun e W' => ∃ v, e = .returned v ∧ Rows.exprTrueSpec.post enc Try.prog Try.f3 false true false false W args v W' := by
  have hW' := hW
  obtain ⟨p, q, hA0, hV, rfl, hfz, hnd⟩ := hW
  have hA : DataW.TrodAll enc Try.prog W 0 (fun _ => true) true Try.f3.params.toList args.toList ds p := hA0
  have hlt : ∀ x ∈ p, x.block < W.heap.size := fun x hx => by simpa using hW'.lt x (by simp [hx])
  have hA1 := hA
  rw [Try.params3] at hA hval hsz
  obtain ⟨v0, vs0, d0, ds0, p0, q0, hargs, rfl, rfl, h0, r0⟩ := trodAll_cons hA
  obtain ⟨v1, vs1, d1, ds1, p1, q1, rfl, rfl, rfl, h1, r1⟩ := trodAll_cons r0
  obtain ⟨v2, vs2, d2, ds2, p2, q2, rfl, rfl, rfl, h2, r2⟩ := trodAll_cons r1
  obtain ⟨rfl, rfl, rfl⟩ := trodAll_nil r2
  obtain rfl : args = #[v0, v1, v2] := by cases args; simp_all
  obtain ⟨rfl, rfl⟩ := trodVars_none hV
  obtain ⟨pl0, hpl0⟩ : ∃ pl, NodesAt W v0 pl ∧ ∀ x ∈ pl, (Lit.int .i64 x.1).wf = true := by
    obtain ⟨oa, len, cap, rfl⟩ := okWide_slice Try.underlying22 (hval 0 22 v0 rfl rfl)
    obtain ⟨fuel, hf⟩ := h0
    exact open_nodes hf (fun n hn => of_decide_eq_true (List.all_eq_true.1 hsz n (DataW.weights_mem_each (j := 0) rfl rfl n hn)))
  obtain ⟨pl1, hpl1⟩ : ∃ pl, NodesAt W v1 pl ∧ ∀ x ∈ pl, (Lit.int .i64 x.1).wf = true := by
    obtain ⟨oa, len, cap, rfl⟩ := okWide_slice Try.underlying22 (hval 1 22 v1 rfl rfl)
    obtain ⟨fuel, hf⟩ := h1
    exact open_nodes hf (fun n hn => of_decide_eq_true (List.all_eq_true.1 hsz n (DataW.weights_mem_each (j := 1) rfl rfl n hn)))
  obtain ⟨pl2, hpl2⟩ : ∃ pl, IntsW W v2 pl := by
    obtain ⟨oa, len, cap, rfl⟩ := okWide_slice Try.underlying23 (hval 2 23 v2 rfl rfl)
    obtain ⟨fuel, hf⟩ := h2
    exact open_vals hf (fun n hn => of_decide_eq_true (List.all_eq_true.1 hsz n (DataW.weights_mem_each (j := 2) rfl rfl n hn)))
  refine (exprTrue_walk pl0 v0 pl1 v1 pl2 v2 W hpl0 hpl1 hpl2).mono fun e W' ⟨he, hg⟩ => ?_
  subst he
  refine ⟨_, rfl, _, _, _, [], _, [], hW', trodAll_mk1 (shut_bool Try.underlying4 _), trodAll_below hg ?_ hA1 hlt, rfl, hg.frame _, fun h => by cases h⟩
  intro t ht
  rw [Try.params3] at ht
  simp only [List.mem_cons, List.not_mem_nil, or_false] at ht
  rcases ht with rfl | rfl | rfl
  · exact ⟨by kernel_rfl, of_decide_eq_true (by kernel_rfl)⟩
  · exact ⟨by kernel_rfl, of_decide_eq_true (by kernel_rfl)⟩
  · exact ⟨by kernel_rfl, of_decide_eq_true (by kernel_rfl)⟩

set_option maxRecDepth 100000 in
theorem exprTrue_laid_met (os : Os) : laidMet Try.prog Rows.exprTrueRow.laid (((World.holding Try.prog os ⟨#[], #[], []⟩)).forCall (fun _ _ => 0) ⟨#[], #[.slice none 0 0, .slice none 0 0, .slice none 0 0], []⟩).memory :=
  laidMet_of_run' 8 (by kernel_rfl) (by kernel_rfl)
set_option maxRecDepth 100000 in
theorem exprTrue_reads (os : Os) {H : Type} (enc : TypeId × Value → H) : ∃ places, DataW.whole enc Try.prog (((World.holding Try.prog os ⟨#[], #[], []⟩)).forCall (fun _ _ => 0) ⟨#[], #[.slice none 0 0, .slice none 0 0, .slice none 0 0], []⟩).memory Try.f3.params.toList Rows.exprTrueSpec.vars false (#[.slice none 0 0, .slice none 0 0, .slice none 0 0] : Array Value).toList 8 = some ([.nil, .nil, .nil], [], places) :=
  ⟨[], by kernel_rfl⟩

set_option maxRecDepth 100000 in
theorem exprTrue_lifted (os : Os) (started : os.Started) (H : Type) (enc : TypeId × Value → H) (F : Stop.Interp) :
    ReturnsInHanded {} Try.checked os 3 .any ((OpenSpec.ofChange Rows.exprTrueSpec).preRow enc Try.prog Try.f3 Rows.exprTrueRow.domain false Rows.exprTrueRow.laid) (((OpenSpec.ofChange Rows.exprTrueSpec).at F).post enc Try.prog Try.f3 false true false false) := by
  obtain ⟨places, hx⟩ := exprTrue_reads os enc
  refine returnsInHanded_of_row (C := Try.checked) (s := OpenSpec.ofChange Rows.exprTrueSpec) own started (by kernel_rfl) Try.func3
    (witness_row_at (enc := enc) (C := Try.checked) false (World.holding Try.prog os ⟨#[], #[], []⟩) #[.slice none 0 0, .slice none 0 0, .slice none 0 0] rfl (by kernel_rfl) (by kernel_rfl) (by kernel_rfl)
      (OpenSpec.preRow_of_cond 8 hx (by kernel_rfl) (fun k hk => by cases hk) (by kernel_rfl) (exprTrue_laid_met os))) ?_
  intro W base args ds gs before hval hW _ _ hsz _ _ _
  exact exprTrue_contract H enc W base args ds gs before hval hW hsz

set_option maxRecDepth 100000 in
/-- The statement. -/
theorem exprTrue_said : Rows.ExprTrueSaid :=
  OpenClaim.holds_of_cond 3 Try.f3 rfl rfl rfl rfl rfl rfl rfl ⟨rfl, rfl, rfl, rfl, rfl⟩ rfl rfl rfl rfl rfl (by kernel_rfl) Try.func3 (by kernel_rfl)
    (of_decide_eq_true (by kernel_rfl)) (by unfold Func.isWrapper; first | (rw [if_pos (by decide +kernel)]; kernel_rfl) | (rw [if_neg (by decide +kernel)]; exact ⟨rfl, rfl⟩))
    (fun os started H enc _ F => by rw [OpenClaim.pre_eq_preRow]; exact exprTrue_lifted os started H enc F)
end Go.Proofs.Ytohlefnljgkdcaf
