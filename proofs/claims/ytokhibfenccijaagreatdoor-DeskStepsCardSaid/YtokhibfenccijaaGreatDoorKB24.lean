/- GoodD, GoodE, DoP, EngA, OwnT -/
import Derived.Test.YtokhibfenccijaaGreatDoorKB23
import Derived.Test.YtokhibfenccijaaGreatDoorKB21
import Derived.Test.YtokhibfenccijaaGreatDoorChecked
set_option maxRecDepth 100000
set_option maxHeartbeats 8000000
namespace Go.Proofs.YtokhibfenccijaaGreatDoor
theorem op_facts {p : List Fn} (hp : progS p = 0) {t : Fr} (hf : frameB p t = true) : ∃ kd a ta lb, (codeOf p t.fn.toNat).getD t.at_.toNat (0, 0) = (kd, a) ∧ opS p (p.getD t.fn.toNat Fn.zero) (kd, a) = 0 ∧ effS p kd a = (ta, lb, 0) ∧
    ta ≤ hAt p t ∧ ¬ (kd = 12 ∧ 1 < hAt p t) ∧ hAt p t - ta + lb ≤ 8 ∧ ∀ j, j ∈ nexts (kd, a) t.at_.toNat → j < (codeOf p t.fn.toNat).length ∧ (hgt p t.fn.toNat).getD j 0 = hAt p t - ta + lb := by
  obtain ⟨⟨f0, f1⟩, _, ⟨a0, a1⟩, h0⟩ := frame_parts hf
  have hk : t.fn.toNat < p.length := by omega
  have ha : t.at_.toNat < (codeOf p t.fn.toNat).length := by omega
  obtain ⟨hcons, _⟩ := cons_code hp hk
  have hh : (hgt p t.fn.toNat).getD t.at_.toNat 0 = hAt p t := rfl
  obtain ⟨x, m, hx, hm, hnx⟩ := hcons.done t.at_.toNat ha (by rw [hh]; omega)
  rw [hh] at hm
  obtain ⟨_, _, hck⟩ := progS_right hp
  obtain ⟨_, _, hops⟩ := chkS_ops (hck _ hk)
  have hop := opsS_all hops x (List.mem_of_getElem? hx)
  unfold beh at hm
  split at hm
  · rename_i hb
    simp only [Option.some.injEq] at hm
    refine ⟨x.1, x.2, (effS p x.1 x.2).1, (effS p x.1 x.2).2.1, by simp [List.getD, hx], hop, by rw [← hb.1], hb.2.1, hb.2.2.1, hb.2.2.2, ?_⟩
    rw [hm]
    exact hnx
  · cases hm
theorem frame_next {p : List Fn} {t t' : Fr} (hf : frameB p t = true) (hfn : t'.fn = t.fn) (hloc : t'.locals.length = t.locals.length) {j : Nat} {m : Int} (hat : t'.at_ = j) (hj : j < (codeOf p t.fn.toNat).length ∧ (hgt p t.fn.toNat).getD j 0 = m) (hm : 0 ≤ m) : frameB p t' = true ∧ hAt p t' = m := by
  obtain ⟨⟨f0, f1⟩, hl, _, _⟩ := frame_parts hf
  have h1 : hAt p t' = m := by unfold hAt; rw [hfn, hat, Int.toNat_natCast]; exact hj.2
  refine ⟨?_, h1⟩
  unfold frameB
  rw [h1, hfn, hloc, hat]
  simp only [Bool.and_eq_true, decide_eq_true_eq, ixB_iff]
  exact ⟨⟨f0, f1⟩, hl, ⟨by omega, by omega⟩, hm⟩
theorem frame_stk {p : List Fn} {u : Fr} (h : frameB p u = true) (l : List Int) : frameB p (u.stk l) = true := h
theorem room_of {p : List Fn} (hp : progS p = 0) {f : Nat} (hf : f < p.length) : 0 ≤ (p.getD f Fn.zero).args ∧ (p.getD f Fn.zero).args ≤ (p.getD f Fn.zero).locals ∧ (p.getD f Fn.zero).locals ≤ 4 ∧ (codeOf p f).length ≤ 24 := by
  obtain ⟨_, _, hck⟩ := progS_right hp
  obtain ⟨i, e, _, hcl, hroom, _⟩ := chkS_zero (hck f hf)
  obtain rfl : f = i := by omega
  obtain ⟨h1, h2, h3⟩ := roomB_iff.1 hroom
  exact ⟨h1, h2, h3, hcl⟩
theorem frame_begun {p : List Fn} (hp : progS p = 0) {f : Int} (hf : 0 ≤ f) (hfl : f < p.length) {vals : List Int} (hv : (vals.length : Int) ≤ (p.getD f.toNat Fn.zero).locals) : frameB p (begunS p f vals) = true ∧ hAt p (begunS p f vals) = 0 ∧ ((begunS p f vals).locals.length : Int) = (p.getD f.toNat Fn.zero).locals := by
  have hk : f.toNat < p.length := by omega
  obtain ⟨hcons, _⟩ := cons_code hp hk
  have h1 : hAt p (begunS p f vals) = 0 := hcons.first
  have hl : ((begunS p f vals).locals.length : Int) = (p.getD f.toNat Fn.zero).locals := by
    show ((vals ++ List.replicate ((p.getD f.toNat Fn.zero).locals.toNat - vals.length) 0).length : Int) = _
    rw [List.length_append, List.length_replicate]
    omega
  refine ⟨?_, h1, hl⟩
  unfold frameB
  rw [h1]
  simp only [Bool.and_eq_true, decide_eq_true_eq, ixB_iff]
  refine ⟨⟨hf, hfl⟩, hl, ⟨Int.le_refl _, ?_⟩, Int.le_refl _⟩
  have := hcons.pos
  show (0 : Int) < _
  have : (0 : Int) < (codeOf p f.toNat).length := by omega
  exact this
theorem wait_on {p : List Fn} {t : Fr} {kd a : Int} (hat : 0 ≤ t.at_) (hop : (codeOf p t.fn.toNat).getD t.at_.toNat (0, 0) = (kd, a)) {st : List Int} (hs : (st.length : Int) = hAt p (t.on.stk st) - 1) : jwaitB p (t.on.stk st) (kd, a) = true ∧ (kd ≠ 11 → waitB p (t.on.stk st) kd 0 = true) := by
  have ha : opAhead p (t.on.stk st) = (kd, a) := by
    unfold opAhead
    show (codeOf p t.fn.toNat).getD ((t.at_ + 1).toNat - 1) (0, 0) = _
    rw [show (t.at_ + 1).toNat - 1 = t.at_.toNat by omega, hop]
  have h1 : (t.on.stk st).at_ = t.at_ + 1 := rfl
  have h2 : (t.on.stk st).stack = st := rfl
  constructor
  · unfold jwaitB
    rw [ha, h1, h2]
    simp only [Bool.and_eq_true, decide_eq_true_eq, decide_true, and_true]
    exact ⟨by omega, hs⟩
  · intro hk
    unfold waitB
    rw [ha, h1, h2]
    simp only [Bool.and_eq_true, Bool.or_eq_true, Bool.not_eq_true', decide_eq_true_eq, decide_eq_false_iff_not, decide_true, true_and]
    exact ⟨⟨by omega, hs⟩, .inl hk⟩
theorem wait_stack {p : List Fn} {t : Fr} {kd o : Int} (h : waitB p t kd o = true) : (t.stack.length : Int) = hAt p t - 1 ∧ t.at_ ≠ 0 := by
  unfold waitB at h
  simp only [Bool.and_eq_true, Bool.not_eq_true', decide_eq_true_eq, decide_eq_false_iff_not] at h
  exact ⟨h.1.2, h.1.1⟩
structure Runner (p : List Fn) (s : St) (l : List Int) (n : Nat) (fs : List Fr) (t : Fr) (c kd a ta lb : Int) : Prop where
  good : Good p s l
  op : Op p s n fs t c kd a
  frs : FrsG p fs t
  stack : (t.stack.length : Int) = hAt p t
  right : opS p (p.getD t.fn.toNat Fn.zero) (kd, a) = 0
  eff : effS p kd a = (ta, lb, 0)
  has : ta ≤ hAt p t
  ret : ¬ (kd = 12 ∧ 1 < hAt p t)
  most : hAt p t - ta + lb ≤ 8
  next : ∀ j, j ∈ nexts (kd, a) t.at_.toNat → j < (codeOf p t.fn.toNat).length ∧ (hgt p t.fn.toNat).getD j 0 = hAt p t - ta + lb
  few : fs.length + 1 ≤ 6
theorem Good.runner {p : List Fn} {s : St} {l : List Int} (h : Good p s l) (hn : 0 ≤ s.now) : ∃ n fs t c kd a ta lb, Runner p s l n fs t c kd a ta lb := by
  obtain ⟨n, hnn⟩ : ∃ n : Nat, s.now = n := ⟨s.now.toNat, by omega⟩
  have hin : (n : Int) ∈ l := by rw [← hnn]; exact h.now_mem hn
  have hl : n < s.fibers.length := by have := h.path.inside _ hin; omega
  obtain ⟨fs, t, hb⟩ := h.on hin
  have hfib := h.each n hl
  rw [hb, fiber_parts] at hfib
  obtain ⟨hfrs, hst⟩ := hfib
  rw [if_pos (decide_eq_true hnn.symm)] at hst
  obtain ⟨kd, a, ta, lb, h1, h2, h3, h4, h5, h6, h7⟩ := op_facts h.prog hfrs.2.1
  have hfew := h.f6 n hl
  rw [hb] at hfew
  exact ⟨n, fs, t, _, kd, a, ta, lb, h, ⟨⟨hl, hb⟩, hnn, h1⟩, hfrs, hst, h2, h3, h4, h5, h6, h7, by simpa using hfew⟩
section
variable {p : List Fn} {s : St} {l : List Int} {n : Nat} {fs : List Fr} {t : Fr} {c kd a ta lb : Int}
theorem Runner.kind (h : Runner p s l n fs t c kd a ta lb) : 0 ≤ kd ∧ kd < 17 := ⟨(opS_kind h.right).1, (opS_kind h.right).2.1⟩
theorem Runner.plain (h : Runner p s l n fs t c kd a ta lb) (hk : kd ≠ 11) : ta = tk kd.toNat ∧ lb = lv kd.toNat := by
  have he := h.eff
  have := h.kind
  unfold effS at he
  rw [if_pos (by omega), if_neg hk] at he
  simp only [Prod.mk.injEq] at he
  exact ⟨he.1.symm, he.2.1.symm⟩
theorem Runner.leaves (h : Runner p s l n fs t c kd a ta lb) : 0 ≤ ta ∧ 0 ≤ lb := by
  by_cases h11 : kd = 11
  · subst h11
    obtain ⟨_, _, h1, h2⟩ := effS_call h.right rfl
    rw [h.eff] at h2
    simp only [Prod.mk.injEq] at h2
    simp only at h1
    omega
  · obtain ⟨ta', lb', h1, h2, _, h3, _⟩ := effS_plain h.right h11
    rw [h.eff] at h1
    simp only [Prod.mk.injEq] at h1
    omega
theorem Runner.at0 (h : Runner p s l n fs t c kd a ta lb) : 0 ≤ t.at_ := (frame_parts h.frs.2.1).2.2.1.1
theorem Runner.on (h : Runner p s l n fs t c kd a ta lb) (h9 : kd ≠ 9) (h12 : kd ≠ 12) (st : List Int) : frameB p (t.on.stk st) = true ∧ hAt p (t.on.stk st) = hAt p t - ta + lb := by
  have hj : t.at_.toNat + 1 ∈ nexts (kd, a) t.at_.toNat := by
    unfold nexts
    simp only
    rw [if_neg h12, if_neg h9]
    split <;> simp
  have := h.at0
  have := h.leaves
  have := h.has
  exact frame_next (t' := t.on.stk st) h.frs.2.1 rfl rfl (j := t.at_.toNat + 1) (by show t.at_ + 1 = _; omega) (h.next _ hj) (by omega)
theorem Runner.goes (h : Runner p s l n fs t c kd a ta lb) (h9 : kd = 9 ∨ kd = 10) : 0 ≤ a := by
  obtain ⟨_, _, hm⟩ := opS_kind h.right
  have : opd kd.toNat = 3 := by rcases h9 with rfl | rfl <;> rfl
  rw [this] at hm
  have hm' : ixB a (p.getD t.fn.toNat Fn.zero).code.length = true := hm
  exact (ixB_iff.1 hm').1
theorem Runner.names (h : Runner p s l n fs t c kd a ta lb) (h9 : kd = 11 ∨ kd = 13) : 0 ≤ a ∧ a < p.length ∧ 0 ≤ (p.getD a.toNat Fn.zero).args ∧ (p.getD a.toNat Fn.zero).args ≤ (p.getD a.toNat Fn.zero).locals ∧ (p.getD a.toNat Fn.zero).locals ≤ 4 := by
  obtain ⟨_, _, hm⟩ := opS_kind h.right
  have : opd kd.toNat = 4 := by rcases h9 with rfl | rfl <;> rfl
  rw [this] at hm
  obtain ⟨h1, h2, h3⟩ := mayB4 hm
  obtain ⟨h4, h5, h6⟩ := roomB_iff.1 h3
  exact ⟨h1, h2, h4, h5, h6⟩
theorem Runner.local (h : Runner p s l n fs t c kd a ta lb) (h9 : kd = 2 ∨ kd = 3) : 0 ≤ a ∧ a.toNat < t.locals.length := by
  obtain ⟨_, _, hm⟩ := opS_kind h.right
  have : opd kd.toNat = 2 := by rcases h9 with rfl | rfl <;> rfl
  rw [this] at hm
  have hm' : ixB a (p.getD t.fn.toNat Fn.zero).locals = true := hm
  obtain ⟨h1, h2⟩ := ixB_iff.1 hm'
  have := (frame_parts h.frs.2.1).2.1
  omega
theorem Runner.caller (h : Runner p s l n fs t c kd a ta lb) (hc : 0 ≤ c) : ∃ (m : Nat) (gs : List Fr) (u : Fr) (d : Int), c = m ∧ n ≠ m ∧ Tops s m gs u d ∧ FrsG p gs u ∧ (u.stack.length : Int) = hAt p u - 1 ∧ gs.length + 1 ≤ 6 := by
  have hcal : (fibAt s n).caller = c := by rw [h.op.tops.eq]
  obtain ⟨r0, hl⟩ := h.good.head (by rw [h.op.now]; omega)
  have hp := h.good.path
  have hnd := h.good.nodup
  rw [hl] at hp hnd
  obtain ⟨_, _, _, hp'⟩ := hp
  have hcn : callerOf s.fibers s.now = c := by rw [h.op.now]; exact hcal
  rw [hcn] at hp'
  cases r0 with
  | nil => have : c = -1 := hp'; omega
  | cons x r =>
    obtain ⟨hx, hx0, hx1, _⟩ := hp'
    subst hx
    obtain ⟨m, rfl⟩ : ∃ m : Nat, c = m := ⟨c.toNat, by omega⟩
    have hin : (m : Int) ∈ l := by rw [hl]; simp
    have hne : n ≠ m := by
      rintro rfl
      exact (List.nodup_cons.1 hnd).1 (by rw [h.op.now]; simp)
    obtain ⟨gs, u, hb⟩ := h.good.on hin
    have hml : m < s.fibers.length := by omega
    have hfib := h.good.each m hml
    rw [hb, fiber_parts] at hfib
    obtain ⟨hfrs, hst⟩ := hfib
    rw [if_neg (by rw [decide_eq_false (by rw [h.op.now]; omega)]; simp), if_pos (decide_eq_true hin)] at hst
    have hfew := h.good.f6 m hml
    rw [hb] at hfew
    exact ⟨m, gs, u, _, rfl, hne, ⟨hml, hb⟩, hfrs, (wait_stack hst).1, by simpa using hfew⟩
theorem Runner.callerOf (h : Runner p s l n fs t c kd a ta lb) : (fibAt s n).caller = c := by rw [h.op.tops.eq]
def Ends (p : List Fn) (r : St × Int) : Prop := (r.2 = 0 ∧ ∃ l, Good p r.1 l) ∨ (r.1 = St.zero ∧ (r.2 = 2 ∨ r.2 = 5 ∨ r.2 = 6 ∨ r.2 = 7))
theorem Runner.ends (h : Runner p s l n fs t c kd a ta lb) : Ends p (doneS p s) := by
  obtain ⟨k0, k17⟩ := h.kind
  obtain ⟨l0, l1⟩ := h.leaves
  have hst := h.stack
  have hhas := h.has
  have hlt := h.op.tops.lt
  have hgood := h.good
  have hout := hgood.o30
  by_cases k10 : kd ≤ 10
  · obtain ⟨t', j, e, hfn, hloc, hs', hj, hat⟩ := done_stay h.op k0 k10 h.eff (by omega) h.at0 h.goes
    rw [e]
    obtain ⟨hf', hh'⟩ := frame_next h.frs.2.1 hfn hloc hat (h.next j hj) (by omega)
    exact .inl ⟨rfl, l, hgood.stay h.op.now hlt h.callerOf (h.frs.turn hf' hfn) (by omega) h.few s.out hout⟩
  by_cases k11 : kd = 11
  · subst k11
    obtain ⟨n0, n1, n2, n3, n4⟩ := h.names (.inl rfl)
    obtain ⟨_, _, _, he⟩ := effS_call h.right rfl
    rw [h.eff] at he
    simp only [Prod.mk.injEq] at he
    obtain ⟨e1, e2, _⟩ := he
    rw [goes_call h.op]
    split
    · exact .inr ⟨rfl, .inl rfl⟩
    · rename_i h6
      have hfew := h.few
      obtain ⟨hf', hh'⟩ := h.on (by omega) (by omega) (t.stack.take (t.stack.length - (p.getD a.toNat Fn.zero).args.toNat))
      obtain ⟨hb1, hb2, _⟩ := frame_begun hgood.prog n0 n1 (vals := t.stack.drop (t.stack.length - (p.getD a.toNat Fn.zero).args.toNat)) (by rw [List.length_drop]; omega)
      have hw := (wait_on (p := p) (t := t) h.at0 h.op.op (st := t.stack.take (t.stack.length - (p.getD a.toNat Fn.zero).args.toNat)) (by rw [hh', List.length_take]; omega)).1
      refine .inl ⟨rfl, l, hgood.stay h.op.now hlt h.callerOf ((h.frs.turn hf' rfl).push hw hb1) (by rw [hb2]; rfl) (by simp; omega) s.out hout⟩
  by_cases k12 : kd = 12
  · subst k12
    have hta : ta = 1 := (h.plain (by omega)).1
    have hr := h.ret
    obtain ⟨st, v, hsv⟩ := stack_one (l := t.stack) (by omega)
    rcases List.eq_nil_or_concat fs with rfl | ⟨gs, u, rfl⟩
    · by_cases hc : c < 0
      · rw [done_return_end h.op hsv hc]
        unfold putS
        split
        · exact .inr ⟨rfl, .inl rfl⟩
        · rename_i ho
          have ho' : ¬ s.out.length = 30 := ho
          refine .inl ⟨rfl, [], hgood.over h.op.now hlt h.callerOf hc (s.out ++ [v]) (by simp; omega)⟩
      · obtain ⟨m, gs, u, d, e, hne, htop, hfu, hsu, h6⟩ := h.caller (by omega)
        rw [done_return_on h.op hsv e hne htop]
        obtain ⟨r, _, hg⟩ := hgood.back h.op.now hlt (h.callerOf.trans e) (b := ⟨[], -1⟩) (fiber_none.2 ⟨rfl, rfl⟩) (by simp) (gs := gs) (u := u.stk (u.stack ++ [v])) (by rw [htop.eq]) (hfu.turn (frame_stk hfu.2.1 _) rfl) (by
          show ((u.stack ++ [v]).length : Int) = hAt p u
          simp; omega) h6
        exact .inl ⟨rfl, _, hg⟩
    · have hopn := h.op
      have hfr := h.frs
      have hfew := h.few
      rw [List.concat_eq_append] at hopn hfr hfew
      rw [done_return_in hopn hsv]
      obtain ⟨hfu, hw⟩ := hfr.pop
      have hsu : (u.stack.length : Int) = hAt p u - 1 := by
        unfold jwaitB at hw
        simp only [Bool.and_eq_true, decide_eq_true_eq] at hw
        exact hw.1.2
      refine .inl ⟨rfl, l, hgood.stay h.op.now hlt h.callerOf (hfu.turn (frame_stk hfu.2.1 (u.stack ++ [v])) rfl) (by
        show ((u.stack ++ [v]).length : Int) = hAt p u
        simp; omega) (by simp at hfew; omega) s.out hout⟩
  by_cases k13 : kd = 13
  · subst k13
    obtain ⟨n0, n1, n2, n3, n4⟩ := h.names (.inr rfl)
    obtain ⟨e1, e2⟩ := h.plain (by omega)
    have e1 : ta = 0 := e1
    have e2 : lb = 1 := e2
    rw [goes_make h.op]
    split
    · exact .inr ⟨rfl, .inl rfl⟩
    · rename_i h5
      have h5' := hgood.n5
      obtain ⟨hf', hh'⟩ := h.on (by omega) (by omega) (t.stack ++ [(s.fibers.length : Int)])
      have hg := hgood.stay h.op.now hlt h.callerOf (h.frs.turn hf' rfl) (by
        rw [hh']
        show ((t.stack ++ [(s.fibers.length : Int)]).length : Int) = _
        simp; omega) h.few s.out hout
      obtain ⟨hb1, hb2, hb3⟩ := frame_begun hgood.prog n0 n1 (vals := []) (Int.le_trans n2 n3)
      have hargs : (p.getD a.toNat Fn.zero).args = 1 := by
        have hr := h.right
        unfold opS at hr
        simp only at hr
        rw [if_pos (by omega), if_pos (opS_kind h.right).2.2] at hr
        split at hr
        · cases hr
        · rename_i hh
          rcases Decidable.em ((p.getD a.toNat Fn.zero).args = 1) with h1 | h1
          · exact h1
          · exact absurd ⟨trivial, h1⟩ hh
      have hfresh : freshB p ⟨[] ++ [begunS p a []], -1⟩ = true := by
        show ((decide ((begunS p a []).at_ = 0) && (decide ((p.getD (begunS p a []).fn.toNat Fn.zero).args = 1) && decide ((begunS p a []).stack.length = 0))) && zerosB (begunS p a []).locals) = true
        have e3 : (begunS p a []).fn = a := rfl
        have e4 : zerosB (begunS p a []).locals = true := by
          unfold zerosB
          rw [List.all_eq_true]
          intro z hz
          have : z ∈ List.replicate ((p.getD a.toNat Fn.zero).locals.toNat - ([] : List Int).length) (0 : Int) := hz
          simp at this
          exact decide_eq_true this.2
        rw [e3, hargs, e4]
        rfl
      have hmore := hg.more (b := ⟨[] ++ [begunS p a []], -1⟩) (fiber_parts.2 ⟨⟨by simp, hb1, rfl⟩, by rw [if_neg (by simp), if_neg (by simp)]; exact ⟨rfl, .inl hfresh⟩⟩) (by simp) (by
        show (setFib s n _).fibers.length < 5
        rw [setFib_len]; omega)
      exact .inl ⟨rfl, l, hmore⟩
  by_cases k14 : kd = 14
  · subst k14
    obtain ⟨e1, e2⟩ := h.plain (by omega)
    have e1 : ta = 2 := e1
    have e2 : lb = 1 := e2
    obtain ⟨st, x, v, hsv⟩ := stack_two (l := t.stack) (by omega)
    have hstl : (st.length : Int) + 2 = t.stack.length := by rw [hsv]; simp
    rw [goes_resume h.op hsv, hgood.line.1]
    split
    · rename_i hix
      obtain ⟨hx0, hx1⟩ := ixB_iff.1 hix
      obtain ⟨m, rfl⟩ : ∃ m : Nat, x = m := ⟨x.toNat, by omega⟩
      rw [Int.toNat_natCast]
      split
      · exact .inr ⟨rfl, .inr (.inr (.inl rfl))⟩
      · rename_i hno
        rw [not_or] at hno
        obtain ⟨hml, hfr⟩ := hno
        simp only [Option.getD_some] at hml
        have hne : n ≠ m := by rintro rfl; exact hml (by rw [← h.op.now]; exact hgood.now_mem (by rw [h.op.now]; omega))
        rw [fibAt_ne _ hne] at hfr ⊢
        obtain ⟨hf', hh'⟩ := h.on (by omega) (by omega) st
        have hw := (wait_on (p := p) (t := t) h.at0 h.op.op (st := st) (by rw [hh']; omega)).2 (by omega)
        have hmlt : m < s.fibers.length := by omega
        rcases Fb.form (fibAt s m) with e | ⟨gs, u, e⟩
        · rw [e] at hfr; exact absurd rfl hfr
        · have hfib := hgood.each m hmlt
          have hfew := hgood.f6 m hmlt
          have hru : decide ((m : Int) = s.now) = false := decide_eq_false (by rw [h.op.now]; omega)
          rw [e] at hfib hfew
          rw [fiber_parts, hru, decide_eq_false hml, if_neg (by simp), if_neg (by simp)] at hfib
          obtain ⟨hfu, hcm, hcase⟩ := hfib
          have hfm : (fibAt s m).frames = gs ++ [u] := by rw [e]
          have hform : (⟨(fibAt s m).frames, (n : Int)⟩ : Fb).turnTop (fun u => u.got v) = ⟨gs ++ [u.got v], n⟩ := by
            rw [hfm]
            unfold Fb.turnTop Fb.top
            simp
          rw [hform]
          have hgot : FrsG p gs (u.got v) ∧ ((u.got v).stack.length : Int) = hAt p (u.got v) := by
            unfold Fr.got
            rcases hcase with hfresh | hwt
            · unfold freshB at hfresh
              split at hfresh
              · rename_i y hy
                have hy' : gs ++ [u] = [y] := hy
                obtain ⟨rfl, rfl⟩ : gs = [] ∧ u = y := by
                  cases gs with
                  | nil => exact ⟨rfl, by simpa using hy'⟩
                  | cons a b => simp at hy'
                simp only [Bool.and_eq_true, decide_eq_true_eq] at hfresh
                obtain ⟨⟨h1, h2, h3⟩, _⟩ := hfresh
                rw [if_pos h1]
                refine ⟨hfu.turn ?_ rfl, ?_⟩
                · have := hfu.2.1
                  unfold frameB at this ⊢
                  simp only [List.length_set]
                  exact this
                · show (u.stack.length : Int) = hAt p u
                  obtain ⟨hcons, _⟩ := cons_code hgood.prog (k := u.fn.toNat) (by have := frame_parts hfu.2.1; omega)
                  have : hAt p u = 0 := by unfold hAt; rw [h1]; exact hcons.first
                  omega
              · cases hfresh
            · obtain ⟨h1, h2⟩ := wait_stack hwt
              rw [if_neg h2]
              refine ⟨hfu.turn (frame_stk hfu.2.1 _) rfl, ?_⟩
              show ((u.stack ++ [v]).length : Int) = hAt p u
              simp; omega
          have hg := hgood.forth h.op.now hlt hmlt hml h.callerOf (h.frs.turn hf' rfl) hw h.few hgot.1 hgot.2 (by simpa using hfew)
          exact .inl ⟨rfl, _, hg⟩
    · exact .inr ⟨rfl, .inr (.inl rfl)⟩
  by_cases k15 : kd = 15
  · subst k15
    obtain ⟨e1, e2⟩ := h.plain (by omega)
    have e1 : ta = 1 := e1
    have e2 : lb = 1 := e2
    obtain ⟨st, v, hsv⟩ := stack_one (l := t.stack) (by omega)
    have hstl : (st.length : Int) + 1 = t.stack.length := by rw [hsv]; simp
    by_cases hc : c < 0
    · rw [goes_yield h.op hc]
      exact .inr ⟨rfl, .inr (.inr (.inr rfl))⟩
    · obtain ⟨m, gs, u, d, e, hne, htop, hfu, hsu, h6⟩ := h.caller (by omega)
      rw [done_yield_on h.op hsv e hne htop]
      obtain ⟨hf', hh'⟩ := h.on (by omega) (by omega) st
      have hw := (wait_on (p := p) (t := t) h.at0 h.op.op (st := st) (by rw [hh']; omega)).2 (by omega)
      obtain ⟨r, _, hg⟩ := hgood.back h.op.now hlt (h.callerOf.trans e) (b := ⟨fs ++ [t.on.stk st], -1⟩) (fiber_parts.2 ⟨h.frs.turn hf' rfl, by simp [hw]⟩) (by have := h.few; simpa using this) (gs := gs) (u := u.stk (u.stack ++ [v])) (by rw [htop.eq]) (hfu.turn (frame_stk hfu.2.1 _) rfl) (by
          show ((u.stack ++ [v]).length : Int) = hAt p u
          simp; omega) h6
      exact .inl ⟨rfl, _, hg⟩
  obtain rfl : kd = 16 := by omega
  obtain ⟨e1, e2⟩ := h.plain (by omega)
  have e1 : ta = 1 := e1
  have e2 : lb = 0 := e2
  obtain ⟨st, v, hsv⟩ := stack_one (l := t.stack) (by omega)
  have hstl : (st.length : Int) + 1 = t.stack.length := by rw [hsv]; simp
  rw [goes_put h.op hsv]
  obtain ⟨hf', hh'⟩ := h.on (by omega) (by omega) st
  unfold putS
  split
  · exact .inr ⟨rfl, .inl rfl⟩
  · rename_i ho
    have ho' : ¬ s.out.length = 30 := ho
    exact .inl ⟨rfl, l, hgood.stay h.op.now hlt h.callerOf (h.frs.turn hf' rfl) (by
      rw [hh']
      show (st.length : Int) = _
      omega) h.few (s.out ++ [v]) (by simp; omega)⟩
end
theorem right_step {p : List Fn} {s : St} (h : stErrS p s = 0) (hn : 0 ≤ s.now) : ((doneS p s).2 = 0 ∧ stErrS p (doneS p s).1 = 0) ∨ ((doneS p s).1 = St.zero ∧ ((doneS p s).2 = 2 ∨ (doneS p s).2 = 5 ∨ (doneS p s).2 = 6 ∨ (doneS p s).2 = 7)) := by
  obtain ⟨l, _, hg⟩ := right_good h
  obtain ⟨n, fs, t, c, kd, a, ta, lb, hr⟩ := hg.runner hn
  rcases hr.ends with ⟨h1, l', h2⟩ | h1
  · exact .inl ⟨h1, good_right h2⟩
  · exact .inr h1
end Go.Proofs.YtokhibfenccijaaGreatDoor
namespace Go.Proofs.YtokhibfenccijaaGreatDoor
theorem right_small {p : List Fn} {s : St} (h : stErrS p s = 0) : Small s := by
  obtain ⟨hp, hlim, _⟩ := right_parts h
  obtain ⟨h5, h30, h6, _, _, _⟩ := limS_zero hlim
  refine ⟨by omega, by omega, fun b hb => ⟨by have := h6 b hb; omega, fun f hf => ?_⟩⟩
  obtain ⟨k, hk, rfl⟩ := mem_fibAt hb
  obtain ⟨j, hj, rfl⟩ := List.getElem_of_mem hf
  have e : frAt s k j = (fibAt s k).frames[j] := by simp [frAt, List.getD, hj]
  obtain ⟨h1, h2⟩ := right_frame h hk hj
  rw [e] at h1 h2
  obtain ⟨⟨q1, q2⟩, q3, _⟩ := frame_parts h1
  have := (room_of hp (f := (fibAt s k).frames[j].fn.toNat) (by omega)).2.2.1
  exact ⟨by omega, by omega⟩
theorem zero_small : Small St.zero := ⟨Nat.zero_le _, Nat.zero_le _, fun b hb => by cases hb⟩
theorem right_ok {p : List Fn} {s : St} (h : stErrS p s = 0) (hn : 0 ≤ s.now) : OkS p s := by
  obtain ⟨l, hl, hg⟩ := right_good h
  obtain ⟨n, fs, t, c, kd, a, ta, lb, hr⟩ := hg.runner hn
  have hnn := hr.op.now
  have hlt := hr.op.tops.lt
  have hnt : s.now.toNat = n := by omega
  have htop : s.top = t := top_form hr.op.tops hnn
  have hfb : fibAt s s.now.toNat = ⟨fs ++ [t], c⟩ := by rw [hnt]; exact hr.op.tops.eq
  have hsm := right_small h
  obtain ⟨k0, k17⟩ := hr.kind
  obtain ⟨⟨f0, f1⟩, floc, ⟨a0, a1⟩, fh⟩ := frame_parts hr.frs.2.1
  have hst := hr.stack
  have hhas := hr.has
  refine ⟨⟨hn, by omega, hg.n5, hg.o30⟩, fun b hb => ?_, by rw [hfb]; simp, fun hc => ?_, ⟨by rw [hl]; rfl, by rw [hl]; exact hg.now_mem hn⟩, fun k hk hkl hkf hat => ?_, ?_, ?_⟩
  · obtain ⟨k, hk, rfl⟩ := mem_fibAt hb
    exact ⟨⟨hg.f6 k hk, hg.caller hk⟩, (hsm.2.2 _ hb).2⟩
  · rw [hfb] at hc ⊢
    obtain ⟨m, gs, u, d, e, hne, ht, _⟩ := hr.caller hc
    refine ⟨by show c ≠ s.now; omega, ?_⟩
    have : (fibAt s c.toNat).frames = gs ++ [u] := by rw [show c.toNat = m by omega, ht.eq]
    show 0 < (fibAt s c.toNat).frames.length
    rw [this]; simp
  · rw [hl] at hkl
    have hkl' : (k : Int) ∉ l := hkl
    have hfib := hg.each k hk
    have hru : decide ((k : Int) = s.now) = false := decide_eq_false (fun e => hkl' (by rw [e]; exact hg.now_mem hn))
    rw [decide_eq_false hkl', hru] at hfib
    rcases Fb.form (fibAt s k) with e | ⟨gs, u, e⟩
    · rw [e] at hkf; simp at hkf
    · have hu : frAt s k ((fibAt s k).frames.length - 1) = u := by
        unfold frAt
        rw [e]
        simp
      rw [hu] at hat ⊢
      rw [e, fiber_parts, if_neg (by simp), if_neg (by simp)] at hfib
      obtain ⟨hfu, _, hcase⟩ := hfib
      rcases hcase with hfresh | hw
      · unfold freshB at hfresh
        split at hfresh
        · rename_i y hy
          have hy' : gs ++ [u] = [y] := hy
          obtain ⟨rfl, rfl⟩ : gs = [] ∧ u = y := by
            cases gs with
            | nil => exact ⟨rfl, by simpa using hy'⟩
            | cons a b => simp at hy'
          simp only [Bool.and_eq_true, decide_eq_true_eq] at hfresh
          obtain ⟨⟨_, h2, _⟩, _⟩ := hfresh
          obtain ⟨⟨q1, q2⟩, q3, _⟩ := frame_parts hfu.2.1
          have := room_of hg.prog (f := u.fn.toNat) (by omega)
          omega
        · cases hfresh
      · exact absurd hat (wait_stack hw).2
  · rw [htop]
    have := (room_of hg.prog (f := t.fn.toNat) (by omega)).2.2.2
    exact ⟨f0, by omega, a0, by omega, by omega⟩
  · rw [htop]
    have hopat : opAt p t = (kd, a) := hr.op.op
    unfold needS
    rw [hopat]
    simp only
    refine ⟨?_, hr.local, fun h11 => ?_, fun h13 => ?_⟩
    · unfold needN
      split
      · omega
      · have : ta = tk kd.toNat := (hr.plain (by omega)).1
        split
        · rename_i h1 h2
          have : ta = 1 := by rcases h2 with rfl | rfl | rfl | rfl | rfl | rfl <;> exact this
          omega
        · rename_i h1 h2
          have h3 : kd = 4 ∨ kd = 5 ∨ kd = 6 ∨ kd = 7 ∨ kd = 8 ∨ kd = 14 := by omega
          have : ta = 2 := by rcases h3 with rfl | rfl | rfl | rfl | rfl | rfl <;> exact this
          omega
    · obtain ⟨n0, n1, n2, n3, n4⟩ := hr.names (.inl h11)
      have h11' : kd = 11 := h11
      subst h11'
      obtain ⟨_, _, _, he⟩ := effS_call hr.right rfl
      rw [hr.eff] at he
      simp only [Prod.mk.injEq] at he
      obtain ⟨e1, _⟩ := he
      exact ⟨n0, by omega, n2, n3, by omega, by omega⟩
    · obtain ⟨n0, n1, n2, n3, n4⟩ := hr.names (.inr h13)
      exact ⟨n0, by omega, by omega, by omega⟩
theorem run_right {p : List Fn} : ∀ (k : Nat) {s : St}, stErrS p s = 0 → stErrS p (runS p k s).1 = 0
  | 0, _, h => h
  | k + 1, s, h => by
    by_cases hn : s.now < 0
    · rw [runS_stop p _ s (.inr hn)]; exact h
    · rcases right_step h (by omega) with ⟨h0, h1⟩ | ⟨_, h1⟩
      · rw [runS_go p k s hn h0]; exact run_right k h1
      · rw [runS_err p k s hn (by omega)]; exact h
theorem pull_runs {s : St} {i : Nat} (hn : s.now = i) (hr : Runs s i) : (pullV s).now = i ∧ Runs (pullV s) i ∧ (frAt (pullV s) i ((fibAt (pullV s) i).frames.length - 1)).stack = (frAt s i ((fibAt s i).frames.length - 1)).stack.dropLast := by
  have hj : (fibAt s i).frames.length - 1 < (fibAt s i).frames.length := by have := hr.fr; omega
  have hl : (pullV s).fibers.length = s.fibers.length := by rw [pullV_setFr hn]; exact setFib_len _ _ _
  have hf : (fibAt (pullV s) i).frames.length = (fibAt s i).frames.length := by rw [pullV_setFr hn]; exact setFr_frames _ hr.lt i
  have hs : (frAt (pullV s) i ((fibAt s i).frames.length - 1)).stack = (frAt s i ((fibAt s i).frames.length - 1)).stack.dropLast := by rw [pullV_setFr hn, frAt_same _ hr.lt hj]
  refine ⟨by rw [pullV_setFr hn]; exact hn, ⟨by rw [hl]; exact hr.lt, by rw [hf]; exact hr.fr, by rw [hf]; exact hr.frs, ?_⟩, by rw [hf]; exact hs⟩
  rw [hf, hs]
  have := hr.st
  simp; omega
def gaveWay (s : St) (i : Nat) : St := { setFib s i { fibAt s i with caller := -1 } with now := (fibAt s i).caller }
def yieldS (s : St) (i : Nat) (z : Int) : St × Int := if (fibAt s i).caller = -1 then (St.zero, 7) else (pushV (gaveWay s i) (fibAt s i).caller z, 0)
theorem way_runs {s : St} {i m : Nat} (hne : m ≠ i) (hr : Runs s m) : Runs (gaveWay s i) m :=
  hr.other (setFib_len _ _ _) (fibAt_ne _ (fun e => hne e.symm))
def dropped (s : St) (i : Nat) : St := setFib s i { fibAt s i with frames := (fibAt s i).frames.dropLast }
def gaveBack (s : St) (i : Nat) (z : Int) : St × Int :=
  if (fibAt s i).frames.length = 1 then
    (if (fibAt s i).caller = -1 then putS (gaveWay (dropped s i) i) z else (pushV (gaveWay (dropped s i) i) (fibAt s i).caller z, 0))
  else (pushV (dropped s i) i z, 0)
theorem dropped_fib {s : St} {i : Nat} (hi : i < s.fibers.length) : fibAt (dropped s i) i = { fibAt s i with frames := (fibAt s i).frames.dropLast } := fibAt_same _ hi
theorem dropped_len (s : St) (i : Nat) : (dropped s i).fibers.length = s.fibers.length := setFib_len _ _ _
def callFr (f lo : Nat) (vals : List Int) : Fr := ⟨f, 0, vals ++ List.replicate (lo - vals.length) 0, []⟩
def callS (s : St) (i f a lo : Nat) : St × Int :=
  if (fibAt s i).frames.length = 6 then (St.zero, 2) else (setFib (takeTop s i a) i { fibAt (takeTop s i a) i with frames := (fibAt (takeTop s i a) i).frames ++ [callFr f lo ((frAt s i ((fibAt s i).frames.length - 1)).stack.drop ((frAt s i ((fibAt s i).frames.length - 1)).stack.length - a))] }, 0)
def makeS (s : St) (i f lo : Nat) : St × Int :=
  if s.fibers.length = 5 then (St.zero, 2) else (pushV { s with fibers := s.fibers ++ [⟨[callFr f lo []], -1⟩] } i s.fibers.length, 0)
def resumeS (s : St) (i : Nat) (x z : Int) : St × Int :=
  if x < 0 ∨ (s.fibers.length : Int) ≤ x then (St.zero, 5)
  else if x.toNat = 0 ∨ (fibAt s x.toNat).caller ≠ -1 ∨ (fibAt s x.toNat).frames.length = 0 then (St.zero, 6)
  else if (frAt s x.toNat ((fibAt s x.toNat).frames.length - 1)).at_ = 0 then
    (setFr { setFib s x.toNat { fibAt s x.toNat with caller := i } with now := x } x.toNat ((fibAt s x.toNat).frames.length - 1) { frAt s x.toNat ((fibAt s x.toNat).frames.length - 1) with locals := (frAt s x.toNat ((fibAt s x.toNat).frames.length - 1)).locals.set 0 z }, 0)
  else (pushV { setFib s x.toNat { fibAt s x.toNat with caller := i } with now := x } x z, 0)
theorem setFib_self {s : St} {i : Nat} {b : Fb} (hi : i < s.fibers.length) (hb : b = fibAt s i) : setFib s i b = s := by
  unfold setFib
  rw [hb, show s.fibers.set i (fibAt s i) = s.fibers from set_getD_self _ _ _ hi]
theorem caller_self {s : St} {i : Nat} {c : Int} (hi : i < s.fibers.length) (hc : (fibAt s i).caller = c) : setFib s i { fibAt s i with caller := c } = s := setFib_self hi (by rw [← hc])
theorem pull_caller {s : St} {i : Nat} (hn : s.now = i) (hr : Runs s i) (k : Nat) : (fibAt (pullV s) k).caller = (fibAt s k).caller := by rw [pullV_setFr hn]; exact setFr_caller _ hr.lt k
theorem pull_frames {s : St} {i : Nat} (hn : s.now = i) (hr : Runs s i) (k : Nat) : (fibAt (pullV s) k).frames.length = (fibAt s k).frames.length := by rw [pullV_setFr hn]; exact setFr_frames _ hr.lt k
theorem pull_len {s : St} {i : Nat} (hn : s.now = i) : (pullV s).fibers.length = s.fibers.length := by rw [pullV_setFr hn]; exact setFib_len _ _ _
theorem pull_other {s : St} {i k : Nat} (hn : s.now = i) (hk : k ≠ i) : fibAt (pullV s) k = fibAt s k := by rw [pullV_setFr hn]; exact setFr_other _ (fun e => hk e.symm)
theorem yield_eq {s : St} {i : Nat} (hn : s.now = i) (hc : -1 ≤ (fibAt (pullV s) i).caller) : yieldedS s = yieldS (pullV s) i (lastV s) := by
  unfold yieldedS yieldS gaveWay
  simp only [hn, fib_fibAt, turn_setFib]
  by_cases h : (fibAt (pullV s) i).caller = -1
  · rw [if_pos (by omega), if_pos h]
  · rw [if_neg (by omega), if_neg h]
theorem given_eq {s : St} {i : Nat} (hn : s.now = i) (hr : Runs (pullV s) i) (hc : -1 ≤ (fibAt (pullV s) i).caller) : givenS s = gaveBack (pullV s) i (lastV s) := by
  have hd : fibAt (dropped (pullV s) i) i = { fibAt (pullV s) i with frames := (fibAt (pullV s) i).frames.dropLast } := dropped_fib hr.lt
  have hdc : (fibAt (dropped (pullV s) i) i).caller = (fibAt (pullV s) i).caller := by rw [hd]
  have hf := hr.fr
  have hl : i < (dropped (pullV s) i).fibers.length := by rw [dropped_len]; exact hr.lt
  have hs1 : ((pullV s).turn s.now fun b => { b with frames := b.frames.dropLast }) = dropped (pullV s) i := by rw [hn, turn_setFib]; rfl
  unfold givenS gaveBack
  simp only
  rw [hs1]
  simp only [hn, fib_fibAt, turn_setFib, hdc]
  by_cases h1 : (fibAt (pullV s) i).frames.length = 1
  · have h2 : (fibAt (dropped (pullV s) i) i).frames = [] := by
      rw [hd]
      apply List.eq_nil_of_length_eq_zero
      simp [h1]
    rw [if_pos h2, if_pos h1]
    by_cases h3 : (fibAt (pullV s) i).caller = -1
    · rw [if_pos (by omega), if_pos h3]
      have : gaveWay (dropped (pullV s) i) i = { dropped (pullV s) i with now := -1 } := by
        unfold gaveWay
        rw [caller_self hl (hdc.trans h3), hdc, h3]
      rw [this]
    · rw [if_neg (by omega), if_neg h3]
      unfold gaveWay
      rw [hdc]
  · have h2 : (fibAt (dropped (pullV s) i) i).frames ≠ [] := by
      rw [hd]
      intro e
      have := congrArg List.length e
      simp at this
      omega
    rw [if_neg h2, if_neg h1]
theorem made_eq {p : List Fn} {s : St} {i f lo : Nat} (hn : s.now = i) (hi : i < s.fibers.length) (hl : (p.getD f Fn.zero).locals = lo) : madeS p s f = makeS s i f lo := by
  have hb : begunS p (f : Int) [] = callFr f lo [] := by
    unfold begunS callFr
    rw [Int.toNat_natCast, hl, Int.toNat_natCast]
  obtain ⟨fbs, nw, ou⟩ := s
  simp only at hn hi
  subst hn
  unfold madeS makeS
  rw [hb]
  simp only
  split
  · rfl
  · have hf : fibAt ⟨fbs ++ [⟨[callFr f lo []], -1⟩], i, ou⟩ i = fibAt ⟨fbs, i, ou⟩ i := by simp [fibAt, List.getD, List.getElem?_append_left hi]
    have hfr : ∀ j, frAt ⟨fbs ++ [⟨[callFr f lo []], -1⟩], i, ou⟩ i j = frAt ⟨fbs, i, ou⟩ i j := fun j => by unfold frAt; rw [hf]
    unfold pushV
    rw [turnTop_setFr, turnTop_setFr, hfr, hf]
    unfold setFr setFib
    rw [hf]
    simp only
    rw [List.set_append, if_pos hi]
theorem resume_eq {s : St} {i : Nat} {s2 : St} {x v : Int} (h2 : pullV (pullV s) = s2) (hx : lastV (pullV s) = x) (hv : lastV s = v) (hn2 : s2.now = i) (hline : ∀ m : Nat, m < s2.fibers.length → ((m : Int) ∈ (lineF s2.fibers (s2.fibers.length + 1) s2.now []).getD [] ↔ m = 0 ∨ (fibAt s2 m).caller ≠ -1)) :
    resumedS s = resumeS s2 i x v := by
  unfold resumedS resumeS
  simp only [hx, hv, h2]
  by_cases hb : x < 0 ∨ (s2.fibers.length : Int) ≤ x
  · rw [if_neg (by rw [ixB_iff]; omega), if_pos hb]
  · rw [if_pos (by rw [ixB_iff]; omega), if_neg hb]
    obtain ⟨m, rfl⟩ : ∃ m : Nat, x = m := ⟨x.toNat, by omega⟩
    have hm : m < s2.fibers.length := by omega
    rw [Int.toNat_natCast]
    simp only [fib_fibAt, turn_setFib, hn2]
    have hiff : ((m : Int) ∈ (lineF s2.fibers (s2.fibers.length + 1) (i : Int) []).getD [] ∨ (fibAt s2 m).frames = []) ↔ (m = 0 ∨ (fibAt s2 m).caller ≠ -1 ∨ (fibAt s2 m).frames.length = 0) := by
      have := hline m hm
      rw [hn2] at this
      rw [this, List.length_eq_zero_iff, or_assoc]
    by_cases hc : m = 0 ∨ (fibAt s2 m).caller ≠ -1 ∨ (fibAt s2 m).frames.length = 0
    · rw [if_pos (hiff.2 hc), if_pos hc]
    · rw [if_neg (fun h => hc (hiff.1 h)), if_neg hc]
      have hfib : fibAt { setFib s2 m { fibAt s2 m with caller := (i : Int) } with now := (m : Int) } m = { fibAt s2 m with caller := (i : Int) } := fibAt_same _ hm
      have hfr : ∀ j, frAt { setFib s2 m { fibAt s2 m with caller := (i : Int) } with now := (m : Int) } m j = frAt s2 m j := fun j => by unfold frAt; rw [hfib]
      have htop := top_at (s := { setFib s2 m { fibAt s2 m with caller := (i : Int) } with now := (m : Int) }) (i := m) rfl
      rw [hfib, hfr] at htop
      rw [htop]
      split
      · rw [turnTop_setFr, hfib, hfr]
      · rfl
theorem Good.goes {p : List Fn} {s : St} {l : List Int} (h : Good p s l) (hn : 0 ≤ s.now) {m : Nat} (hm : m < s.fibers.length) : (m : Int) ∈ l ↔ m = 0 ∨ (fibAt s m).caller ≠ -1 := by
  constructor
  · intro hin
    rcases h.path.next _ hin with ⟨_, hl⟩ | hl
    · left
      rcases h.last with e | e
      · rw [e] at hin; cases hin
      · rw [hl] at e; simp at e; omega
    · right
      have := h.path.inside _ hl
      have e : callerOf s.fibers (m : Int) = (fibAt s m).caller := rfl
      omega
  · rintro (rfl | hc)
    · obtain ⟨r, hr⟩ := h.head hn
      rcases h.last with e | e
      · rw [hr] at e; cases e
      · exact List.mem_of_getLast? e
    · rcases Decidable.em ((m : Int) ∈ l) with h1 | h1
      · exact h1
      · exact absurd (h.off hm h1) hc
open Go.RowKit
abbrev eng (bs : Nat) (vp : Value) : Value := .agg #[.pointer (some ⟨bs, 0, none⟩), vp]
theorem running_any (bs N capF gF i n cp : Nat) (oa : Option Addr) (w : World) (hi : i < N)
    (c0 : w.cell? ⟨bs, 0, none⟩ = some (.slice (some ⟨gF, 0, none⟩) N capF)) (c1 : w.cell? ⟨bs, 1, none⟩ = some (.int .i64 i)) :
    Calls Tryz.prog 193 #[eng bs (.slice oa n cp)] w fun e w' => e = .returned (.pointer (some ⟨gF, i * 2, none⟩)) ∧ Kept w w' := by
  have hi1 : (i : Int) < (N : Int) := by omega
  have hi0 : (0 : Int) ≤ (i : Int) := by omega
  have d0 : ∀ o, (w.alloc o).cell? ⟨bs, 0, none⟩ = some (.slice (some ⟨gF, 0, none⟩) N capF) := fun o => ((Kept.refl w).alloc o).cell c0
  have d1 : ∀ o, (w.alloc o).cell? ⟨bs, 1, none⟩ = some (.int .i64 i) := fun o => ((Kept.refl w).alloc o).cell c1
  go_enter Tryz.func193, Tryz.ntmps193
  go_wp2
  go_quiet (fail)
  go_wp2
  go_ret
  exact ⟨rfl, ((Kept.refl w).alloc _).drewN _⟩
theorem engTop_any (bs N capF gF i q cap g n cp : Nat) (oa : Option Addr) (w : World) (hi : i < N) (hq : 0 < q) (hqs : q ≤ 1000)
    (c0 : w.cell? ⟨bs, 0, none⟩ = some (.slice (some ⟨gF, 0, none⟩) N capF)) (c1 : w.cell? ⟨bs, 1, none⟩ = some (.int .i64 i)) (c2 : w.cell? ⟨gF, i * 2, none⟩ = some (.slice (some ⟨g, 0, none⟩) q cap)) :
    Calls Tryz.prog 165 #[eng bs (.slice oa n cp)] w fun e w' => e = .returned (.pointer (some ⟨g, (q - 1) * 4, none⟩)) ∧ Kept w w' := by
  obtain ⟨t, rfl⟩ : ∃ t, q = t + 1 := ⟨q - 1, by omega⟩
  have hw : IntKind.i64.wrap (((t + 1 : Nat) : Int) - 1) = (t : Int) := by rw [IntKind.wrap_i64]; omega
  have hw2 : IntKind.i64.wrap ((t : Int) + 1 - 1) = (t : Int) := by rw [IntKind.wrap_i64]; omega
  have ht : (t : Int) + 1 - 1 = (t : Int) := by omega
  have ht1 : (t : Int) < (t : Int) + 1 := by omega
  have ht0 : (0 : Int) ≤ (t : Int) := by omega
  have hk1 : ∀ o, Kept w (w.alloc o) := fun o => (Kept.refl w).alloc o
  have hcall := fun o => running_any bs N capF gF i n cp oa (w.alloc o) hi ((hk1 o).cell c0) ((hk1 o).cell c1)
  have HC := hide hcall
  have HK := hide hk1
  clear hcall hk1
  go_enter Tryz.func165, Tryz.ntmps165
  go_wp2_with fail
  refine ((unhide HC) _).mono ?_
  rintro e w1 ⟨rfl, hk2⟩
  have d2 : w1.cell? ⟨gF, i * 2, none⟩ = some (.slice (some ⟨g, 0, none⟩) (t + 1) cap) := (((unhide HK) _).trans hk2).cell c2
  have HK2 := hide (((unhide HK) _).trans hk2)
  clear hk2
  go_wp2
  go_ret
  exact ⟨rfl, unhide HK2⟩
theorem OwnVar.turnStack {base bs : Nat} {w w2 : World} {V : Key → Value} {s : St} (h : OwnVar base w bs V s) {i j g cap : Nat} (hi : i < s.fibers.length) (hj : j < (fibAt s i).frames.length)
    (hV : V (.frames i) = .slice (some ⟨g, 0, none⟩) (fibAt s i).frames.length cap) (vs : Value) (l : List Int) (hgrow : w.grownBy w2 (V (.stack i j)).ownBlock) (hown : w2.ownsRow base 3 1 vs l.length (ints l))
    (hat : vs.ownBlock = (V (.stack i j)).ownBlock ∨ vs.ownBlock = some w.heap.size) :
    OwnVar base (w2.setCell ⟨g, j * 4 + 3, none⟩ vs) bs (upd V (.stack i j) vs) (setFr s i j { frAt s i j with stack := l }) ∧ Below base w (w2.setCell ⟨g, j * 4 + 3, none⟩ vs) := by
  have hlS : live s (.stack i j) := ⟨hi, hj⟩
  have hlF : live s (.frames i) := hi
  have hgb : (V (.frames i)).ownBlock = some g := by rw [hV]; rfl
  have hbsw := lt_of_block h.var
  have hbsg : bs ≠ g := fun e => h.off _ hlF (by rw [hgb, e])
  have hgblk := (h.own.piece _ hlF).block g hgb
  have hown' := h.own.turnFrame (w1 := w2) hi hj hV vs { frAt s i j with stack := l } 3 vs (by omega) (fun b hb hne => hgrow.block b hb (fun e => hne e.symm)) hown hat rfl rfl rfl rfl rfl
  refine ⟨h.turn hown' ?_ (upd_ne V vs (by simp)) (upd_ne V vs (by simp)) rfl ?_, ?_⟩
  · rw [Below.heap_setCell _ _ _ _ hbsg]
    exact hgrow.block bs hbsw (fun e => h.off _ hlS e.symm)
  · intro k hk e
    by_cases hkS : k = .stack i j
    · subst hkS
      rw [upd_same] at e
      rcases hat with e' | e'
      · exact h.off _ hlS (by rw [← e', e])
      · rw [e] at e'; cases e'; omega
    · rw [upd_ne V vs hkS] at e
      exact h.off k ((setFr_live _ hi k).1 hk) e
  · refine Below.setCell (Below.grown (Below.refl _ w) hgrow (by omega) (fun r hr => ?_)) hgblk.1 _
    exact ((h.own.piece _ hlS).block r hr).1
theorem ints_at {l : List Int} {i : Nat} {z : Int} (h : l[i]? = some z) : (ints l)[i]? = some (.int .i64 z) := by simp [ints, h]
theorem row_cut {w : World} {base : Nat} {g cap n : Nat} {l : List Int} (h : w.ownsRow base 3 1 (.slice (some ⟨g, 0, none⟩) n cap) n (ints l)) (hn : n = l.length) (m : Nat) (hm : m ≤ n) : w.ownsRow base 3 1 (.slice (some ⟨g, 0, none⟩) m cap) m (ints (l.take m)) := by
  subst hn
  refine ⟨by rw [ints_len, List.length_take]; omega, ?_⟩
  rcases h.2 with ⟨h', _⟩ | ⟨g', cap', cur, h', hb, hgh, hnc, hcm, hcs, htake⟩
  · simp at h'
  · simp only [Value.slice.injEq, Option.some.injEq, Addr.mk.injEq, and_true, true_and] at h'
    obtain ⟨rfl, rfl⟩ := h'
    refine .inr ⟨g, cap, cur, rfl, hb, hgh, by omega, hcm, hcs, ?_⟩
    have : ints (l.take m) = (ints l).take m := by simp [ints, List.map_take]
    rw [this, ← htake, List.take_take]
    congr 1
    omega
theorem grown_refl (w : World) (row : Option Nat) : w.grownBy w row := ⟨rfl, rfl, rfl, Nat.le_refl _, fun _ _ _ => rfl⟩
theorem OwnVar.turnOut {base bs : Nat} {w w2 : World} {V : Key → Value} {s : St} (h : OwnVar base w bs V s) (l : List Int) (vo : Value) (hgrow : w.grownBy w2 (V .out).ownBlock) (hown : w2.ownsRow base 3 1 vo l.length (ints l)) (hat : vo.ownBlock = (V .out).ownBlock ∨ vo.ownBlock = some w.heap.size) :
    OwnVar base (w2.setCell ⟨bs, 2, none⟩ vo) bs (upd V .out vo) { s with out := l } ∧ Below base w (w2.setCell ⟨bs, 2, none⟩ vo) := by
  have hbsw := lt_of_block h.var
  have hown' := h.own.turnOut l vo hown (fun b hb hne => hgrow.block b hb (fun e => hne e.symm)) hat
  have hoff' : Own.off (upd V .out vo) { s with out := l } bs := by
    intro k hk e
    by_cases hko : k = .out
    · subst hko
      rw [upd_same] at e
      rcases hat with e' | e'
      · exact h.off .out trivial (by rw [← e', e])
      · rw [e] at e'; cases e'; omega
    · rw [upd_ne V vo hko] at e
      exact h.off k (by cases k using Key.by <;> exact hk) e
  refine ⟨⟨?_, hown'.setOff (a := ⟨bs, 2, none⟩) hoff' _, hoff', h.low⟩, ?_⟩
  · have hb2 : w2.heap[bs]? = some (.cells #[V .fibers, .int .i64 s.now, V .out] 44) := (hgrow.block bs hbsw (fun e => h.off .out trivial e.symm)).trans h.var
    rw [upd_same, upd_ne V vo (by simp)]
    simp [World.setCell, Array.getElem?_modify, hb2]
  · refine Below.setCell (Below.grown (Below.refl _ w) hgrow ?_ (fun r hr => ((h.own.piece .out trivial).block r hr).1)) h.low _
    have := h.low
    omega
end Go.Proofs.YtokhibfenccijaaGreatDoor
