/-
  A function behind all of a right program, plain: it is right, and what was is run as it was.
-/
import Derived.Test.YtogcfkmekdpmmaaDoorForgeT
import Derived.Test.YtogcfkmekdpmmaaDoorFB30
set_option maxRecDepth 100000
set_option maxHeartbeats 8000000
namespace Go.Proofs.YtogcfkmekdpmmaaDoor

section
variable {p:List Fn} {g:Fn}
theorem app_get {k:Nat} (hk:k < p.length):(p++[g]).getD k Fn.zero=p.getD k Fn.zero:=by simp [List.getD,List.getElem?_append_left hk]
theorem app_code {k:Nat} (hk:k < p.length):codeOf (p++[g]) k=codeOf p k:=by unfold codeOf; rw [app_get hk]
theorem app_last:(p++[g]).getD p.length Fn.zero=g:=by simp [List.getD]
theorem app_op {f:Fn} {x:Int × Int} (h:opS p f x=0):opS (p++[g]) f x=0:=by
  obtain ⟨h0,h17,hm⟩:=opS_kind h
  have hm':mayB (p++[g]) f (opd x.1.toNat) x.2=true∧(x.1=13→(p++[g]).getD x.2.toNat Fn.zero=p.getD x.2.toNat Fn.zero):=by
    unfold mayB at hm ⊢
    by_cases c0:opd x.1.toNat=0
    · rw [if_pos c0] at hm ⊢; exact ⟨hm,fun h13=>by rw [h13] at c0; exact absurd c0 (by decide)⟩
    rw [if_neg c0] at hm ⊢
    by_cases c1:opd x.1.toNat=1
    · rw [if_pos c1] at hm ⊢; exact ⟨hm,fun h13=>by rw [h13] at c1; exact absurd c1 (by decide)⟩
    rw [if_neg c1] at hm ⊢
    by_cases c2:opd x.1.toNat=2
    · rw [if_pos c2] at hm ⊢; exact ⟨hm,fun h13=>by rw [h13] at c2; exact absurd c2 (by decide)⟩
    rw [if_neg c2] at hm ⊢
    by_cases c3:opd x.1.toNat=3
    · rw [if_pos c3] at hm ⊢; exact ⟨hm,fun h13=>by rw [h13] at c3; exact absurd c3 (by decide)⟩
    rw [if_neg c3] at hm ⊢
    rw [Bool.and_eq_true] at hm
    obtain ⟨i0,i1⟩:=ixB_iff.1 hm.1
    have e:(p++[g]).getD x.2.toNat Fn.zero=p.getD x.2.toNat Fn.zero:=app_get (by omega)
    rw [e]
    exact ⟨by rw [Bool.and_eq_true]; exact ⟨ixB_iff.2 ⟨i0,by simp; omega⟩,hm.2⟩,fun _=>rfl⟩
  unfold opS at h ⊢
  rw [if_pos ⟨h0,h17⟩,if_pos hm] at h
  rw [if_pos ⟨h0,h17⟩,if_pos hm'.1]
  split
  · rename_i hc
    rw [hm'.2 hc.1] at hc
    rw [if_pos hc] at h
    exact h
  · rfl
theorem app_beh {f:Fn} {x:Int × Int} (h:opS p f x=0) (z:Int):beh (p++[g]) x z=beh p x z:=by
  have:effS (p++[g]) x.1 x.2=effS p x.1 x.2:=by
    by_cases h11:x.1=11
    · obtain ⟨a0,a1,_,e⟩:=effS_call h h11
      obtain ⟨_,_,_,e'⟩:=effS_call (app_op (g:=g) h) h11
      rw [e,e',app_get (by omega)]
    · unfold effS
      simp only [h11,if_false]
  unfold beh
  rw [this]
theorem app_cons {f:Fn} {c:List (Int × Int)} {H:List Int} (hr:∀ x∈c,opS p f x=0) (h:Cons p c H) (s:Sound p c H):Cons (p++[g]) c H∧Sound (p++[g]) c H:=by
  refine ⟨⟨h.len,h.pos,h.first,fun k hk hn=>?_⟩,fun k hk=>?_⟩
  · obtain ⟨x,m,q1,q2,q3⟩:=h.done k hk hn
    exact ⟨x,m,q1,by rw [app_beh (hr x (List.mem_of_getElem? q1))]; exact q2,q3⟩
  · rcases s k hk with e | ⟨e1,e2⟩
    · exact .inl e
    · refine .inr ⟨e1,e2 (fun k h=>Reach (p++[g]) c k h) (Reach.zero _ _) (fun k h x m j hR hx hm hj=>hR.step hx ?_ hj)⟩
      rw [app_beh (hr x (List.mem_of_getElem? hx))]; exact hm
theorem app_right (hp:progS p=0) (h5:p.length < 5) (hg:chkS (p++[g]) p.length=0) (hh:∃ H,heightsS (p++[g]) g.code=some H):progS (p++[g])=0:=by
  obtain ⟨_,hpos,hck⟩:=progS_right hp
  have hlen:(p++[g]).length=p.length + 1:=by simp
  have ha:((p++[g]).getD 0 Fn.zero).args=0:=by
    rw [app_get hpos]
    unfold progS at hp
    rw [if_neg (by omega),if_neg (by omega)] at hp
    split at hp
    · cases hp
    · rename_i h; exact Decidable.not_not.1 h
  have c:∀ k,k < p.length + 1→chkS (p++[g]) k=0:=fun k hk=>by
    by_cases e:k=p.length
    · rw [e]; exact hg
    · have hk':k < p.length:=by omega
      obtain ⟨q1,q2,q3⟩:=chkS_ops (hck k hk')
      unfold chkS
      rw [if_pos (by omega),Int.toNat_natCast,app_get hk']
      simp only
      have h:=hck k hk'
      unfold chkS at h
      rw [if_pos (by omega),Int.toNat_natCast] at h
      simp only at h
      split at h
      · cases h
      · rename_i h24
        rw [if_neg h24]
        split at h
        · rename_i hrm
          rw [if_pos hrm]
          exact opsS_of_allF (fun x hx=>app_op (opsS_all h x hx))
        · cases h
  have e:∀ k,k < p.length + 1→hgtE (p++[g]) k=0:=fun k hk=>by
    by_cases ek:k=p.length
    · obtain ⟨H,hH⟩:=hh
      unfold hgtE
      rw [ek,show codeOf (p++[g]) p.length=g.code by unfold codeOf; rw [app_last],hH]
    · have hk':k < p.length:=by omega
      obtain ⟨c1,c2⟩:=cons_code hp hk'
      obtain ⟨_,_,q3⟩:=chkS_ops (hck k hk')
      have hr:∀ x∈codeOf p k,opS p (p.getD k Fn.zero) x=0:=opsS_all q3
      obtain ⟨d1,d2⟩:=app_cons (g:=g) hr c1 c2
      unfold hgtE
      have hH:heightsS (p++[g]) (codeOf p k)=some (hgt p k):=heights_of_consF ⟨p.getD k Fn.zero,rfl,fun x hx=>app_op (hr x hx)⟩ d1 d2
      rw [app_code hk',hH]
  unfold progS
  rw [if_neg (by omega),if_neg (by omega),if_neg (by rw [ha]; simp)]
  have:=firstS_allF (e:=fun k=>chkS (p++[g]) k) (p++[g]).length 0 (fun i _ h2=>c i (by omega))
  rw [if_pos this]
  exact firstS_allF _ 0 (fun i _ h2=>e i (by omega))
theorem app_done {s:St} (h:stErrS p s=0) (hn:0≤s.now):doneS (p++[g]) s=doneS p s:=by
  obtain ⟨l,_,hg⟩:=right_good h
  obtain ⟨n,fs,t,c,kd,a,ta,lb,hr⟩:=hg.runner hn
  have htop:s.top=t:=top_form hr.op.tops hr.op.now
  obtain ⟨⟨f0,f1⟩,_⟩:=frame_parts hr.frs.2.1
  have hc:codeOf (p++[g]) t.fn.toNat=codeOf p t.fn.toNat:=app_code (by omega)
  have hop:=hr.op.op
  have hopq:Op (p++[g]) s n fs t c kd a:=⟨hr.op.tops,hr.op.now,by rw [hc]; exact hop⟩
  rw [done_form hr.op rfl,done_form hopq rfl]
  by_cases h11:kd=11
  · have hnm:=(hr.names (.inl h11)).2.1
    have hn0:=(hr.names (.inl h11)).1
    have hcall:calledS (p++[g]) (setFib s n ⟨fs++[t.on],c⟩) a=calledS p (setFib s n ⟨fs++[t.on],c⟩) a:=by
      unfold calledS begunS
      rw [app_get (by omega)]
    rw [hcall]
    subst h11
    rfl
  · by_cases h13:kd=13
    · have hnm:=(hr.names (.inr h13)).2.1
      have hn0:=(hr.names (.inr h13)).1
      have hmade:madeS (p++[g]) (setFib s n ⟨fs++[t.on],c⟩) a=madeS p (setFib s n ⟨fs++[t.on],c⟩) a:=by
        unfold madeS begunS
        rw [app_get (by omega)]
      rw [hmade]
      subst h13
      rfl
    · simp only [h11,h13,if_false]
theorem app_run:∀ (k:Nat) (s:St),stErrS p s=0→runS (p++[g]) k s=runS p k s
  | 0,_,_=>rfl
  | k + 1,s,h=>by
    by_cases hn:s.now < 0
    · rw [runS_stop _ _ _ (.inr hn),runS_stop _ _ _ (.inr hn)]
    · have e:=app_done (g:=g) h (by omega)
      by_cases he:(doneS p s).2=0
      · rcases right_step h (by omega) with ⟨_,h1⟩ | ⟨_,h1⟩
        · rw [runS_go p k s hn he,runS_go _ k s hn (by rw [e]; exact he),e,app_run k _ h1]
        · omega
      · rw [runS_err p k s hn he,runS_err _ k s hn (by rw [e]; exact he),e]
theorem app_begin (hp:progS p=0):beginS (p++[g])=beginS p:=by
  obtain ⟨_,hpos,_⟩:=progS_right hp
  unfold beginS
  rw [app_get hpos]
end
end Go.Proofs.YtogcfkmekdpmmaaDoor
