/-
  Expressions as functions, plain (K2): the program of an expression puts out just what it is.
-/
import Derived.Test.YtogcfkmekdpmmaaDoorForgeT
import Derived.Test.YtogcfkmekdpmmaaDoorFB30
set_option maxRecDepth 100000
set_option maxHeartbeats 8000000
namespace Go.Proofs.YtogcfkmekdpmmaaDoor
open Go.RowKit

theorem run_moreF (p:List Fn) (n:Nat):∀ (m:Nat) (s:St),(runS p m s).2.2=0→runS p (m + n) s=((runS p n (runS p m s).1).1,(runS p m s).2.1 + (runS p n (runS p m s).1).2.1,(runS p n (runS p m s).1).2.2)
  | 0,s,_=>by simp [runS]
  | m + 1,s,h=>by
    by_cases hn:s.now < 0
    · rw [runS_stop p (m + 1) s (.inr hn),runS_stop p _ s (.inr hn)]
      show _=((runS p n s).1,0 + (runS p n s).2.1,(runS p n s).2.2)
      rw [runS_stop p _ s (.inr hn)]
      rfl
    · by_cases he:(doneS p s).2=0
      · rw [runS_go p m s hn he] at h ⊢
        rw [show m + 1 + n=(m + n) + 1 by omega,runS_go p _ s hn he,run_moreF p n m _ h]
        simp only [Prod.mk.injEq,true_and,and_true]
        omega
      · rw [runS_err p m s hn he] at h; exact absurd h he
def oneSt (fs:List Fr) (t:Fr) (out:List Int):St:=⟨[⟨fs++[t],-1⟩],0,out⟩
def Goes (p:List Fn) (s:St) (k:Nat) (s':St):Prop:=runS p k s=(s',k,0)
theorem Goes.zero (p:List Fn) (s:St):Goes p s 0 s:=rfl
theorem Goes.trans {p:List Fn} {s s' s'':St} {k m:Nat} (h:Goes p s k s') (g:Goes p s' m s''):Goes p s (k + m) s'':=by
  unfold Goes at h g ⊢
  rw [run_moreF p m k s (by rw [h]),h]
  simp only
  rw [g]
theorem Goes.one {p:List Fn} {s s':St} (hn:¬ s.now < 0) (h:doneS p s=(s',0)):Goes p s 1 s':=by
  unfold Goes
  rw [runS_go p 0 s hn (by rw [h]),h]
  rfl
section
variable {p:List Fn} {fs:List Fr} {t:Fr} {out:List Int} {kd a:Int}
theorem one_op (h:(codeOf p t.fn.toNat).getD t.at_.toNat (0,0)=(kd,a)):Op p (oneSt fs t out) 0 fs t (-1) kd a:=⟨⟨by simp [oneSt],rfl⟩,rfl,h⟩
theorem one_set (t':Fr) (fs':List Fr):setFib (oneSt fs t out) 0 ⟨fs'++[t'],-1⟩=oneSt fs' t' out:=rfl
theorem one_tops:Tops (oneSt fs t out) 0 fs t (-1):=⟨by simp [oneSt],rfl⟩
theorem goes_push (h:(codeOf p t.fn.toNat).getD t.at_.toNat (0,0)=(0,a)):Goes p (oneSt fs t out) 1 (oneSt fs (t.on.stk (t.stack++[a])) out):=by
  refine Goes.one (show ¬ (0:Int) < 0 by decide) ?_
  rw [done_form (one_op h) rfl,if_pos rfl,one_set,push_form (one_tops (t:=t.on))]
  rfl
theorem goes_load (h:(codeOf p t.fn.toNat).getD t.at_.toNat (0,0)=(2,a)):Goes p (oneSt fs t out) 1 (oneSt fs (t.on.stk (t.stack++[t.locals.getD a.toNat 0])) out):=by
  refine Goes.one (show ¬ (0:Int) < 0 by decide) ?_
  rw [done_form (one_op h) rfl,if_neg (by decide),if_neg (by decide),if_pos rfl,one_set,push_form (one_tops (t:=t.on))]
  rfl
theorem goes_jump (h:(codeOf p t.fn.toNat).getD t.at_.toNat (0,0)=(9,a)):Goes p (oneSt fs t out) 1 (oneSt fs ⟨t.fn,a,t.locals,t.stack⟩ out):=by
  refine Goes.one (show ¬ (0:Int) < 0 by decide) ?_
  rw [done_form (one_op h) rfl,if_neg (by decide),if_neg (by decide),if_neg (by decide),if_neg (by decide),if_pos rfl,one_set,setAt_form (one_tops (t:=t.on)) rfl]
  rfl
theorem goes_zero {st:List Int} {v:Int} (h:(codeOf p t.fn.toNat).getD t.at_.toNat (0,0)=(10,a)) (hs:t.stack=st++[v]):Goes p (oneSt fs t out) 1 (oneSt fs ⟨t.fn,if v=0 then a else t.at_ + 1,t.locals,st⟩ out):=by
  refine Goes.one (show ¬ (0:Int) < 0 by decide) ?_
  have hv:t.on.stack=st++[v]:=hs
  have hp:pullV (oneSt fs t.on out)=oneSt fs (t.on.stk st) out:=by
    rw [pull_form one_tops rfl,hv,List.dropLast_concat]; rfl
  have hl:lastV (oneSt fs t.on out)=v:=by rw [last_form one_tops rfl,hv]; simp
  rw [done_form (one_op h) rfl,if_neg (by decide),if_neg (by decide),if_neg (by decide),if_neg (by decide),if_neg (by decide),if_pos rfl,one_set,hp,hl]
  by_cases e:v=0
  · rw [if_pos e,if_pos e,setAt_form (one_tops (t:=t.on.stk st)) rfl]; rfl
  · rw [if_neg e,if_neg e]; rfl
theorem goes_two {st:List Int} {x y:Int} (h:(codeOf p t.fn.toNat).getD t.at_.toNat (0,0)=(kd,a)) (h4:4≤kd) (h8:kd≤8) (hs:t.stack=st++[x,y]):Goes p (oneSt fs t out) 1 (oneSt fs (t.on.stk (st++[reckonS kd x y])) out):=by
  refine Goes.one (show ¬ (0:Int) < 0 by decide) ?_
  have hv:t.on.stack=(st++[x])++[y]:=by show t.stack=_; rw [hs]; simp
  have hp:pullV (oneSt fs t.on out)=oneSt fs (t.on.stk (st++[x])) out:=by
    rw [pull_form one_tops rfl,hv,List.dropLast_concat]; rfl
  have hl:lastV (oneSt fs t.on out)=y:=by rw [last_form one_tops rfl,hv]; simp
  have hp2:pullV (oneSt fs (t.on.stk (st++[x])) out)=oneSt fs (t.on.stk st) out:=by
    rw [pull_form one_tops rfl]
    show setFib _ 0 ⟨fs++[(t.on.stk (st++[x])).stk (st++[x]).dropLast],-1⟩=_
    rw [List.dropLast_concat]; rfl
  have hl2:lastV (oneSt fs (t.on.stk (st++[x])) out)=x:=by
    rw [last_form one_tops rfl]
    show ((st++[x]).getLast?).getD 0=x
    simp
  rw [done_form (one_op h) rfl]
  rw [if_neg (by omega),if_neg (by omega),if_neg (by omega),if_neg (by omega),if_neg (by omega),if_neg (by omega),if_neg (by omega),if_neg (by omega),if_neg (by omega),if_neg (by omega),if_neg (by omega),if_neg (by omega),one_set,hp,hp2,hl,hl2]
  rw [push_form (one_tops (t:=t.on.stk st))]
  rfl
end
theorem wrap64_eq (z:Int):wrap64 z=wrapS z:=by
  unfold wrap64 wrapS
  rw [Int.bmod_def]
  omega
theorem two_reckon {k a b:Int} (h2:2≤k) (h6:k≤6):reckonS (k + 2) a b=twoS k a b:=by
  have:k=2∨k=3∨k=4∨k=5∨k=6:=by omega
  rcases this with rfl | rfl | rfl | rfl | rfl <;> simp [reckonS,twoS,truthS,wrap64_eq]
theorem getD_code {C:List (Int × Int)} {k:Nat} {x:Int × Int} (h:C[k]?=some x):C.getD k (0,0)=x:=by simp [List.getD,h]
theorem lay_run (p:List Fn) (f:Int) (vals:List Int) (fs:List Fr) (out:List Int):∀ (n:Nat) (e:List (Int × Int)) (o:Int) (h:Nat) (st:List Int),e.length≤n→1≤o→onlyS e o=true→(∀ x∈e,kindOk x) →
    At (codeOf p f.toNat) h (layS n e h).1→∃ k,k≤(layS n e h).1.length∧Goes p (oneSt fs ⟨f,h,vals,st⟩ out) k (oneSt fs ⟨f,(h + (layS n e h).1.length:Nat),vals,st++[(valS vals n e).1]⟩ out)
  | n,[],o,_,_,_,ho,h,_,_=>by simp [onlyS] at h; omega
  | 0,x :: r,o,_,_,hl,_,_,_,_=>by simp at hl
  | n + 1,x :: r,o,h,st,hl,ho,ho1,hk,hC=>by
    have hx:=hk x (by simp)
    have hr:∀ y∈r,kindOk y:=fun y hy=>hk y (by simp [hy])
    have hl':r.length≤n:=by simpa using hl
    simp only [onlyS] at ho1
    rw [if_neg (by omega)] at ho1
    unfold kindOk at hx
    unfold layS at hC ⊢
    unfold valS
    by_cases h0:x.1=0
    · simp only [h0,if_true] at hC ⊢
      exact ⟨1,by simp,goes_push (t:=⟨f,h,vals,st⟩) (getD_code hC.cons.1)⟩
    · simp only [h0,if_false] at hC ⊢
      by_cases h1:x.1=1
      · simp only [h1,if_true] at hC ⊢
        exact ⟨1,by simp,goes_load (t:=⟨f,h,vals,st⟩) (getD_code hC.cons.1)⟩
      · simp only [h1,if_false] at hC ⊢
        obtain ⟨_,_,a3⟩:=lay_hg n r h 0 vals
        by_cases h7:x.1=7
        · simp only [h7,if_true] at hC ⊢
          have hp:partsS x.1=3:=by rw [h7]; rfl
          rw [hp] at ho1
          obtain ⟨j1,p1,q1,e1,o1⟩:=val_rest vals n r (o - 1 + 3) hl' (by omega) ho1 hr
          have k1:∀ y∈(valS vals n r).2,kindOk y:=by rw [e1]; exact fun y hy=>hr y (List.mem_of_mem_drop hy)
          have l1:(valS vals n r).2.length≤n:=by rw [e1]; simp; omega
          obtain ⟨j2,p2,q2,e2,o2⟩:=val_rest vals n _ (o - 1 + 3 - 1) l1 (by omega) o1 k1
          have k2:∀ y∈(valS vals n (valS vals n r).2).2,kindOk y:=by rw [e2]; exact fun y hy=>k1 y (List.mem_of_mem_drop hy)
          have l2:(valS vals n (valS vals n r).2).2.length≤n:=by rw [e2]; simp; omega
          rw [a3] at hC ⊢
          obtain ⟨_,_,b3⟩:=lay_hg n (valS vals n r).2 (h + (layS n r h).1.length + 1) 0 vals
          rw [b3] at hC ⊢
          obtain ⟨hCa,hC'⟩:=hC.app
          obtain ⟨hCz,hC'⟩:=hC'.cons
          obtain ⟨hCb,hC'⟩:=hC'.app
          obtain ⟨hCj,hCc⟩:=hC'.cons
          simp only [List.length_append,List.length_cons]
          generalize hA:layS n r h=A at *
          generalize hB:layS n (valS vals n r).2 (h + A.1.length + 1)=B at *
          generalize hD:layS n (valS vals n (valS vals n r).2).2 (h + A.1.length + 1 + B.1.length + 1)=D at *
          obtain ⟨ka,la,ga⟩:=lay_run p f vals fs out n r (o - 1 + 3) h st hl' (by omega) ho1 hr (by rw [hA]; exact hCa)
          rw [hA] at la ga
          have gz:=goes_zero (p:=p) (fs:=fs) (out:=out) (t:=⟨f,(h + A.1.length:Nat),vals,st++[(valS vals n r).1]⟩) (getD_code hCz) rfl
          by_cases hv:(valS vals n r).1=0
          · rw [if_pos hv] at gz ⊢
            obtain ⟨kd,ld,gd⟩:=lay_run p f vals fs out n (valS vals n (valS vals n r).2).2 (o - 1 + 3 - 1 - 1) (h + A.1.length + 1 + B.1.length + 1) st l2 (by omega) o2 k2 (by rw [hD]; exact hCc)
            rw [hD] at ld gd
            refine ⟨ka + 1 + kd,by omega,?_⟩
            have:=(ga.trans gz).trans gd
            rw [show h + (A.1.length + (B.1.length + (D.1.length + 1) + 1))=h + A.1.length + 1 + B.1.length + 1 + D.1.length by omega]
            exact this
          · rw [if_neg hv] at gz ⊢
            obtain ⟨kb,lb,gb⟩:=lay_run p f vals fs out n (valS vals n r).2 (o - 1 + 3 - 1) (h + A.1.length + 1) st l1 (by omega) o1 k1 (by rw [hB]; exact hCb)
            rw [hB] at lb gb
            have gj:=goes_jump (p:=p) (fs:=fs) (out:=out) (t:=⟨f,(h + A.1.length + 1 + B.1.length:Nat),vals,st++[(valS vals n (valS vals n r).2).1]⟩) (getD_code hCj)
            refine ⟨ka + 1 + kb + 1,by omega,?_⟩
            have hcast:(({ fn:=f,at_:=((h + A.1.length:Nat):Int),locals:=vals,stack:=st++[(valS vals n r).1] }:Fr).at_ + 1)=((h + A.1.length + 1:Nat):Int):=by simp
            rw [hcast] at gz
            have:=((ga.trans gz).trans gb).trans gj
            rw [show h + (A.1.length + (B.1.length + (D.1.length + 1) + 1))=h + A.1.length + 1 + B.1.length + 1 + D.1.length by omega]
            exact this
        · simp only [h7,if_false] at hC ⊢
          have hp:partsS x.1=2:=by unfold partsS; rw [if_neg (by omega),if_pos (by omega)]
          rw [hp] at ho1
          obtain ⟨j1,p1,q1,e1,o1⟩:=val_rest vals n r (o - 1 + 2) hl' (by omega) ho1 hr
          have k1:∀ y∈(valS vals n r).2,kindOk y:=by rw [e1]; exact fun y hy=>hr y (List.mem_of_mem_drop hy)
          have l1:(valS vals n r).2.length≤n:=by rw [e1]; simp; omega
          rw [a3] at hC ⊢
          obtain ⟨hCa,hC'⟩:=hC.app
          obtain ⟨hCb,hC''⟩:=hC'.app
          simp only [List.length_append,List.length_cons,List.length_nil]
          generalize hA:layS n r h=A at *
          generalize hB:layS n (valS vals n r).2 (h + A.1.length)=B at *
          obtain ⟨ka,la,ga⟩:=lay_run p f vals fs out n r (o - 1 + 2) h st hl' (by omega) ho1 hr (by rw [hA]; exact hCa)
          rw [hA] at la ga
          obtain ⟨kb,lb,gb⟩:=lay_run p f vals fs out n (valS vals n r).2 (o - 1 + 2 - 1) (h + A.1.length) (st++[(valS vals n r).1]) l1 (by omega) o1 k1 (by rw [hB]; exact hCb)
          rw [hB] at lb gb
          have gt:=goes_two (p:=p) (fs:=fs) (out:=out) (t:=⟨f,(h + A.1.length + B.1.length:Nat),vals,(st++[(valS vals n r).1])++[(valS vals n (valS vals n r).2).1]⟩) (kd:=x.1 + 2) (a:=0) (st:=st) (x:=(valS vals n r).1) (y:=(valS vals n (valS vals n r).2).1) (getD_code hC''.cons.1) (by omega) (by omega) (by simp)
          rw [two_reckon (by omega) (by omega)] at gt
          refine ⟨ka + kb + 1,by omega,?_⟩
          have:=(ga.trans gb).trans gt
          rw [show h + (A.1.length + (B.1.length + (0 + 1)))=h + A.1.length + B.1.length + 1 by omega]
          exact this
theorem main_run (p:List Fn) (vals:List Int) (hp:codeOf p 0=(mainS vals).code):∀ k,k≤vals.length→Goes p (oneSt [] ⟨0,0,[],[]⟩ []) k (oneSt [] ⟨0,(k:Int),[],vals.take k⟩ [])
  | 0,_=>Goes.zero _ _
  | k + 1,hk=>by
    have hx:(codeOf p 0).getD k (0,0)=(0,vals.getD k 0):=by rw [hp]; exact getD_code (by rw [main_at,if_pos (by omega)])
    have h:=goes_push (p:=p) (fs:=[]) (out:=[]) (t:=⟨0,(k:Int),[],vals.take k⟩) (a:=vals.getD k 0) hx
    have e:vals.take k++[vals.getD k 0]=vals.take (k + 1):=by
      rw [List.take_add_one,List.getElem?_eq_getElem (by omega)]
      simp [List.getD,show k < vals.length by omega]
    have:=(main_run p vals hp k (by omega)).trans h
    rw [show (((k + 1:Nat)):Int)=(k:Int) + 1 by omega,← e]
    exact this
theorem forge_run {e:List (Int × Int)} {vals:List Int} (h:ExG e vals.length):∃ k,k≤30∧runS (forgeP e vals) 500 (beginS (forgeP e vals))=(⟨[⟨[],-1⟩],-1,[(valS vals 9 e).1]⟩,k,0):=by
  have h4:=h.hi
  have hm:=h.most
  have hb:beginS (forgeP e vals)=oneSt [] ⟨0,0,[],[]⟩ []:=rfl
  have g1:=main_run (forgeP e vals) vals rfl vals.length (Nat.le_refl _)
  rw [List.take_length] at g1
  have hcode0:codeOf (forgeP e vals) 0=(mainS vals).code:=rfl
  have hcode1:codeOf (forgeP e vals) 1=(fnS e vals.length).code:=rfl
  have g2:Goes (forgeP e vals) (oneSt [] ⟨0,(vals.length:Int),[],vals⟩ []) 1 (oneSt ([]++[⟨0,(vals.length:Int) + 1,[],[]⟩]) ⟨1,0,vals,[]⟩ []):=by
    refine Goes.one (show ¬ (0:Int) < 0 by decide) ?_
    have hop:(codeOf (forgeP e vals) 0).getD vals.length (0,0)=(11,1):=getD_code (by rw [hcode0,main_at,if_neg (by omega),if_pos rfl])
    rw [goes_call (one_op (t:=⟨0,(vals.length:Int),[],vals⟩) (kd:=11) (a:=1) hop),if_neg (by simp)]
    have ha:((forgeP e vals).getD (1:Int).toNat Fn.zero).args.toNat=vals.length:=by show ((vals.length:Int)).toNat=_; omega
    rw [ha]
    simp only [Nat.sub_self,List.take_zero,List.drop_zero]
    have hbeg:begunS (forgeP e vals) 1 vals=⟨1,0,vals,[]⟩:=by
      unfold begunS
      have:((forgeP e vals).getD (1:Int).toNat Fn.zero).locals.toNat - vals.length=0:=by show ((vals.length:Int)).toNat - _=0; omega
      rw [this]; simp
    rw [hbeg]
    rfl
  obtain ⟨k,hk,g3⟩:=lay_run (forgeP e vals) 1 vals ([]++[⟨0,(vals.length:Int) + 1,[],[]⟩]) [] 9 e 1 0 [] h.len (by omega) h.one h.kinds (by show At (fnS e vals.length).code 0 _; exact At.self _ _)
  have hopR:(codeOf (forgeP e vals) 1).getD (0 + (layS 9 e 0).1.length) (0,0)=(12,0):=getD_code (by rw [hcode1,Nat.zero_add]; simp [fnS])
  have g4:Goes (forgeP e vals) (oneSt ([]++[⟨0,(vals.length:Int) + 1,[],[]⟩]) ⟨1,(0 + (layS 9 e 0).1.length:Nat),vals,[]++[(valS vals 9 e).1]⟩ []) 1 (oneSt [] ⟨0,(vals.length:Int) + 1,[],[(valS vals 9 e).1]⟩ []):=by
    refine Goes.one (show ¬ (0:Int) < 0 by decide) ?_
    rw [done_return_in (one_op (t:=⟨1,(0 + (layS 9 e 0).1.length:Nat),vals,[]++[(valS vals 9 e).1]⟩) (kd:=12) (a:=0) hopR) (st:=[]) (v:=(valS vals 9 e).1) rfl]
    rfl
  have hopM:(codeOf (forgeP e vals) 0).getD (vals.length + 1) (0,0)=(12,0):=getD_code (by rw [hcode0,main_at,if_neg (by omega),if_neg (by omega),if_pos rfl])
  have g5:Goes (forgeP e vals) (oneSt [] ⟨0,(vals.length:Int) + 1,[],[(valS vals 9 e).1]⟩ []) 1 ⟨[⟨[],-1⟩],-1,[(valS vals 9 e).1]⟩:=by
    refine Goes.one (show ¬ (0:Int) < 0 by decide) ?_
    rw [done_return_end (one_op (t:=⟨0,(vals.length:Int) + 1,[],[(valS vals 9 e).1]⟩) (kd:=12) (a:=0) (by rw [show ((vals.length:Int) + 1).toNat=vals.length + 1 by omega]; exact hopM)) (st:=[]) (v:=(valS vals 9 e).1) rfl (by omega)]
    rfl
  have g:=(((g1.trans g2).trans g3).trans g4).trans g5
  refine ⟨vals.length + 1 + k + 1 + 1,by omega,?_⟩
  rw [hb,show 500=(vals.length + 1 + k + 1 + 1) + (500 - (vals.length + 1 + k + 1 + 1)) by omega]
  unfold Goes at g
  rw [run_moreF _ _ _ _ (by rw [g]),g]
  simp only
  rw [runS_stop _ _ _ (.inr (show (-1:Int) < 0 by decide))]
  rfl
end Go.Proofs.YtogcfkmekdpmmaaDoor
