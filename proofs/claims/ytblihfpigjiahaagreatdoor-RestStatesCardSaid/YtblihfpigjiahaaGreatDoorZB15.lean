/- GoodC, GoodD, GoodE, DoP -/
import Derived.Test.YtblihfpigjiahaaGreatDoorZB14
set_option maxRecDepth 100000
set_option maxHeartbeats 8000000
namespace Go.Proofs.YtblihfpigjiahaaGreatDoor
theorem Good.of {p:List Fn} {s s':St} {l l':List Int} (h:Good p s l) (hlen:s'.fibers.length=s.fibers.length) (ho:s'.out.length≤30) (hpath:Path s'.fibers s'.now l') (hnd:l'.Nodup) (hlast:l'=[]∨l'.getLast?=some 0)
  (hmain:(0:Int) ∉ l'→(Za s' 0).frames=[])
  (heach:∀ k,k < s.fibers.length→(Za s' k=Za s k∧((k:Int)∈l'↔(k:Int)∈l)∧((k:Int)=s'.now↔(k:Int)=s.now))∨(Xt p (Za s' k) (decide ((k:Int)∈l')) (decide ((k:Int)=s'.now))=true∧(Za s' k).frames.length≤6)):Good p s' l':=by
 refine ⟨h.prog,by rw [hlen]; exact h.n5,ho,fun k hk=>?_,hpath,hnd,hlast,by rw [hlen]; exact h.pos,hmain,fun k hk=>?_⟩
 ·rw [hlen] at hk
  rcases heach k hk with ⟨e,_⟩ | ⟨_,e⟩
  ·rw [e]; exact h.f6 k hk
  ·exact e
 ·rw [hlen] at hk
  rcases heach k hk with ⟨e,e1,e2⟩ | ⟨e,_⟩
  ·rw [e,decide_eq_decide.2 e1,decide_eq_decide.2 e2]; exact h.each k hk
  ·exact e
theorem Ko {s:St} {n:Nat} {b:Fb} (hn:n < s.fibers.length) (z:Int):Xf (Zf s n b).fibers z=if z.toNat=n then b.caller else Xf s.fibers z:=by
 show (Za (Zf s n b) z.toNat).caller=_
 by_cases e:z.toNat=n
 ·rw [if_pos e,e,Xi _ hn]
 ·rw [if_neg e,Xr _ (fun h=>e h.symm)]; rfl
section
variable {p:List Fn} {s:St} {l:List Int}
theorem Good.stay (h:Good p s l) {n:Nat} (hn:s.now=n) {fs:List Fr} {t:Fr} {c:Int} (hl:n < s.fibers.length) (hc:(Za s n).caller=c) (hf:FrsG p fs t) (hs:(t.stack.length:Int)=hAt p t) (h6:fs.length + 1≤6) (o:List Int) (ho:o.length≤30) :
  Good p { Zf s n ⟨fs++[t],c⟩ with out:=o } l:=by
 have hin:(n:Int)∈l:=by rw [← hn]; exact h.now_mem (by omega)
 refine h.of (Zv _ _ _) ho ?_ h.nodup h.last (fun h0=>?_) (fun k hk=>?_)
 ·refine h.path.congr (by show s.fibers.length≤(Zf s n _).fibers.length; rw [Zv]; omega) (fun z hz=>?_)
  have:=Ko (s:=s) (b:=⟨fs++[t],c⟩) hl z
  have hz0:=h.path.inside z hz
  show Xf (Zf s n ⟨fs++[t],c⟩).fibers z=_
  rw [this]
  split
  ·rename_i e
   have:Xf s.fibers z=(Za s n).caller:=by show (Za s z.toNat).caller=_; rw [e]
   rw [this,hc]
  ·rfl
 ·have hne:n≠0:=by rintro rfl; exact h0 hin
  show (Za (Zf s n _) 0).frames=[]
  rw [Xr _ hne]
  exact h.main h0
 ·by_cases e:n=k
  ·subst e
   right
   have e1:Za { Zf s n ⟨fs++[t],c⟩ with out:=o } n=⟨fs++[t],c⟩:=Xi _ hl
   rw [e1]
   refine ⟨Kc.2 ⟨hf,?_⟩,by simpa using h6⟩
   exact (if_pos (decide_eq_true hn.symm)).mpr hs
  ·exact .inl ⟨Xr _ e,Iff.rfl,Iff.rfl⟩
theorem Good.back (h:Good p s l) {n m:Nat} (hn:s.now=n) (hl:n < s.fibers.length) (hc:(Za s n).caller=m) {b:Fb} (hbf:Xt p b false false=true) (hb6:b.frames.length≤6)
  {gs:List Fr} {u:Fr} {d:Int} (hd:(Za s m).caller=d) (hu:FrsG p gs u) (hs:(u.stack.length:Int)=hAt p u) (h6:gs.length + 1≤6) :
  ∃ r,l=(n:Int) :: (m:Int) :: r∧Good p { Zf (Zf s n b) m ⟨gs++[u],d⟩ with now:=m } ((m:Int) :: r):=by
 obtain ⟨r0,rfl⟩:=h.head (by omega)
 have hp:=h.path
 obtain ⟨_,_,_,hp'⟩:=hp
 have hcn:Xf s.fibers s.now=m:=by rw [hn]; exact hc
 rw [hcn] at hp'
 cases r0 with
 | nil=>have:(m:Int)=-1:=hp'; omega
 | cons x r =>
  obtain ⟨hx,hx0,hx1,hp2⟩:=hp'
  subst hx
  have hnd:=h.nodup
  rw [hn] at hnd
  have hn1:=(List.nodup_cons.1 hnd)
  have hne:n≠m:=by rintro rfl; exact hn1.1 (by simp)
  have hml:m < s.fibers.length:=by omega
  have hml':m < (Zf s n b).fibers.length:=by rw [Zv]; exact hml
  refine ⟨r,by rw [hn],?_⟩
  have hfib:∀ k,Za { Zf (Zf s n b) m ⟨gs++[u],d⟩ with now:=(m:Int) } k=if k=m then ⟨gs++[u],d⟩ else if k=n then b else Za s k:=fun k=>by
   show Za (Zf (Zf s n b) m _) k=_
   by_cases e:k=m
   ·rw [if_pos e,e,Xi _ hml']
   ·rw [if_neg e,Xr _ (fun h=>e h.symm)]
    by_cases e':k=n
    ·rw [if_pos e',e',Xi _ hl]
    ·rw [if_neg e',Xr _ (fun h=>e' h.symm)]
  have hlast:(m :: r:List Int).getLast?=some 0:=by
   rcases h.last with e | e
   ·cases e
   ·rw [List.getLast?_cons_cons] at e; exact e
  refine h.of (by show (Zf (Zf s n b) m _).fibers.length=_; rw [Zv,Zv]) h.o30 ?_ hn1.2 (.inr hlast) (fun h0=>absurd (List.mem_of_getLast? hlast) h0) (fun k hk=>?_)
  ·refine ⟨rfl,hx0,by show (m:Int) < (Zf (Zf s n b) m _).fibers.length; rw [Zv,Zv]; exact hx1,?_⟩
   have e1:Xf (Zf (Zf s n b) m ⟨gs++[u],d⟩).fibers m=Xf s.fibers m:=by
    rw [Ko hml',if_pos (by omega)]; exact hd.symm
   show Path (Zf (Zf s n b) m ⟨gs++[u],d⟩).fibers _ _
   rw [e1]
   refine hp2.congr (by rw [Zv,Zv]; omega) (fun z hz=>?_)
   have hzm:z≠m:=by rintro rfl; exact (List.nodup_cons.1 hn1.2).1 hz
   have hzn:z≠n:=by rintro rfl; exact hn1.1 (List.mem_cons_of_mem _ hz)
   have hz0:=hp2.inside z hz
   rw [Ko hml',if_neg (by omega),Ko hl,if_neg (by omega)]
  ·rw [hfib k]
   by_cases e:k=m
   ·subst e
    rw [if_pos rfl]
    right
    refine ⟨Kc.2 ⟨hu,?_⟩,by simpa using h6⟩
    rw [if_pos (decide_eq_true rfl)]
    exact hs
   ·rw [if_neg e]
    by_cases e':k=n
    ·subst e'
     rw [if_pos rfl]
     right
     rw [decide_eq_false hn1.1,decide_eq_false (show ¬ ((k:Int)=(m:Int)) by omega)]
     exact ⟨hbf,hb6⟩
    ·rw [if_neg e']
     left
     refine ⟨rfl,?_,?_⟩
     ·have:¬ (k:Int)=s.now:=by omega
      simp [this]
     ·constructor
      ·intro h1; have h1:(k:Int)=(m:Int):=h1; omega
      ·intro h1; omega
theorem Good.forth (h:Good p s l) {n m:Nat} (hn:s.now=n) (hl:n < s.fibers.length) (hml:m < s.fibers.length) (hm:(m:Int) ∉ l) {fs:List Fr} {t:Fr} {c:Int} (hc:(Za s n).caller=c) (hf:FrsG p fs t) (hw:waitB p t 14 0=true) (h6:fs.length + 1≤6)
  {gs:List Fr} {u:Fr} (hu:FrsG p gs u) (hs:(u.stack.length:Int)=hAt p u) (h6':gs.length + 1≤6) :
  Good p { Zf (Zf s n ⟨fs++[t],c⟩) m ⟨gs++[u],n⟩ with now:=m } ((m:Int) :: l):=by
 have hin:(n:Int)∈l:=by rw [← hn]; exact h.now_mem (by omega)
 have hne:n≠m:=by rintro rfl; exact hm hin
 have hml':m < (Zf s n ⟨fs++[t],c⟩).fibers.length:=by rw [Zv]; exact hml
 have hfib:∀ k,Za { Zf (Zf s n ⟨fs++[t],c⟩) m ⟨gs++[u],n⟩ with now:=(m:Int) } k=if k=m then ⟨gs++[u],n⟩ else if k=n then ⟨fs++[t],c⟩ else Za s k:=fun k=>by
  show Za (Zf (Zf s n _) m _) k=_
  by_cases e:k=m
  ·rw [if_pos e,e,Xi _ hml']
  ·rw [if_neg e,Xr _ (fun h=>e h.symm)]
   by_cases e':k=n
   ·rw [if_pos e',e',Xi _ hl]
   ·rw [if_neg e',Xr _ (fun h=>e' h.symm)]
 have hlast:((m:Int) :: l).getLast?=some 0:=by
  obtain ⟨r,rfl⟩:=h.head (by omega)
  rcases h.last with e | e
  ·cases e
  ·rw [List.getLast?_cons_cons]; exact e
 refine h.of (by show (Zf (Zf s n _) m _).fibers.length=_; rw [Zv,Zv]) h.o30 ?_ (List.nodup_cons.2 ⟨hm,h.nodup⟩) (.inr hlast) (fun h0=>absurd (List.mem_of_getLast? hlast) h0) (fun k hk=>?_)
 ·refine ⟨rfl,by omega,by show (m:Int) < (Zf (Zf s n _) m _).fibers.length; rw [Zv,Zv]; omega,?_⟩
  show Path (Zf (Zf s n ⟨fs++[t],c⟩) m ⟨gs++[u],n⟩).fibers _ _
  rw [Ko hml',if_pos (by omega),show ((⟨gs++[u],n⟩:Fb).caller)=s.now from hn.symm]
  refine h.path.congr (by rw [Zv,Zv]; omega) (fun z hz=>?_)
  have hzm:z≠m:=by rintro rfl; exact hm hz
  have hz0:=h.path.inside z hz
  rw [Ko hml',if_neg (by omega),Ko hl]
  split
  ·rename_i e
   have:Xf s.fibers z=(Za s n).caller:=by show (Za s z.toNat).caller=_; rw [e]
   rw [this,hc]
  ·rfl
 ·rw [hfib k]
  by_cases e:k=m
  ·subst e
   rw [if_pos rfl]
   right
   refine ⟨Kc.2 ⟨hu,?_⟩,by simpa using h6'⟩
   rw [if_pos (decide_eq_true rfl)]
   exact hs
  ·rw [if_neg e]
   by_cases e':k=n
   ·subst e'
    rw [if_pos rfl]
    right
    refine ⟨Kc.2 ⟨hf,?_⟩,by simpa using h6⟩
    rw [decide_eq_false (show ¬ ((k:Int)=(m:Int)) by omega),if_neg (by simp),if_pos (decide_eq_true (List.mem_cons_of_mem _ hin))]
    exact hw
   ·rw [if_neg e']
    left
    refine ⟨rfl,?_,?_⟩
    ·have:¬ (k:Int)=(m:Int):=by omega
     simp [this]
    ·constructor
     ·intro h1; have h1:(k:Int)=(m:Int):=h1; omega
     ·intro h1; omega
theorem Good.over (h:Good p s l) {n:Nat} (hn:s.now=n) (hl:n < s.fibers.length) {c:Int} (hc:(Za s n).caller=c) (hc0:c < 0) (o:List Int) (ho:o.length≤30) :
  Good p { Zf s n ⟨[],c⟩ with now:=-1,out:=o } []:=by
 have hcr:=h.caller hl
 obtain rfl:c=-1:=by omega
 obtain ⟨r,rfl⟩:=h.head (by omega)
 have hp:=h.path
 obtain ⟨_,_,_,hp'⟩:=hp
 have hcn:Xf s.fibers s.now=-1:=by rw [hn]; exact hc
 rw [hcn] at hp'
 cases r with
 | cons x r'=>obtain ⟨hx,hx0,_⟩:=hp'; omega
 | nil =>
  have hn0:n=0:=by
   rcases h.last with e | e
   ·cases e
   ·rw [hn] at e; simp at e; omega
  subst hn0
  refine h.of (Zv _ _ _) ho rfl List.nodup_nil (.inl rfl) (fun _=>?_) (fun k hk=>?_)
  ·show (Za (Zf s 0 _) 0).frames=[]
   rw [Xi _ hl]
  ·by_cases e:0=k
   ·subst e
    right
    have e1:Za { Zf s 0 ⟨[],-1⟩ with now:=-1,out:=o } 0=⟨[],-1⟩:=Xi _ hl
    rw [e1]
    exact ⟨fiber_none.2 ⟨decide_eq_false (by simp),rfl⟩,by simp⟩
   ·left
    refine ⟨Xr _ e,?_,?_⟩
    ·rw [hn]; simp; omega
    ·rw [hn]
     constructor
     ·intro h1; have h1:(k:Int)=-1:=h1; omega
     ·intro h1; omega
theorem Good.more (h:Good p s l) {b:Fb} (hb:Xt p b false false=true) (hb6:b.frames.length≤6) (h5:s.fibers.length < 5):Good p { s with fibers:=s.fibers++[b] } l:=by
 have hlen:({ s with fibers:=s.fibers++[b] }:St).fibers.length=s.fibers.length + 1:=by simp
 have hold:∀ k,k < s.fibers.length→Za { s with fibers:=s.fibers++[b] } k=Za s k:=fun k hk=>by simp [Za,List.getD,List.getElem?_append_left hk]
 have hnew:Za { s with fibers:=s.fibers++[b] } s.fibers.length=b:=by simp [Za,List.getD]
 have hoff:((s.fibers.length:Nat):Int) ∉ l:=fun hm=>by have:=h.path.inside _ hm; omega
 refine ⟨h.prog,by rw [hlen]; omega,h.o30,fun k hk=>?_,?_,h.nodup,h.last,by rw [hlen]; omega,fun h0=>by rw [hold 0 h.pos]; exact h.main h0,fun k hk=>?_⟩
 ·by_cases e:k < s.fibers.length
  ·rw [hold k e]; exact h.f6 k e
  ·obtain rfl:k=s.fibers.length:=by omega
   rw [hnew]; exact hb6
 ·refine h.path.congr (by rw [hlen]; omega) (fun z hz=>?_)
  have:=h.path.inside z hz
  show (Za { s with fibers:=s.fibers++[b] } z.toNat).caller=(Za s z.toNat).caller
  rw [hold _ (by omega)]
 ·by_cases e:k < s.fibers.length
  ·rw [hold k e]; exact h.each k e
  ·obtain rfl:k=s.fibers.length:=by omega
   rw [hnew,decide_eq_false hoff]
   have hr:=h.path.range
   have:decide (((s.fibers.length:Nat):Int)=({ s with fibers:=s.fibers++[b] }:St).now)=false:=decide_eq_false (by show ¬ ((s.fibers.length:Nat):Int)=s.now; omega)
   rw [this]
   exact hb
end
end Go.Proofs.YtblihfpigjiahaaGreatDoor
namespace Go.Proofs.YtblihfpigjiahaaGreatDoor
theorem op_facts {p:List Fn} (hp:Zx p=0) {t:Fr} (hf:Zw p t=true):∃ kd a ta lb,(Zu p t.fn.toNat).getD t.at_.toNat (0,0)=(kd,a)∧opS p (p.getD t.fn.toNat Fn.zero) (kd,a)=0∧effS p kd a=(ta,lb,0) ∧
  ta≤hAt p t∧¬ (kd=12∧1 < hAt p t)∧hAt p t - ta + lb≤8∧∀ j,j∈Xg (kd,a) t.at_.toNat→j < (Zu p t.fn.toNat).length∧(hgt p t.fn.toNat).getD j 0=hAt p t - ta + lb:=by
 obtain ⟨⟨f0,f1⟩,_,⟨a0,a1⟩,h0⟩:=Ki hf
 have hk:t.fn.toNat < p.length:=by omega
 have ha:t.at_.toNat < (Zu p t.fn.toNat).length:=by omega
 obtain ⟨hcons,_⟩:=cons_code hp hk
 have hh:(hgt p t.fn.toNat).getD t.at_.toNat 0=hAt p t:=rfl
 obtain ⟨x,m,hx,hm,hnx⟩:=hcons.done t.at_.toNat ha (by rw [hh]; omega)
 rw [hh] at hm
 obtain ⟨_,_,hck⟩:=Ka hp
 obtain ⟨_,_,hops⟩:=chkS_ops (hck _ hk)
 have hop:=opsS_all hops x (List.mem_of_getElem? hx)
 unfold beh at hm
 split at hm
 ·rename_i hb
  simp only [Option.some.injEq] at hm
  refine ⟨x.1,x.2,(effS p x.1 x.2).1,(effS p x.1 x.2).2.1,by simp [List.getD,hx],hop,by rw [← hb.1],hb.2.1,hb.2.2.1,hb.2.2.2,?_⟩
  rw [hm]
  exact hnx
 ·cases hm
theorem frame_next {p:List Fn} {t t':Fr} (hf:Zw p t=true) (hfn:t'.fn=t.fn) (hloc:t'.locals.length=t.locals.length) {j:Nat} {m:Int} (hat:t'.at_=j) (hj:j < (Zu p t.fn.toNat).length∧(hgt p t.fn.toNat).getD j 0=m) (hm:0≤m):Zw p t'=true∧hAt p t'=m:=by
 obtain ⟨⟨f0,f1⟩,hl,_,_⟩:=Ki hf
 have h1:hAt p t'=m:=by unfold hAt; rw [hfn,hat,Int.toNat_natCast]; exact hj.2
 refine ⟨?_,h1⟩
 unfold Zw
 rw [h1,hfn,hloc,hat]
 simp only [Bool.and_eq_true,decide_eq_true_eq,Qb]
 exact ⟨⟨f0,f1⟩,hl,⟨by omega,by omega⟩,hm⟩
theorem frame_stk {p:List Fn} {u:Fr} (h:Zw p u=true) (l:List Int):Zw p (u.stk l)=true:=h
theorem room_of {p:List Fn} (hp:Zx p=0) {f:Nat} (hf:f < p.length):0≤(p.getD f Fn.zero).args∧(p.getD f Fn.zero).args≤(p.getD f Fn.zero).locals∧(p.getD f Fn.zero).locals≤4∧(Zu p f).length≤24:=by
 obtain ⟨_,_,hck⟩:=Ka hp
 obtain ⟨i,e,_,hcl,hroom,_⟩:=chkS_zero (hck f hf)
 obtain rfl:f=i:=by omega
 obtain ⟨h1,h2,h3⟩:=Qz.1 hroom
 exact ⟨h1,h2,h3,hcl⟩
theorem frame_begun {p:List Fn} (hp:Zx p=0) {f:Int} (hf:0≤f) (hfl:f < p.length) {vals:List Int} (hv:(vals.length:Int)≤(p.getD f.toNat Fn.zero).locals):Zw p (Qg p f vals)=true∧hAt p (Qg p f vals)=0∧((Qg p f vals).locals.length:Int)=(p.getD f.toNat Fn.zero).locals:=by
 have hk:f.toNat < p.length:=by omega
 obtain ⟨hcons,_⟩:=cons_code hp hk
 have h1:hAt p (Qg p f vals)=0:=hcons.first
 have hl:((Qg p f vals).locals.length:Int)=(p.getD f.toNat Fn.zero).locals:=by
  show ((vals++List.replicate ((p.getD f.toNat Fn.zero).locals.toNat - vals.length) 0).length:Int)=_
  rw [List.length_append,List.length_replicate]
  omega
 refine ⟨?_,h1,hl⟩
 unfold Zw
 rw [h1]
 simp only [Bool.and_eq_true,decide_eq_true_eq,Qb]
 refine ⟨⟨hf,hfl⟩,hl,⟨Int.le_refl _,?_⟩,Int.le_refl _⟩
 have:=hcons.pos
 show (0:Int) < _
 have:(0:Int) < (Zu p f.toNat).length:=by omega
 exact this
theorem wait_on {p:List Fn} {t:Fr} {kd a:Int} (hat:0≤t.at_) (hop:(Zu p t.fn.toNat).getD t.at_.toNat (0,0)=(kd,a)) {st:List Int} (hs:(st.length:Int)=hAt p (t.on.stk st) - 1):Xp p (t.on.stk st) (kd,a)=true∧(kd≠11→waitB p (t.on.stk st) kd 0=true):=by
 have ha:opAhead p (t.on.stk st)=(kd,a):=by
  unfold opAhead
  show (Zu p t.fn.toNat).getD ((t.at_ + 1).toNat - 1) (0,0)=_
  rw [show (t.at_ + 1).toNat - 1=t.at_.toNat by omega,hop]
 have h1:(t.on.stk st).at_=t.at_ + 1:=rfl
 have h2:(t.on.stk st).stack=st:=rfl
 constructor
 ·unfold Xp
  rw [ha,h1,h2]
  simp only [Bool.and_eq_true,decide_eq_true_eq,decide_true,and_true]
  exact ⟨by omega,hs⟩
 ·intro hk
  unfold waitB
  rw [ha,h1,h2]
  simp only [Bool.and_eq_true,Bool.or_eq_true,Bool.not_eq_true',decide_eq_true_eq,decide_eq_false_iff_not,decide_true,true_and]
  exact ⟨⟨by omega,hs⟩,.inl hk⟩
theorem wait_stack {p:List Fn} {t:Fr} {kd o:Int} (h:waitB p t kd o=true):(t.stack.length:Int)=hAt p t - 1∧t.at_≠0:=by
 unfold waitB at h
 simp only [Bool.and_eq_true,Bool.not_eq_true',decide_eq_true_eq,decide_eq_false_iff_not] at h
 exact ⟨h.1.2,h.1.1⟩
structure Runner (p:List Fn) (s:St) (l:List Int) (n:Nat) (fs:List Fr) (t:Fr) (c kd a ta lb:Int):Prop where
 good:Good p s l
 op:Op p s n fs t c kd a
 frs:FrsG p fs t
 stack:(t.stack.length:Int)=hAt p t
 right:opS p (p.getD t.fn.toNat Fn.zero) (kd,a)=0
 eff:effS p kd a=(ta,lb,0)
 has:ta≤hAt p t
 ret:¬ (kd=12∧1 < hAt p t)
 most:hAt p t - ta + lb≤8
 next:∀ j,j∈Xg (kd,a) t.at_.toNat→j < (Zu p t.fn.toNat).length∧(hgt p t.fn.toNat).getD j 0=hAt p t - ta + lb
 few:fs.length + 1≤6
theorem Good.runner {p:List Fn} {s:St} {l:List Int} (h:Good p s l) (hn:0≤s.now):∃ n fs t c kd a ta lb,Runner p s l n fs t c kd a ta lb:=by
 obtain ⟨n,hnn⟩:∃ n:Nat,s.now=n:=⟨s.now.toNat,by omega⟩
 have hin:(n:Int)∈l:=by rw [← hnn]; exact h.now_mem hn
 have hl:n < s.fibers.length:=by have:=h.path.inside _ hin; omega
 obtain ⟨fs,t,hb⟩:=h.on hin
 have hfib:=h.each n hl
 rw [hb,Kc] at hfib
 obtain ⟨hfrs,hst⟩:=hfib
 rw [if_pos (decide_eq_true hnn.symm)] at hst
 obtain ⟨kd,a,ta,lb,h1,h2,h3,h4,h5,h6,h7⟩:=op_facts h.prog hfrs.2.1
 have hfew:=h.f6 n hl
 rw [hb] at hfew
 exact ⟨n,fs,t,_,kd,a,ta,lb,h,⟨⟨hl,hb⟩,hnn,h1⟩,hfrs,hst,h2,h3,h4,h5,h6,h7,by simpa using hfew⟩
section
variable {p:List Fn} {s:St} {l:List Int} {n:Nat} {fs:List Fr} {t:Fr} {c kd a ta lb:Int}
theorem Runner.kind (h:Runner p s l n fs t c kd a ta lb):0≤kd∧kd < 17:=⟨(Qx h.right).1,(Qx h.right).2.1⟩
theorem Runner.plain (h:Runner p s l n fs t c kd a ta lb) (hk:kd≠11):ta=tk kd.toNat∧lb=lv kd.toNat:=by
 have he:=h.eff
 have:=h.kind
 unfold effS at he
 rw [if_pos (by omega),if_neg hk] at he
 simp only [Prod.mk.injEq] at he
 exact ⟨he.1.symm,he.2.1.symm⟩
theorem Runner.leaves (h:Runner p s l n fs t c kd a ta lb):0≤ta∧0≤lb:=by
 by_cases h11:kd=11
 ·subst h11
  obtain ⟨_,_,h1,h2⟩:=effS_call h.right rfl
  rw [h.eff] at h2
  simp only [Prod.mk.injEq] at h2
  simp only at h1
  omega
 ·obtain ⟨ta',lb',h1,h2,_,h3,_⟩:=effS_plain h.right h11
  rw [h.eff] at h1
  simp only [Prod.mk.injEq] at h1
  omega
theorem Runner.at0 (h:Runner p s l n fs t c kd a ta lb):0≤t.at_:=(Ki h.frs.2.1).2.2.1.1
theorem Runner.on (h:Runner p s l n fs t c kd a ta lb) (h9:kd≠9) (h12:kd≠12) (st:List Int):Zw p (t.on.stk st)=true∧hAt p (t.on.stk st)=hAt p t - ta + lb:=by
 have hj:t.at_.toNat + 1∈Xg (kd,a) t.at_.toNat:=by
  unfold Xg
  simp only
  rw [if_neg h12,if_neg h9]
  split <;> simp
 have:=h.at0
 have:=h.leaves
 have:=h.has
 exact frame_next (t':=t.on.stk st) h.frs.2.1 rfl rfl (j:=t.at_.toNat + 1) (by show t.at_ + 1=_; omega) (h.next _ hj) (by omega)
theorem Runner.goes (h:Runner p s l n fs t c kd a ta lb) (h9:kd=9∨kd=10):0≤a:=by
 obtain ⟨_,_,hm⟩:=Qx h.right
 have:opd kd.toNat=3:=by rcases h9 with rfl | rfl <;> rfl
 rw [this] at hm
 have hm':ixB a (p.getD t.fn.toNat Fn.zero).code.length=true:=hm
 exact (Qb.1 hm').1
theorem Runner.names (h:Runner p s l n fs t c kd a ta lb) (h9:kd=11∨kd=13):0≤a∧a < p.length∧0≤(p.getD a.toNat Fn.zero).args∧(p.getD a.toNat Fn.zero).args≤(p.getD a.toNat Fn.zero).locals∧(p.getD a.toNat Fn.zero).locals≤4:=by
 obtain ⟨_,_,hm⟩:=Qx h.right
 have:opd kd.toNat=4:=by rcases h9 with rfl | rfl <;> rfl
 rw [this] at hm
 obtain ⟨h1,h2,h3⟩:=mayB4 hm
 obtain ⟨h4,h5,h6⟩:=Qz.1 h3
 exact ⟨h1,h2,h4,h5,h6⟩
theorem Runner.local (h:Runner p s l n fs t c kd a ta lb) (h9:kd=2∨kd=3):0≤a∧a.toNat < t.locals.length:=by
 obtain ⟨_,_,hm⟩:=Qx h.right
 have:opd kd.toNat=2:=by rcases h9 with rfl | rfl <;> rfl
 rw [this] at hm
 have hm':ixB a (p.getD t.fn.toNat Fn.zero).locals=true:=hm
 obtain ⟨h1,h2⟩:=Qb.1 hm'
 have:=(Ki h.frs.2.1).2.1
 omega
theorem Runner.caller (h:Runner p s l n fs t c kd a ta lb) (hc:0≤c):∃ (m:Nat) (gs:List Fr) (u:Fr) (d:Int),c=m∧n≠m∧Tops s m gs u d∧FrsG p gs u∧(u.stack.length:Int)=hAt p u - 1∧gs.length + 1≤6:=by
 have hcal:(Za s n).caller=c:=by rw [h.op.tops.eq]
 obtain ⟨r0,hl⟩:=h.good.head (by rw [h.op.now]; omega)
 have hp:=h.good.path
 have hnd:=h.good.nodup
 rw [hl] at hp hnd
 obtain ⟨_,_,_,hp'⟩:=hp
 have hcn:Xf s.fibers s.now=c:=by rw [h.op.now]; exact hcal
 rw [hcn] at hp'
 cases r0 with
 | nil=>have:c=-1:=hp'; omega
 | cons x r =>
  obtain ⟨hx,hx0,hx1,_⟩:=hp'
  subst hx
  obtain ⟨m,rfl⟩:∃ m:Nat,c=m:=⟨c.toNat,by omega⟩
  have hin:(m:Int)∈l:=by rw [hl]; simp
  have hne:n≠m:=by
   rintro rfl
   exact (List.nodup_cons.1 hnd).1 (by rw [h.op.now]; simp)
  obtain ⟨gs,u,hb⟩:=h.good.on hin
  have hml:m < s.fibers.length:=by omega
  have hfib:=h.good.each m hml
  rw [hb,Kc] at hfib
  obtain ⟨hfrs,hst⟩:=hfib
  rw [if_neg (by rw [decide_eq_false (by rw [h.op.now]; omega)]; simp),if_pos (decide_eq_true hin)] at hst
  have hfew:=h.good.f6 m hml
  rw [hb] at hfew
  exact ⟨m,gs,u,_,rfl,hne,⟨hml,hb⟩,hfrs,(wait_stack hst).1,by simpa using hfew⟩
theorem Runner.callerOf (h:Runner p s l n fs t c kd a ta lb):(Za s n).caller=c:=by rw [h.op.tops.eq]
def Ends (p:List Fn) (r:St × Int):Prop:=(r.2=0∧∃ l,Good p r.1 l)∨(r.1=St.zero∧(r.2=2∨r.2=5∨r.2=6∨r.2=7))
theorem Runner.ends (h:Runner p s l n fs t c kd a ta lb):Ends p (Zr p s):=by
 obtain ⟨k0,k17⟩:=h.kind
 obtain ⟨l0,l1⟩:=h.leaves
 have hst:=h.stack
 have hhas:=h.has
 have hlt:=h.op.tops.lt
 have hgood:=h.good
 have hout:=hgood.o30
 by_cases k10:kd≤10
 ·obtain ⟨t',j,e,hfn,hloc,hs',hj,hat⟩:=done_stay h.op k0 k10 h.eff (by omega) h.at0 h.goes
  rw [e]
  obtain ⟨hf',hh'⟩:=frame_next h.frs.2.1 hfn hloc hat (h.next j hj) (by omega)
  exact .inl ⟨rfl,l,hgood.stay h.op.now hlt h.callerOf (h.frs.turn hf' hfn) (by omega) h.few s.out hout⟩
 by_cases k11:kd=11
 ·subst k11
  obtain ⟨n0,n1,n2,n3,n4⟩:=h.names (.inl rfl)
  obtain ⟨_,_,_,he⟩:=effS_call h.right rfl
  rw [h.eff] at he
  simp only [Prod.mk.injEq] at he
  obtain ⟨e1,e2,_⟩:=he
  rw [goes_call h.op]
  split
  ·exact .inr ⟨rfl,.inl rfl⟩
  ·rename_i h6
   have hfew:=h.few
   obtain ⟨hf',hh'⟩:=h.on (by omega) (by omega) (t.stack.take (t.stack.length - (p.getD a.toNat Fn.zero).args.toNat))
   obtain ⟨hb1,hb2,_⟩:=frame_begun hgood.prog n0 n1 (vals:=t.stack.drop (t.stack.length - (p.getD a.toNat Fn.zero).args.toNat)) (by rw [List.length_drop]; omega)
   have hw:=(wait_on (p:=p) (t:=t) h.at0 h.op.op (st:=t.stack.take (t.stack.length - (p.getD a.toNat Fn.zero).args.toNat)) (by rw [hh',List.length_take]; omega)).1
   refine .inl ⟨rfl,l,hgood.stay h.op.now hlt h.callerOf ((h.frs.turn hf' rfl).push hw hb1) (by rw [hb2]; rfl) (by simp; omega) s.out hout⟩
 by_cases k12:kd=12
 ·subst k12
  have hta:ta=1:=(h.plain (by omega)).1
  have hr:=h.ret
  obtain ⟨st,v,hsv⟩:=stack_one (l:=t.stack) (by omega)
  rcases List.eq_nil_or_concat fs with rfl | ⟨gs,u,rfl⟩
  ·by_cases hc:c < 0
   ·rw [done_return_end h.op hsv hc]
    unfold putS
    split
    ·exact .inr ⟨rfl,.inl rfl⟩
    ·rename_i ho
     have ho':¬ s.out.length=30:=ho
     refine .inl ⟨rfl,[],hgood.over h.op.now hlt h.callerOf hc (s.out++[v]) (by simp; omega)⟩
   ·obtain ⟨m,gs,u,d,e,hne,htop,hfu,hsu,h6⟩:=h.caller (by omega)
    rw [done_return_on h.op hsv e hne htop]
    obtain ⟨r,_,hg⟩:=hgood.back h.op.now hlt (h.callerOf.trans e) (b:=⟨[],-1⟩) (fiber_none.2 ⟨rfl,rfl⟩) (by simp) (gs:=gs) (u:=u.stk (u.stack++[v])) (by rw [htop.eq]) (hfu.turn (frame_stk hfu.2.1 _) rfl) (by
     show ((u.stack++[v]).length:Int)=hAt p u
     simp; omega) h6
    exact .inl ⟨rfl,_,hg⟩
  ·have hopn:=h.op
   have hfr:=h.frs
   have hfew:=h.few
   rw [List.concat_eq_append] at hopn hfr hfew
   rw [done_return_in hopn hsv]
   obtain ⟨hfu,hw⟩:=hfr.pop
   have hsu:(u.stack.length:Int)=hAt p u - 1:=by
    unfold Xp at hw
    simp only [Bool.and_eq_true,decide_eq_true_eq] at hw
    exact hw.1.2
   refine .inl ⟨rfl,l,hgood.stay h.op.now hlt h.callerOf (hfu.turn (frame_stk hfu.2.1 (u.stack++[v])) rfl) (by
    show ((u.stack++[v]).length:Int)=hAt p u
    simp; omega) (by simp at hfew; omega) s.out hout⟩
 by_cases k13:kd=13
 ·subst k13
  obtain ⟨n0,n1,n2,n3,n4⟩:=h.names (.inr rfl)
  obtain ⟨e1,e2⟩:=h.plain (by omega)
  have e1:ta=0:=e1
  have e2:lb=1:=e2
  rw [goes_make h.op]
  split
  ·exact .inr ⟨rfl,.inl rfl⟩
  ·rename_i h5
   have h5':=hgood.n5
   obtain ⟨hf',hh'⟩:=h.on (by omega) (by omega) (t.stack++[(s.fibers.length:Int)])
   have hg:=hgood.stay h.op.now hlt h.callerOf (h.frs.turn hf' rfl) (by
    rw [hh']
    show ((t.stack++[(s.fibers.length:Int)]).length:Int)=_
    simp; omega) h.few s.out hout
   obtain ⟨hb1,hb2,hb3⟩:=frame_begun hgood.prog n0 n1 (vals:=[]) (Int.le_trans n2 n3)
   have hargs:(p.getD a.toNat Fn.zero).args=1:=by
    have hr:=h.right
    unfold opS at hr
    simp only at hr
    rw [if_pos (by omega),if_pos (Qx h.right).2.2] at hr
    split at hr
    ·cases hr
    ·rename_i hh
     rcases Decidable.em ((p.getD a.toNat Fn.zero).args=1) with h1 | h1
     ·exact h1
     ·exact absurd ⟨trivial,h1⟩ hh
   have hfresh:Qk p ⟨[]++[Qg p a []],-1⟩=true:=by
    show ((decide ((Qg p a []).at_=0) && (decide ((p.getD (Qg p a []).fn.toNat Fn.zero).args=1) && decide ((Qg p a []).stack.length=0))) && zerosB (Qg p a []).locals)=true
    have e3:(Qg p a []).fn=a:=rfl
    have e4:zerosB (Qg p a []).locals=true:=by
     unfold zerosB
     rw [List.all_eq_true]
     intro z hz
     have:z∈List.replicate ((p.getD a.toNat Fn.zero).locals.toNat - ([]:List Int).length) (0:Int):=hz
     simp at this
     exact decide_eq_true this.2
    rw [e3,hargs,e4]
    rfl
   have hmore:=hg.more (b:=⟨[]++[Qg p a []],-1⟩) (Kc.2 ⟨⟨by simp,hb1,rfl⟩,by rw [if_neg (by simp),if_neg (by simp)]; exact ⟨rfl,.inl hfresh⟩⟩) (by simp) (by
    show (Zf s n _).fibers.length < 5
    rw [Zv]; omega)
   exact .inl ⟨rfl,l,hmore⟩
 by_cases k14:kd=14
 ·subst k14
  obtain ⟨e1,e2⟩:=h.plain (by omega)
  have e1:ta=2:=e1
  have e2:lb=1:=e2
  obtain ⟨st,x,v,hsv⟩:=stack_two (l:=t.stack) (by omega)
  have hstl:(st.length:Int) + 2=t.stack.length:=by rw [hsv]; simp
  rw [goes_resume h.op hsv,hgood.line.1]
  split
  ·rename_i hix
   obtain ⟨hx0,hx1⟩:=Qb.1 hix
   obtain ⟨m,rfl⟩:∃ m:Nat,x=m:=⟨x.toNat,by omega⟩
   rw [Int.toNat_natCast]
   split
   ·exact .inr ⟨rfl,.inr (.inr (.inl rfl))⟩
   ·rename_i hno
    rw [not_or] at hno
    obtain ⟨hml,hfr⟩:=hno
    simp only [Option.getD_some] at hml
    have hne:n≠m:=by rintro rfl; exact hml (by rw [← h.op.now]; exact hgood.now_mem (by rw [h.op.now]; omega))
    rw [Xr _ hne] at hfr ⊢
    obtain ⟨hf',hh'⟩:=h.on (by omega) (by omega) st
    have hw:=(wait_on (p:=p) (t:=t) h.at0 h.op.op (st:=st) (by rw [hh']; omega)).2 (by omega)
    have hmlt:m < s.fibers.length:=by omega
    rcases Fb.form (Za s m) with e | ⟨gs,u,e⟩
    ·rw [e] at hfr; exact absurd rfl hfr
    ·have hfib:=hgood.each m hmlt
     have hfew:=hgood.f6 m hmlt
     have hru:decide ((m:Int)=s.now)=false:=decide_eq_false (by rw [h.op.now]; omega)
     rw [e] at hfib hfew
     rw [Kc,hru,decide_eq_false hml,if_neg (by simp),if_neg (by simp)] at hfib
     obtain ⟨hfu,hcm,hcase⟩:=hfib
     have hfm:(Za s m).frames=gs++[u]:=by rw [e]
     have hform:(⟨(Za s m).frames,(n:Int)⟩:Fb).turnTop (fun u=>u.got v)=⟨gs++[u.got v],n⟩:=by
      rw [hfm]
      unfold Fb.turnTop Fb.top
      simp
     rw [hform]
     have hgot:FrsG p gs (u.got v)∧((u.got v).stack.length:Int)=hAt p (u.got v):=by
      unfold Fr.got
      rcases hcase with hfresh | hwt
      ·unfold Qk at hfresh
       split at hfresh
       ·rename_i y hy
        have hy':gs++[u]=[y]:=hy
        obtain ⟨rfl,rfl⟩:gs=[]∧u=y:=by
         cases gs with
         | nil=>exact ⟨rfl,by simpa using hy'⟩
         | cons a b=>simp at hy'
        simp only [Bool.and_eq_true,decide_eq_true_eq] at hfresh
        obtain ⟨⟨h1,h2,h3⟩,_⟩:=hfresh
        rw [if_pos h1]
        refine ⟨hfu.turn ?_ rfl,?_⟩
        ·have:=hfu.2.1
         unfold Zw at this ⊢
         simp only [List.length_set]
         exact this
        ·show (u.stack.length:Int)=hAt p u
         obtain ⟨hcons,_⟩:=cons_code hgood.prog (k:=u.fn.toNat) (by have:=Ki hfu.2.1; omega)
         have:hAt p u=0:=by unfold hAt; rw [h1]; exact hcons.first
         omega
       ·cases hfresh
      ·obtain ⟨h1,h2⟩:=wait_stack hwt
       rw [if_neg h2]
       refine ⟨hfu.turn (frame_stk hfu.2.1 _) rfl,?_⟩
       show ((u.stack++[v]).length:Int)=hAt p u
       simp; omega
     have hg:=hgood.forth h.op.now hlt hmlt hml h.callerOf (h.frs.turn hf' rfl) hw h.few hgot.1 hgot.2 (by simpa using hfew)
     exact .inl ⟨rfl,_,hg⟩
  ·exact .inr ⟨rfl,.inr (.inl rfl)⟩
 by_cases k15:kd=15
 ·subst k15
  obtain ⟨e1,e2⟩:=h.plain (by omega)
  have e1:ta=1:=e1
  have e2:lb=1:=e2
  obtain ⟨st,v,hsv⟩:=stack_one (l:=t.stack) (by omega)
  have hstl:(st.length:Int) + 1=t.stack.length:=by rw [hsv]; simp
  by_cases hc:c < 0
  ·rw [goes_yield h.op hc]
   exact .inr ⟨rfl,.inr (.inr (.inr rfl))⟩
  ·obtain ⟨m,gs,u,d,e,hne,htop,hfu,hsu,h6⟩:=h.caller (by omega)
   rw [done_yield_on h.op hsv e hne htop]
   obtain ⟨hf',hh'⟩:=h.on (by omega) (by omega) st
   have hw:=(wait_on (p:=p) (t:=t) h.at0 h.op.op (st:=st) (by rw [hh']; omega)).2 (by omega)
   obtain ⟨r,_,hg⟩:=hgood.back h.op.now hlt (h.callerOf.trans e) (b:=⟨fs++[t.on.stk st],-1⟩) (Kc.2 ⟨h.frs.turn hf' rfl,by simp [hw]⟩) (by have:=h.few; simpa using this) (gs:=gs) (u:=u.stk (u.stack++[v])) (by rw [htop.eq]) (hfu.turn (frame_stk hfu.2.1 _) rfl) (by
     show ((u.stack++[v]).length:Int)=hAt p u
     simp; omega) h6
   exact .inl ⟨rfl,_,hg⟩
 obtain rfl:kd=16:=by omega
 obtain ⟨e1,e2⟩:=h.plain (by omega)
 have e1:ta=1:=e1
 have e2:lb=0:=e2
 obtain ⟨st,v,hsv⟩:=stack_one (l:=t.stack) (by omega)
 have hstl:(st.length:Int) + 1=t.stack.length:=by rw [hsv]; simp
 rw [goes_put h.op hsv]
 obtain ⟨hf',hh'⟩:=h.on (by omega) (by omega) st
 unfold putS
 split
 ·exact .inr ⟨rfl,.inl rfl⟩
 ·rename_i ho
  have ho':¬ s.out.length=30:=ho
  exact .inl ⟨rfl,l,hgood.stay h.op.now hlt h.callerOf (h.frs.turn hf' rfl) (by
   rw [hh']
   show (st.length:Int)=_
   omega) h.few (s.out++[v]) (by simp; omega)⟩
end
theorem right_step {p:List Fn} {s:St} (h:Zy p s=0) (hn:0≤s.now):((Zr p s).2=0∧Zy p (Zr p s).1=0)∨((Zr p s).1=St.zero∧((Zr p s).2=2∨(Zr p s).2=5∨(Zr p s).2=6∨(Zr p s).2=7)):=by
 obtain ⟨l,_,hg⟩:=right_good h
 obtain ⟨n,fs,t,c,kd,a,ta,lb,hr⟩:=hg.runner hn
 rcases hr.ends with ⟨h1,l',h2⟩ | h1
 ·exact .inl ⟨h1,good_right h2⟩
 ·exact .inr h1
end Go.Proofs.YtblihfpigjiahaaGreatDoor
namespace Go.Proofs.YtblihfpigjiahaaGreatDoor
theorem Jz {p:List Fn} {s:St} (h:Zy p s=0):Small s:=by
 obtain ⟨hp,hlim,_⟩:=Km h
 obtain ⟨h5,h30,h6,_,_,_⟩:=Kd hlim
 refine ⟨by omega,by omega,fun b hb=>⟨by have:=h6 b hb; omega,fun f hf=>?_⟩⟩
 obtain ⟨k,hk,rfl⟩:=mem_fibAt hb
 obtain ⟨j,hj,rfl⟩:=List.getElem_of_mem hf
 have e:frAt s k j=(Za s k).frames[j]:=by simp [frAt,List.getD,hj]
 obtain ⟨h1,h2⟩:=right_frame h hk hj
 rw [e] at h1 h2
 obtain ⟨⟨q1,q2⟩,q3,_⟩:=Ki h1
 have:=(room_of hp (f:=(Za s k).frames[j].fn.toNat) (by omega)).2.2.1
 exact ⟨by omega,by omega⟩
theorem zero_small:Small St.zero:=⟨Nat.zero_le _,Nat.zero_le _,fun b hb=>by cases hb⟩
theorem step_small {p:List Fn} {s:St} (h:Zy p s=0) (hn:0≤s.now):Small (Zr p s).1:=by
 rcases right_step h hn with ⟨_,h1⟩ | ⟨h1,_⟩
 ·exact Jz h1
 ·rw [h1]; exact zero_small
theorem right_ok {p:List Fn} {s:St} (h:Zy p s=0) (hn:0≤s.now):OkS p s:=by
 obtain ⟨l,hl,hg⟩:=right_good h
 obtain ⟨n,fs,t,c,kd,a,ta,lb,hr⟩:=hg.runner hn
 have hnn:=hr.op.now
 have hlt:=hr.op.tops.lt
 have hnt:s.now.toNat=n:=by omega
 have htop:s.top=t:=top_form hr.op.tops hnn
 have hfb:Za s s.now.toNat=⟨fs++[t],c⟩:=by rw [hnt]; exact hr.op.tops.eq
 have hsm:=Jz h
 obtain ⟨k0,k17⟩:=hr.kind
 obtain ⟨⟨f0,f1⟩,floc,⟨a0,a1⟩,fh⟩:=Ki hr.frs.2.1
 have hst:=hr.stack
 have hhas:=hr.has
 refine ⟨⟨hn,by omega,hg.n5,hg.o30⟩,fun b hb=>?_,by rw [hfb]; simp,fun hc=>?_,⟨by rw [hl]; rfl,by rw [hl]; exact hg.now_mem hn⟩,fun k hk hkl hkf hat=>?_,?_,?_⟩
 ·obtain ⟨k,hk,rfl⟩:=mem_fibAt hb
  exact ⟨⟨hg.f6 k hk,hg.caller hk⟩,(hsm.2.2 _ hb).2⟩
 ·rw [hfb] at hc ⊢
  obtain ⟨m,gs,u,d,e,hne,ht,_⟩:=hr.caller hc
  refine ⟨by show c≠s.now; omega,?_⟩
  have:(Za s c.toNat).frames=gs++[u]:=by rw [show c.toNat=m by omega,ht.eq]
  show 0 < (Za s c.toNat).frames.length
  rw [this]; simp
 ·rw [hl] at hkl
  have hkl':(k:Int) ∉ l:=hkl
  have hfib:=hg.each k hk
  have hru:decide ((k:Int)=s.now)=false:=decide_eq_false (fun e=>hkl' (by rw [e]; exact hg.now_mem hn))
  rw [decide_eq_false hkl',hru] at hfib
  rcases Fb.form (Za s k) with e | ⟨gs,u,e⟩
  ·rw [e] at hkf; simp at hkf
  ·have hu:frAt s k ((Za s k).frames.length - 1)=u:=by
    unfold frAt
    rw [e]
    simp
   rw [hu] at hat ⊢
   rw [e,Kc,if_neg (by simp),if_neg (by simp)] at hfib
   obtain ⟨hfu,_,hcase⟩:=hfib
   rcases hcase with hfresh | hw
   ·unfold Qk at hfresh
    split at hfresh
    ·rename_i y hy
     have hy':gs++[u]=[y]:=hy
     obtain ⟨rfl,rfl⟩:gs=[]∧u=y:=by
      cases gs with
      | nil=>exact ⟨rfl,by simpa using hy'⟩
      | cons a b=>simp at hy'
     simp only [Bool.and_eq_true,decide_eq_true_eq] at hfresh
     obtain ⟨⟨_,h2,_⟩,_⟩:=hfresh
     obtain ⟨⟨q1,q2⟩,q3,_⟩:=Ki hfu.2.1
     have:=room_of hg.prog (f:=u.fn.toNat) (by omega)
     omega
    ·cases hfresh
   ·exact absurd hat (wait_stack hw).2
 ·rw [htop]
  have:=(room_of hg.prog (f:=t.fn.toNat) (by omega)).2.2.2
  exact ⟨f0,by omega,a0,by omega,by omega⟩
 ·rw [htop]
  have hopat:opAt p t=(kd,a):=hr.op.op
  unfold needS
  rw [hopat]
  simp only
  refine ⟨?_,hr.local,fun h11=>?_,fun h13=>?_⟩
  ·unfold needN
   split
   ·omega
   ·have:ta=tk kd.toNat:=(hr.plain (by omega)).1
    split
    ·rename_i h1 h2
     have:ta=1:=by rcases h2 with rfl | rfl | rfl | rfl | rfl | rfl <;> exact this
     omega
    ·rename_i h1 h2
     have h3:kd=4∨kd=5∨kd=6∨kd=7∨kd=8∨kd=14:=by omega
     have:ta=2:=by rcases h3 with rfl | rfl | rfl | rfl | rfl | rfl <;> exact this
     omega
  ·obtain ⟨n0,n1,n2,n3,n4⟩:=hr.names (.inl h11)
   have h11':kd=11:=h11
   subst h11'
   obtain ⟨_,_,_,he⟩:=effS_call hr.right rfl
   rw [hr.eff] at he
   simp only [Prod.mk.injEq] at he
   obtain ⟨e1,_⟩:=he
   exact ⟨n0,by omega,n2,n3,by omega,by omega⟩
  ·obtain ⟨n0,n1,n2,n3,n4⟩:=hr.names (.inr h13)
   exact ⟨n0,by omega,by omega,by omega⟩
theorem run_right {p:List Fn}:∀ (k:Nat) {s:St},Zy p s=0→Zy p (runS p k s).1=0
 | 0,_,h=>h
 | k + 1,s,h=>by
  by_cases hn:s.now < 0
  ·rw [runS_stop p _ s (.inr hn)]; exact h
  ·rcases right_step h (by omega) with ⟨h0,h1⟩ | ⟨_,h1⟩
   ·rw [runS_go p k s hn h0]; exact run_right k h1
   ·rw [runS_err p k s hn (by omega)]; exact h
theorem pull_runs {s:St} {i:Nat} (hn:s.now=i) (hr:Runs s i):(Zc s).now=i∧Runs (Zc s) i∧(frAt (Zc s) i ((Za (Zc s) i).frames.length - 1)).stack=(frAt s i ((Za s i).frames.length - 1)).stack.dropLast:=by
 have hj:(Za s i).frames.length - 1 < (Za s i).frames.length:=by have:=hr.fr; omega
 have hl:(Zc s).fibers.length=s.fibers.length:=by rw [Qn hn]; exact Zv _ _ _
 have hf:(Za (Zc s) i).frames.length=(Za s i).frames.length:=by rw [Qn hn]; exact Jp _ hr.lt i
 have hs:(frAt (Zc s) i ((Za s i).frames.length - 1)).stack=(frAt s i ((Za s i).frames.length - 1)).stack.dropLast:=by rw [Qn hn,Jb _ hr.lt hj]
 refine ⟨by rw [Qn hn]; exact hn,⟨by rw [hl]; exact hr.lt,by rw [hf]; exact hr.fr,by rw [hf]; exact hr.frs,?_⟩,by rw [hf]; exact hs⟩
 rw [hf,hs]
 have:=hr.st
 simp; omega
def Xy (s:St) (i:Nat):St:={ Zf s i { Za s i with caller:=-1 } with now:=(Za s i).caller }
def yieldS (s:St) (i:Nat) (z:Int):St × Int:=if (Za s i).caller=-1 then (St.zero,7) else (Zp (Xy s i) (Za s i).caller z,0)
theorem way_runs {s:St} {i m:Nat} (hne:m≠i) (hr:Runs s m):Runs (Xy s i) m :=
 hr.other (Zv _ _ _) (Xr _ (fun e=>hne e.symm))
def Xh (s:St) (i:Nat):St:=Zf s i { Za s i with frames:=(Za s i).frames.dropLast }
def Jq (s:St) (i:Nat) (z:Int):St × Int :=
 if (Za s i).frames.length=1 then
  (if (Za s i).caller=-1 then putS (Xy (Xh s i) i) z else (Zp (Xy (Xh s i) i) (Za s i).caller z,0))
 else (Zp (Xh s i) i z,0)
theorem dropped_fib {s:St} {i:Nat} (hi:i < s.fibers.length):Za (Xh s i) i={ Za s i with frames:=(Za s i).frames.dropLast }:=Xi _ hi
theorem dropped_len (s:St) (i:Nat):(Xh s i).fibers.length=s.fibers.length:=Zv _ _ _
def Xv (f lo:Nat) (vals:List Int):Fr:=⟨f,0,vals++List.replicate (lo - vals.length) 0,[]⟩
def callS (s:St) (i f a lo:Nat):St × Int :=
 if (Za s i).frames.length=6 then (St.zero,2) else (Zf (Xj s i a) i { Za (Xj s i a) i with frames:=(Za (Xj s i a) i).frames++[Xv f lo ((frAt s i ((Za s i).frames.length - 1)).stack.drop ((frAt s i ((Za s i).frames.length - 1)).stack.length - a))] },0)
def makeS (s:St) (i f lo:Nat):St × Int :=
 if s.fibers.length=5 then (St.zero,2) else (Zp { s with fibers:=s.fibers++[⟨[Xv f lo []],-1⟩] } i s.fibers.length,0)
def Jc (s:St) (i:Nat) (x z:Int):St × Int :=
 if x < 0∨(s.fibers.length:Int)≤x then (St.zero,5)
 else if x.toNat=0∨(Za s x.toNat).caller≠-1∨(Za s x.toNat).frames.length=0 then (St.zero,6)
 else if (frAt s x.toNat ((Za s x.toNat).frames.length - 1)).at_=0 then
  (Xl { Zf s x.toNat { Za s x.toNat with caller:=i } with now:=x } x.toNat ((Za s x.toNat).frames.length - 1) { frAt s x.toNat ((Za s x.toNat).frames.length - 1) with locals:=(frAt s x.toNat ((Za s x.toNat).frames.length - 1)).locals.set 0 z },0)
 else (Zp { Zf s x.toNat { Za s x.toNat with caller:=i } with now:=x } x z,0)
theorem setFib_self {s:St} {i:Nat} {b:Fb} (hi:i < s.fibers.length) (hb:b=Za s i):Zf s i b=s:=by
 unfold Zf
 rw [hb,show s.fibers.set i (Za s i)=s.fibers from set_getD_self _ _ _ hi]
theorem caller_self {s:St} {i:Nat} {c:Int} (hi:i < s.fibers.length) (hc:(Za s i).caller=c):Zf s i { Za s i with caller:=c }=s:=setFib_self hi (by rw [← hc])
theorem pull_caller {s:St} {i:Nat} (hn:s.now=i) (hr:Runs s i) (k:Nat):(Za (Zc s) k).caller=(Za s k).caller:=by rw [Qn hn]; exact Kh _ hr.lt k
theorem pull_frames {s:St} {i:Nat} (hn:s.now=i) (hr:Runs s i) (k:Nat):(Za (Zc s) k).frames.length=(Za s k).frames.length:=by rw [Qn hn]; exact Jp _ hr.lt k
theorem pull_len {s:St} {i:Nat} (hn:s.now=i):(Zc s).fibers.length=s.fibers.length:=by rw [Qn hn]; exact Zv _ _ _
theorem pull_other {s:St} {i k:Nat} (hn:s.now=i) (hk:k≠i):Za (Zc s) k=Za s k:=by rw [Qn hn]; exact setFr_other _ (fun e=>hk e.symm)
theorem yield_eq {s:St} {i:Nat} (hn:s.now=i) (hc:-1≤(Za (Zc s) i).caller):Je s=yieldS (Zc s) i (Zh s):=by
 unfold Je yieldS Xy
 simp only [hn,Qp,Qy]
 by_cases h:(Za (Zc s) i).caller=-1
 ·rw [if_pos (by omega),if_pos h]
 ·rw [if_neg (by omega),if_neg h]
theorem given_eq {s:St} {i:Nat} (hn:s.now=i) (hr:Runs (Zc s) i) (hc:-1≤(Za (Zc s) i).caller):givenS s=Jq (Zc s) i (Zh s):=by
 have hd:Za (Xh (Zc s) i) i={ Za (Zc s) i with frames:=(Za (Zc s) i).frames.dropLast }:=dropped_fib hr.lt
 have hdc:(Za (Xh (Zc s) i) i).caller=(Za (Zc s) i).caller:=by rw [hd]
 have hf:=hr.fr
 have hl:i < (Xh (Zc s) i).fibers.length:=by rw [dropped_len]; exact hr.lt
 have hs1:((Zc s).turn s.now fun b=>{ b with frames:=b.frames.dropLast })=Xh (Zc s) i:=by rw [hn,Qy]; rfl
 unfold givenS Jq
 simp only
 rw [hs1]
 simp only [hn,Qp,Qy,hdc]
 by_cases h1:(Za (Zc s) i).frames.length=1
 ·have h2:(Za (Xh (Zc s) i) i).frames=[]:=by
   rw [hd]
   apply List.eq_nil_of_length_eq_zero
   simp [h1]
  rw [if_pos h2,if_pos h1]
  by_cases h3:(Za (Zc s) i).caller=-1
  ·rw [if_pos (by omega),if_pos h3]
   have:Xy (Xh (Zc s) i) i={ Xh (Zc s) i with now:=-1 }:=by
    unfold Xy
    rw [caller_self hl (hdc.trans h3),hdc,h3]
   rw [this]
  ·rw [if_neg (by omega),if_neg h3]
   unfold Xy
   rw [hdc]
 ·have h2:(Za (Xh (Zc s) i) i).frames≠[]:=by
   rw [hd]
   intro e
   have:=congrArg List.length e
   simp at this
   omega
  rw [if_neg h2,if_neg h1]
theorem made_eq {p:List Fn} {s:St} {i f lo:Nat} (hn:s.now=i) (hi:i < s.fibers.length) (hl:(p.getD f Fn.zero).locals=lo):madeS p s f=makeS s i f lo:=by
 have hb:Qg p (f:Int) []=Xv f lo []:=by
  unfold Qg Xv
  rw [Int.toNat_natCast,hl,Int.toNat_natCast]
 obtain ⟨fbs,nw,ou⟩:=s
 simp only at hn hi
 subst hn
 unfold madeS makeS
 rw [hb]
 simp only
 split
 ·rfl
 ·have hf:Za ⟨fbs++[⟨[Xv f lo []],-1⟩],i,ou⟩ i=Za ⟨fbs,i,ou⟩ i:=by simp [Za,List.getD,List.getElem?_append_left hi]
  have hfr:∀ j,frAt ⟨fbs++[⟨[Xv f lo []],-1⟩],i,ou⟩ i j=frAt ⟨fbs,i,ou⟩ i j:=fun j=>by unfold frAt; rw [hf]
  unfold Zp
  rw [Jm,Jm,hfr,hf]
  unfold Xl Zf
  rw [hf]
  simp only
  rw [List.set_append,if_pos hi]
theorem resume_eq {s:St} {i:Nat} {s2:St} {x v:Int} (h2:Zc (Zc s)=s2) (hx:Zh (Zc s)=x) (hv:Zh s=v) (hn2:s2.now=i) (hline:∀ m:Nat,m < s2.fibers.length→((m:Int)∈(Xe s2.fibers (s2.fibers.length + 1) s2.now []).getD []↔m=0∨(Za s2 m).caller≠-1)) :
  Jo s=Jc s2 i x v:=by
 unfold Jo Jc
 simp only [hx,hv,h2]
 by_cases hb:x < 0∨(s2.fibers.length:Int)≤x
 ·rw [if_neg (by rw [Qb]; omega),if_pos hb]
 ·rw [if_pos (by rw [Qb]; omega),if_neg hb]
  obtain ⟨m,rfl⟩:∃ m:Nat,x=m:=⟨x.toNat,by omega⟩
  have hm:m < s2.fibers.length:=by omega
  rw [Int.toNat_natCast]
  simp only [Qp,Qy,hn2]
  have hiff:((m:Int)∈(Xe s2.fibers (s2.fibers.length + 1) (i:Int) []).getD []∨(Za s2 m).frames=[])↔(m=0∨(Za s2 m).caller≠-1∨(Za s2 m).frames.length=0):=by
   have:=hline m hm
   rw [hn2] at this
   rw [this,List.length_eq_zero_iff,or_assoc]
  by_cases hc:m=0∨(Za s2 m).caller≠-1∨(Za s2 m).frames.length=0
  ·rw [if_pos (hiff.2 hc),if_pos hc]
  ·rw [if_neg (fun h=>hc (hiff.1 h)),if_neg hc]
   have hfib:Za { Zf s2 m { Za s2 m with caller:=(i:Int) } with now:=(m:Int) } m={ Za s2 m with caller:=(i:Int) }:=Xi _ hm
   have hfr:∀ j,frAt { Zf s2 m { Za s2 m with caller:=(i:Int) } with now:=(m:Int) } m j=frAt s2 m j:=fun j=>by unfold frAt; rw [hfib]
   have htop:=top_at (s:={ Zf s2 m { Za s2 m with caller:=(i:Int) } with now:=(m:Int) }) (i:=m) rfl
   rw [hfib,hfr] at htop
   rw [htop]
   split
   ·rw [Jm,hfib,hfr]
   ·rfl
theorem Good.goes {p:List Fn} {s:St} {l:List Int} (h:Good p s l) (hn:0≤s.now) {m:Nat} (hm:m < s.fibers.length):(m:Int)∈l↔m=0∨(Za s m).caller≠-1:=by
 constructor
 ·intro hin
  rcases h.path.next _ hin with ⟨_,hl⟩ | hl
  ·left
   rcases h.last with e | e
   ·rw [e] at hin; cases hin
   ·rw [hl] at e; simp at e; omega
  ·right
   have:=h.path.inside _ hl
   have e:Xf s.fibers (m:Int)=(Za s m).caller:=rfl
   omega
 ·rintro (rfl | hc)
  ·obtain ⟨r,hr⟩:=h.head hn
   rcases h.last with e | e
   ·rw [hr] at e; cases e
   ·exact List.mem_of_getLast? e
  ·rcases Decidable.em ((m:Int)∈l) with h1 | h1
   ·exact h1
   ·exact absurd (h.off hm h1) hc
end Go.Proofs.YtblihfpigjiahaaGreatDoor
