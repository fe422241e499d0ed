/- GoodD, GoodE, DoP, EngA, OwnT, Moved, EngB, EngC, EngD, EngE, EngF, App -/
import Derived.Test.YtblihfpigjiahaaDoorWB23
import Derived.Test.YtblihfpigjiahaaDoorWB22
import Derived.Test.YtblihfpigjiahaaDoorChecked
import Derived.StillTailTactics
import Derived.Deep.RegionHeld3
import Derived.Laws.CopyOwn
import Derived.Test.YtblihfpigjiahaaDoorWB01
import Derived.Laws.AppendOwn
set_option maxRecDepth 100000
set_option maxHeartbeats 8000000
namespace Go.Proofs.YtblihfpigjiahaaDoor
theorem Xaw {p:List Fn} (hp:Xh p=0) {t:Fr} (hf:Xb p t=true):∃ kd a ta lb,(Zx p t.fn.toNat).getD t.at_.toNat (0,0)=(kd,a)∧opS p (p.getD t.fn.toNat Fn.zero) (kd,a)=0∧Qr p kd a=(ta,lb,0) ∧
  ta≤hAt p t∧¬ (kd=12∧1<hAt p t)∧hAt p t - ta+lb≤8∧∀ j,j∈nexts (kd,a) t.at_.toNat→j<(Zx p t.fn.toNat).length∧(hgt p t.fn.toNat).getD j 0=hAt p t - ta+lb:=by
 obtain ⟨⟨f0,f1⟩,_,⟨a0,a1⟩,h0⟩:=Pp hf
 have hk:t.fn.toNat<p.length:=by omega
 have ha:t.at_.toNat<(Zx p t.fn.toNat).length:=by omega
 obtain ⟨hcons,_⟩:=Zei hp hk
 have hh:(hgt p t.fn.toNat).getD t.at_.toNat 0=hAt p t:=rfl
 obtain ⟨x,m,hx,hm,hnx⟩:=hcons.done t.at_.toNat ha (by rw [hh];omega)
 rw [hh] at hm
 obtain ⟨_,_,hck⟩:=Zaa hp
 obtain ⟨_,_,hops⟩:=Zjj (hck _ hk)
 have hop:=Zcn hops x (List.mem_of_getElem? hx)
 unfold beh at hm
 split at hm
 ·rename_i hb
  simp only [Option.some.injEq] at hm
  refine ⟨x.1,x.2,(Qr p x.1 x.2).1,(Qr p x.1 x.2).2.1,by simp [List.getD,hx],hop,by rw [← hb.1],hb.2.1,hb.2.2.1,hb.2.2.2,?_⟩
  rw [hm]
  exact hnx
 ·cases hm
theorem Zli {p:List Fn} {t t':Fr} (hf:Xb p t=true) (hfn:t'.fn=t.fn) (hloc:t'.locals.length=t.locals.length) {j:Nat} {m:Int} (hat:t'.at_=j) (hj:j<(Zx p t.fn.toNat).length∧(hgt p t.fn.toNat).getD j 0=m) (hm:0≤m):Xb p t'=true∧hAt p t'=m:=by
 obtain ⟨⟨f0,f1⟩,hl,_,_⟩:=Pp hf
 have h1:hAt p t'=m:=by unfold hAt;rw [hfn,hat,Int.toNat_natCast];exact hj.2
 refine ⟨?_,h1⟩
 unfold Xb
 rw [h1,hfn,hloc,hat]
 simp only [Bool.and_eq_true,decide_eq_true_eq,Jq]
 exact ⟨⟨f0,f1⟩,hl,⟨by omega,by omega⟩,hm⟩
theorem Zfp {p:List Fn} {u:Fr} (h:Xb p u=true) (l:List Int):Xb p (u.stk l)=true:=h
theorem Zem {p:List Fn} (hp:Xh p=0) {f:Nat} (hf:f<p.length):0≤(p.getD f Fn.zero).args∧(p.getD f Fn.zero).args≤(p.getD f Fn.zero).locals∧(p.getD f Fn.zero).locals≤4∧(Zx p f).length≤24:=by
 obtain ⟨_,_,hck⟩:=Zaa hp
 obtain ⟨i,e,_,hcl,hroom,_⟩:=Zcz (hck f hf)
 obtain rfl:f=i:=by omega
 obtain ⟨h1,h2,h3⟩:=Ws.1 hroom
 exact ⟨h1,h2,h3,hcl⟩
theorem Znj {p:List Fn} (hp:Xh p=0) {f:Int} (hf:0≤f) (hfl:f<p.length) {vals:List Int} (hv:(vals.length:Int)≤(p.getD f.toNat Fn.zero).locals):Xb p (Yn p f vals)=true∧hAt p (Yn p f vals)=0∧((Yn p f vals).locals.length:Int)=(p.getD f.toNat Fn.zero).locals:=by
 have hk:f.toNat<p.length:=by omega
 obtain ⟨hcons,_⟩:=Zei hp hk
 have h1:hAt p (Yn p f vals)=0:=hcons.first
 have hl:((Yn p f vals).locals.length:Int)=(p.getD f.toNat Fn.zero).locals:=by
  show ((vals++List.replicate ((p.getD f.toNat Fn.zero).locals.toNat - vals.length) 0).length:Int)=_
  rw [List.length_append,List.length_replicate]
  omega
 refine ⟨?_,h1,hl⟩
 unfold Xb
 rw [h1]
 simp only [Bool.and_eq_true,decide_eq_true_eq,Jq]
 refine ⟨⟨hf,hfl⟩,hl,⟨Int.le_refl _,?_⟩,Int.le_refl _⟩
 have:=hcons.pos
 show (0:Int)<_
 have:(0:Int)<(Zx p f.toNat).length:=by omega
 exact this
theorem Zgz {p:List Fn} {t:Fr} {kd a:Int} (hat:0≤t.at_) (hop:(Zx p t.fn.toNat).getD t.at_.toNat (0,0)=(kd,a)) {st:List Int} (hs:(st.length:Int)=hAt p (t.on.stk st) - 1):Qp p (t.on.stk st) (kd,a)=true∧(kd≠11→Jk p (t.on.stk st) kd 0=true):=by
 have ha:Pu p (t.on.stk st)=(kd,a):=by
  unfold Pu
  show (Zx p t.fn.toNat).getD ((t.at_+1).toNat - 1) (0,0)=_
  rw [show (t.at_+1).toNat - 1=t.at_.toNat by omega,hop]
 have h1:(t.on.stk st).at_=t.at_+1:=rfl
 have h2:(t.on.stk st).stack=st:=rfl
 constructor
 ·unfold Qp
  rw [ha,h1,h2]
  simp only [Bool.and_eq_true,decide_eq_true_eq,decide_true,and_true]
  exact ⟨by omega,hs⟩
 ·intro hk
  unfold Jk
  rw [ha,h1,h2]
  simp only [Bool.and_eq_true,Bool.or_eq_true,Bool.not_eq_true',decide_eq_true_eq,decide_eq_false_iff_not,decide_true,true_and]
  exact ⟨⟨by omega,hs⟩,.inl hk⟩
theorem Zhj {p:List Fn} {t:Fr} {kd o:Int} (h:Jk p t kd o=true):(t.stack.length:Int)=hAt p t - 1∧t.at_≠0:=by
 unfold Jk at h
 simp only [Bool.and_eq_true,Bool.not_eq_true',decide_eq_true_eq,decide_eq_false_iff_not] at h
 exact ⟨h.1.2,h.1.1⟩
structure Js (p:List Fn) (s:St) (l:List Int) (n:Nat) (fs:List Fr) (t:Fr) (c kd a ta lb:Int):Prop where
 good:Qc p s l
 op:Op p s n fs t c kd a
 frs:Yb p fs t
 stack:(t.stack.length:Int)=hAt p t
 right:opS p (p.getD t.fn.toNat Fn.zero) (kd,a)=0
 eff:Qr p kd a=(ta,lb,0)
 has:ta≤hAt p t
 ret:¬ (kd=12∧1<hAt p t)
 most:hAt p t - ta+lb≤8
 next:∀ j,j∈nexts (kd,a) t.at_.toNat→j<(Zx p t.fn.toNat).length∧(hgt p t.fn.toNat).getD j 0=hAt p t - ta+lb
 few:fs.length+1≤6
theorem Qc.runner {p:List Fn} {s:St} {l:List Int} (h:Qc p s l) (hn:0≤s.now):∃ n fs t c kd a ta lb,Js p s l n fs t c kd a ta lb:=by
 obtain ⟨n,hnn⟩:∃ n:Nat,s.now=n:=⟨s.now.toNat,by omega⟩
 have hin:(n:Int)∈l:=by rw [← hnn];exact h.now_mem hn
 have hl:n<s.fibers.length:=by have:=h.path.inside _ hin;omega
 obtain ⟨fs,t,hb⟩:=h.on hin
 have hfib:=h.each n hl
 rw [hb,Pq] at hfib
 obtain ⟨hfrs,hst⟩:=hfib
 rw [if_pos (decide_eq_true hnn.symm)] at hst
 obtain ⟨kd,a,ta,lb,h1,h2,h3,h4,h5,h6,h7⟩:=Xaw h.prog hfrs.2.1
 have hfew:=h.f6 n hl
 rw [hb] at hfew
 exact ⟨n,fs,t,_,kd,a,ta,lb,h,⟨⟨hl,hb⟩,hnn,h1⟩,hfrs,hst,h2,h3,h4,h5,h6,h7,by simpa using hfew⟩
section
variable {p:List Fn} {s:St} {l:List Int} {n:Nat} {fs:List Fr} {t:Fr} {c kd a ta lb:Int}
theorem Js.kind (h:Js p s l n fs t c kd a ta lb):0≤kd∧kd<17:=⟨(Wc h.right).1,(Wc h.right).2.1⟩
theorem Js.plain (h:Js p s l n fs t c kd a ta lb) (hk:kd≠11):ta=tk kd.toNat∧lb=lv kd.toNat:=by
 have he:=h.eff
 have:=h.kind
 unfold Qr at he
 rw [if_pos (by omega),if_neg hk] at he
 simp only [Prod.mk.injEq] at he
 exact ⟨he.1.symm,he.2.1.symm⟩
theorem Js.leaves (h:Js p s l n fs t c kd a ta lb):0≤ta∧0≤lb:=by
 by_cases h11:kd=11
 ·subst h11
  obtain ⟨_,_,h1,h2⟩:=Zba h.right rfl
  rw [h.eff] at h2
  simp only [Prod.mk.injEq] at h2
  simp only at h1
  omega
 ·obtain ⟨ta',lb',h1,h2,_,h3,_⟩:=Zfm h.right h11
  rw [h.eff] at h1
  simp only [Prod.mk.injEq] at h1
  omega
theorem Js.at0 (h:Js p s l n fs t c kd a ta lb):0≤t.at_:=(Pp h.frs.2.1).2.2.1.1
theorem Js.on (h:Js p s l n fs t c kd a ta lb) (h9:kd≠9) (h12:kd≠12) (st:List Int):Xb p (t.on.stk st)=true∧hAt p (t.on.stk st)=hAt p t - ta+lb:=by
 have hj:t.at_.toNat+1∈nexts (kd,a) t.at_.toNat:=by
  unfold nexts
  simp only
  rw [if_neg h12,if_neg h9]
  split <;> simp
 have:=h.at0
 have:=h.leaves
 have:=h.has
 exact Zli (t':=t.on.stk st) h.frs.2.1 rfl rfl (j:=t.at_.toNat+1) (by show t.at_+1=_;omega) (h.next _ hj) (by omega)
theorem Js.goes (h:Js p s l n fs t c kd a ta lb) (h9:kd=9∨kd=10):0≤a:=by
 obtain ⟨_,_,hm⟩:=Wc h.right
 have:opd kd.toNat=3:=by rcases h9 with rfl | rfl <;> rfl
 rw [this] at hm
 have hm':ixB a (p.getD t.fn.toNat Fn.zero).code.length=true:=hm
 exact (Jq.1 hm').1
theorem Js.names (h:Js p s l n fs t c kd a ta lb) (h9:kd=11∨kd=13):0≤a∧a<p.length∧0≤(p.getD a.toNat Fn.zero).args∧(p.getD a.toNat Fn.zero).args≤(p.getD a.toNat Fn.zero).locals∧(p.getD a.toNat Fn.zero).locals≤4:=by
 obtain ⟨_,_,hm⟩:=Wc h.right
 have:opd kd.toNat=4:=by rcases h9 with rfl | rfl <;> rfl
 rw [this] at hm
 obtain ⟨h1,h2,h3⟩:=Zgg hm
 obtain ⟨h4,h5,h6⟩:=Ws.1 h3
 exact ⟨h1,h2,h4,h5,h6⟩
theorem Js.local (h:Js p s l n fs t c kd a ta lb) (h9:kd=2∨kd=3):0≤a∧a.toNat<t.locals.length:=by
 obtain ⟨_,_,hm⟩:=Wc h.right
 have:opd kd.toNat=2:=by rcases h9 with rfl | rfl <;> rfl
 rw [this] at hm
 have hm':ixB a (p.getD t.fn.toNat Fn.zero).locals=true:=hm
 obtain ⟨h1,h2⟩:=Jq.1 hm'
 have:=(Pp h.frs.2.1).2.1
 omega
theorem Js.caller (h:Js p s l n fs t c kd a ta lb) (hc:0≤c):∃ (m:Nat) (gs:List Fr) (u:Fr) (d:Int),c=m∧n≠m∧Yx s m gs u d∧Yb p gs u∧(u.stack.length:Int)=hAt p u - 1∧gs.length+1≤6:=by
 have hcal:(Zc s n).caller=c:=by rw [h.op.tops.eq]
 obtain ⟨r0,hl⟩:=h.good.head (by rw [h.op.now];omega)
 have hp:=h.good.path
 have hnd:=h.good.nodup
 rw [hl] at hp hnd
 obtain ⟨_,_,_,hp'⟩:=hp
 have hcn:Xt s.fibers s.now=c:=by rw [h.op.now];exact hcal
 rw [hcn] at hp'
 cases r0 with
 | nil=>have:c=-1:=hp';omega
 | cons x r =>
  obtain ⟨hx,hx0,hx1,_⟩:=hp'
  subst hx
  obtain ⟨m,rfl⟩:∃ m:Nat,c=m:=⟨c.toNat,by omega⟩
  have hin:(m:Int)∈l:=by rw [hl];simp
  have hne:n≠m:=by
   rintro rfl
   exact (List.nodup_cons.1 hnd).1 (by rw [h.op.now];simp)
  obtain ⟨gs,u,hb⟩:=h.good.on hin
  have hml:m<s.fibers.length:=by omega
  have hfib:=h.good.each m hml
  rw [hb,Pq] at hfib
  obtain ⟨hfrs,hst⟩:=hfib
  rw [if_neg (by rw [decide_eq_false (by rw [h.op.now];omega)];simp),if_pos (decide_eq_true hin)] at hst
  have hfew:=h.good.f6 m hml
  rw [hb] at hfew
  exact ⟨m,gs,u,_,rfl,hne,⟨hml,hb⟩,hfrs,(Zhj hst).1,by simpa using hfew⟩
theorem Js.callerOf (h:Js p s l n fs t c kd a ta lb):(Zc s n).caller=c:=by rw [h.op.tops.eq]
def Ends (p:List Fn) (r:St × Int):Prop:=(r.2=0∧∃ l,Qc p r.1 l)∨(r.1=St.zero∧(r.2=2∨r.2=5∨r.2=6∨r.2=7))
theorem Js.ends (h:Js p s l n fs t c kd a ta lb):Ends p (Xj p s):=by
 obtain ⟨k0,k17⟩:=h.kind
 obtain ⟨l0,l1⟩:=h.leaves
 have hst:=h.stack
 have hhas:=h.has
 have hlt:=h.op.tops.lt
 have hgood:=h.good
 have hout:=hgood.o30
 by_cases k10:kd≤10
 ·obtain ⟨t',j,e,hfn,hloc,hs',hj,hat⟩:=Zzt h.op k0 k10 h.eff (by omega) h.at0 h.goes
  rw [e]
  obtain ⟨hf',hh'⟩:=Zli h.frs.2.1 hfn hloc hat (h.next j hj) (by omega)
  exact .inl ⟨rfl,l,hgood.stay h.op.now hlt h.callerOf (h.frs.turn hf' hfn) (by omega) h.few s.out hout⟩
 by_cases k11:kd=11
 ·subst k11
  obtain ⟨n0,n1,n2,n3,n4⟩:=h.names (.inl rfl)
  obtain ⟨_,_,_,he⟩:=Zba h.right rfl
  rw [h.eff] at he
  simp only [Prod.mk.injEq] at he
  obtain ⟨e1,e2,_⟩:=he
  rw [Zvx h.op]
  split
  ·exact .inr ⟨rfl,.inl rfl⟩
  ·rename_i h6
   have hfew:=h.few
   obtain ⟨hf',hh'⟩:=h.on (by omega) (by omega) (t.stack.take (t.stack.length - (p.getD a.toNat Fn.zero).args.toNat))
   obtain ⟨hb1,hb2,_⟩:=Znj hgood.prog n0 n1 (vals:=t.stack.drop (t.stack.length - (p.getD a.toNat Fn.zero).args.toNat)) (by rw [List.length_drop];omega)
   have hw:=(Zgz (p:=p) (t:=t) h.at0 h.op.op (st:=t.stack.take (t.stack.length - (p.getD a.toNat Fn.zero).args.toNat)) (by rw [hh',List.length_take];omega)).1
   refine .inl ⟨rfl,l,hgood.stay h.op.now hlt h.callerOf ((h.frs.turn hf' rfl).push hw hb1) (by rw [hb2];rfl) (by simp;omega) s.out hout⟩
 by_cases k12:kd=12
 ·subst k12
  have hta:ta=1:=(h.plain (by omega)).1
  have hr:=h.ret
  obtain ⟨st,v,hsv⟩:=Zeh (l:=t.stack) (by omega)
  rcases List.eq_nil_or_concat fs with rfl | ⟨gs,u,rfl⟩
  ·by_cases hc:c<0
   ·rw [Zrx h.op hsv hc]
    unfold Jv
    split
    ·exact .inr ⟨rfl,.inl rfl⟩
    ·rename_i ho
     have ho':¬ s.out.length=30:=ho
     refine .inl ⟨rfl,[],hgood.over h.op.now hlt h.callerOf hc (s.out++[v]) (by simp;omega)⟩
   ·obtain ⟨m,gs,u,d,e,hne,htop,hfu,hsu,h6⟩:=h.caller (by omega)
    rw [Zri h.op hsv e hne htop]
    obtain ⟨r,_,hg⟩:=hgood.back h.op.now hlt (h.callerOf.trans e) (b:=⟨[],-1⟩) (Zji.2 ⟨rfl,rfl⟩) (by simp) (gs:=gs) (u:=u.stk (u.stack++[v])) (by rw [htop.eq]) (hfu.turn (Zfp hfu.2.1 _) rfl) (by
     show ((u.stack++[v]).length:Int)=hAt p u
     simp;omega) h6
    exact .inl ⟨rfl,_,hg⟩
  ·have hopn:=h.op
   have hfr:=h.frs
   have hfew:=h.few
   rw [List.concat_eq_append] at hopn hfr hfew
   rw [Zwf hopn hsv]
   obtain ⟨hfu,hw⟩:=hfr.pop
   have hsu:(u.stack.length:Int)=hAt p u - 1:=by
    unfold Qp at hw
    simp only [Bool.and_eq_true,decide_eq_true_eq] at hw
    exact hw.1.2
   refine .inl ⟨rfl,l,hgood.stay h.op.now hlt h.callerOf (hfu.turn (Zfp hfu.2.1 (u.stack++[v])) rfl) (by
    show ((u.stack++[v]).length:Int)=hAt p u
    simp;omega) (by simp at hfew;omega) s.out hout⟩
 by_cases k13:kd=13
 ·subst k13
  obtain ⟨n0,n1,n2,n3,n4⟩:=h.names (.inr rfl)
  obtain ⟨e1,e2⟩:=h.plain (by omega)
  have e1:ta=0:=e1
  have e2:lb=1:=e2
  rw [Zsz h.op]
  split
  ·exact .inr ⟨rfl,.inl rfl⟩
  ·rename_i h5
   have h5':=hgood.n5
   obtain ⟨hf',hh'⟩:=h.on (by omega) (by omega) (t.stack++[(s.fibers.length:Int)])
   have hg:=hgood.stay h.op.now hlt h.callerOf (h.frs.turn hf' rfl) (by
    rw [hh']
    show ((t.stack++[(s.fibers.length:Int)]).length:Int)=_
    simp;omega) h.few s.out hout
   obtain ⟨hb1,hb2,hb3⟩:=Znj hgood.prog n0 n1 (vals:=[]) (Int.le_trans n2 n3)
   have hargs:(p.getD a.toNat Fn.zero).args=1:=by
    have hr:=h.right
    unfold opS at hr
    simp only at hr
    rw [if_pos (by omega),if_pos (Wc h.right).2.2] at hr
    split at hr
    ·cases hr
    ·rename_i hh
     rcases Decidable.em ((p.getD a.toNat Fn.zero).args=1) with h1 | h1
     ·exact h1
     ·exact absurd ⟨trivial,h1⟩ hh
   have hfresh:Jy p ⟨[]++[Yn p a []],-1⟩=true:=by
    show ((decide ((Yn p a []).at_=0) && (decide ((p.getD (Yn p a []).fn.toNat Fn.zero).args=1) && decide ((Yn p a []).stack.length=0))) && Ww (Yn p a []).locals)=true
    have e3:(Yn p a []).fn=a:=rfl
    have e4:Ww (Yn p a []).locals=true:=by
     unfold Ww
     rw [List.all_eq_true]
     intro z hz
     have:z∈List.replicate ((p.getD a.toNat Fn.zero).locals.toNat - ([]:List Int).length) (0:Int):=hz
     simp at this
     exact decide_eq_true this.2
    rw [e3,hargs,e4]
    rfl
   have hmore:=hg.more (b:=⟨[]++[Yn p a []],-1⟩) (Pq.2 ⟨⟨by simp,hb1,rfl⟩,by rw [if_neg (by simp),if_neg (by simp)];exact ⟨rfl,.inl hfresh⟩⟩) (by simp) (by
    show (Zh s n _).fibers.length<5
    rw [Xf];omega)
   exact .inl ⟨rfl,l,hmore⟩
 by_cases k14:kd=14
 ·subst k14
  obtain ⟨e1,e2⟩:=h.plain (by omega)
  have e1:ta=2:=e1
  have e2:lb=1:=e2
  obtain ⟨st,x,v,hsv⟩:=Zsm (l:=t.stack) (by omega)
  have hstl:(st.length:Int)+2=t.stack.length:=by rw [hsv];simp
  rw [Zyg h.op hsv,hgood.line.1]
  split
  ·rename_i hix
   obtain ⟨hx0,hx1⟩:=Jq.1 hix
   obtain ⟨m,rfl⟩:∃ m:Nat,x=m:=⟨x.toNat,by omega⟩
   rw [Int.toNat_natCast]
   split
   ·exact .inr ⟨rfl,.inr (.inr (.inl rfl))⟩
   ·rename_i hno
    rw [not_or] at hno
    obtain ⟨hml,hfr⟩:=hno
    simp only [Option.getD_some] at hml
    have hne:n≠m:=by rintro rfl;exact hml (by rw [← h.op.now];exact hgood.now_mem (by rw [h.op.now];omega))
    rw [Jb _ hne] at hfr ⊢
    obtain ⟨hf',hh'⟩:=h.on (by omega) (by omega) st
    have hw:=(Zgz (p:=p) (t:=t) h.at0 h.op.op (st:=st) (by rw [hh'];omega)).2 (by omega)
    have hmlt:m<s.fibers.length:=by omega
    rcases Fb.form (Zc s m) with e | ⟨gs,u,e⟩
    ·rw [e] at hfr;exact absurd rfl hfr
    ·have hfib:=hgood.each m hmlt
     have hfew:=hgood.f6 m hmlt
     have hru:decide ((m:Int)=s.now)=false:=decide_eq_false (by rw [h.op.now];omega)
     rw [e] at hfib hfew
     rw [Pq,hru,decide_eq_false hml,if_neg (by simp),if_neg (by simp)] at hfib
     obtain ⟨hfu,hcm,hcase⟩:=hfib
     have hfm:(Zc s m).frames=gs++[u]:=by rw [e]
     have hform:(⟨(Zc s m).frames,(n:Int)⟩:Fb).turnTop (fun u=>u.got v)=⟨gs++[u.got v],n⟩:=by
      rw [hfm]
      unfold Fb.turnTop Fb.top
      simp
     rw [hform]
     have hgot:Yb p gs (u.got v)∧((u.got v).stack.length:Int)=hAt p (u.got v):=by
      unfold Fr.got
      rcases hcase with hfresh | hwt
      ·unfold Jy at hfresh
       split at hfresh
       ·rename_i y hy
        have hy':gs++[u]=[y]:=hy
        obtain ⟨rfl,rfl⟩:gs=[]∧u=y:=by
         cases gs with
         | nil=>exact ⟨rfl,by simpa using hy'⟩
         | cons a b=>simp at hy'
        simp only [Bool.and_eq_true,decide_eq_true_eq] at hfresh
        obtain ⟨⟨h1,h2,h3⟩,_⟩:=hfresh
        rw [if_pos h1]
        refine ⟨hfu.turn ?_ rfl,?_⟩
        ·have:=hfu.2.1
         unfold Xb at this ⊢
         simp only [List.length_set]
         exact this
        ·show (u.stack.length:Int)=hAt p u
         obtain ⟨hcons,_⟩:=Zei hgood.prog (k:=u.fn.toNat) (by have:=Pp hfu.2.1;omega)
         have:hAt p u=0:=by unfold hAt;rw [h1];exact hcons.first
         omega
       ·cases hfresh
      ·obtain ⟨h1,h2⟩:=Zhj hwt
       rw [if_neg h2]
       refine ⟨hfu.turn (Zfp hfu.2.1 _) rfl,?_⟩
       show ((u.stack++[v]).length:Int)=hAt p u
       simp;omega
     have hg:=hgood.forth h.op.now hlt hmlt hml h.callerOf (h.frs.turn hf' rfl) hw h.few hgot.1 hgot.2 (by simpa using hfew)
     exact .inl ⟨rfl,_,hg⟩
  ·exact .inr ⟨rfl,.inr (.inl rfl)⟩
 by_cases k15:kd=15
 ·subst k15
  obtain ⟨e1,e2⟩:=h.plain (by omega)
  have e1:ta=1:=e1
  have e2:lb=1:=e2
  obtain ⟨st,v,hsv⟩:=Zeh (l:=t.stack) (by omega)
  have hstl:(st.length:Int)+1=t.stack.length:=by rw [hsv];simp
  by_cases hc:c<0
  ·rw [Ztq h.op hc]
   exact .inr ⟨rfl,.inr (.inr (.inr rfl))⟩
  ·obtain ⟨m,gs,u,d,e,hne,htop,hfu,hsu,h6⟩:=h.caller (by omega)
   rw [Xaf h.op hsv e hne htop]
   obtain ⟨hf',hh'⟩:=h.on (by omega) (by omega) st
   have hw:=(Zgz (p:=p) (t:=t) h.at0 h.op.op (st:=st) (by rw [hh'];omega)).2 (by omega)
   obtain ⟨r,_,hg⟩:=hgood.back h.op.now hlt (h.callerOf.trans e) (b:=⟨fs++[t.on.stk st],-1⟩) (Pq.2 ⟨h.frs.turn hf' rfl,by simp [hw]⟩) (by have:=h.few;simpa using this) (gs:=gs) (u:=u.stk (u.stack++[v])) (by rw [htop.eq]) (hfu.turn (Zfp hfu.2.1 _) rfl) (by
     show ((u.stack++[v]).length:Int)=hAt p u
     simp;omega) h6
   exact .inl ⟨rfl,_,hg⟩
 obtain rfl:kd=16:=by omega
 obtain ⟨e1,e2⟩:=h.plain (by omega)
 have e1:ta=1:=e1
 have e2:lb=0:=e2
 obtain ⟨st,v,hsv⟩:=Zeh (l:=t.stack) (by omega)
 have hstl:(st.length:Int)+1=t.stack.length:=by rw [hsv];simp
 rw [Zrb h.op hsv]
 obtain ⟨hf',hh'⟩:=h.on (by omega) (by omega) st
 unfold Jv
 split
 ·exact .inr ⟨rfl,.inl rfl⟩
 ·rename_i ho
  have ho':¬ s.out.length=30:=ho
  exact .inl ⟨rfl,l,hgood.stay h.op.now hlt h.callerOf (h.frs.turn hf' rfl) (by
   rw [hh']
   show (st.length:Int)=_
   omega) h.few (s.out++[v]) (by simp;omega)⟩
end
theorem Zgv {p:List Fn} {s:St} (h:Xa p s=0) (hn:0≤s.now):((Xj p s).2=0∧Xa p (Xj p s).1=0)∨((Xj p s).1=St.zero∧((Xj p s).2=2∨(Xj p s).2=5∨(Xj p s).2=6∨(Xj p s).2=7)):=by
 obtain ⟨l,_,hg⟩:=Zju h
 obtain ⟨n,fs,t,c,kd,a,ta,lb,hr⟩:=hg.runner hn
 rcases hr.ends with ⟨h1,l',h2⟩ | h1
 ·exact .inl ⟨h1,Zrn h2⟩
 ·exact .inr h1
end Go.Proofs.YtblihfpigjiahaaDoor
namespace Go.Proofs.YtblihfpigjiahaaDoor
theorem Zeq {p:List Fn} {s:St} (h:Xa p s=0):Yi s:=by
 obtain ⟨hp,hlim,_⟩:=Zbq h
 obtain ⟨h5,h30,h6,_,_,_⟩:=Zbj hlim
 refine ⟨by omega,by omega,fun b hb=>⟨by have:=h6 b hb;omega,fun f hf=>?_⟩⟩
 obtain ⟨k,hk,rfl⟩:=Zdk hb
 obtain ⟨j,hj,rfl⟩:=List.getElem_of_mem hf
 have e:Ze s k j=(Zc s k).frames[j]:=by simp [Ze,List.getD,hj]
 obtain ⟨h1,h2⟩:=Zmp h hk hj
 rw [e] at h1 h2
 obtain ⟨⟨q1,q2⟩,q3,_⟩:=Pp h1
 have:=(Zem hp (f:=(Zc s k).frames[j].fn.toNat) (by omega)).2.2.1
 exact ⟨by omega,by omega⟩
theorem Zqj:Yi St.zero:=⟨Nat.zero_le _,Nat.zero_le _,fun b hb=>by cases hb⟩
theorem Xbs {p:List Fn} {s:St} (h:Xa p s=0) (hn:0≤s.now):Yi (Xj p s).1:=by
 rcases Zgv h hn with ⟨_,h1⟩ | ⟨h1,_⟩
 ·exact Zeq h1
 ·rw [h1];exact Zqj
theorem Zvp {p:List Fn} {s:St} (h:Xa p s=0) (hn:0≤s.now):OkS p s:=by
 obtain ⟨l,hl,hg⟩:=Zju h
 obtain ⟨n,fs,t,c,kd,a,ta,lb,hr⟩:=hg.runner hn
 have hnn:=hr.op.now
 have hlt:=hr.op.tops.lt
 have hnt:s.now.toNat=n:=by omega
 have htop:s.top=t:=Zcc hr.op.tops hnn
 have hfb:Zc s s.now.toNat=⟨fs++[t],c⟩:=by rw [hnt];exact hr.op.tops.eq
 have hsm:=Zeq h
 obtain ⟨k0,k17⟩:=hr.kind
 obtain ⟨⟨f0,f1⟩,floc,⟨a0,a1⟩,fh⟩:=Pp hr.frs.2.1
 have hst:=hr.stack
 have hhas:=hr.has
 refine ⟨⟨hn,by omega,hg.n5,hg.o30⟩,fun b hb=>?_,by rw [hfb];simp,fun hc=>?_,⟨by rw [hl];rfl,by rw [hl];exact hg.now_mem hn⟩,fun k hk hkl hkf hat=>?_,?_,?_⟩
 ·obtain ⟨k,hk,rfl⟩:=Zdk hb
  exact ⟨⟨hg.f6 k hk,hg.caller hk⟩,(hsm.2.2 _ hb).2⟩
 ·rw [hfb] at hc ⊢
  obtain ⟨m,gs,u,d,e,hne,ht,_⟩:=hr.caller hc
  refine ⟨by show c≠s.now;omega,?_⟩
  have:(Zc s c.toNat).frames=gs++[u]:=by rw [show c.toNat=m by omega,ht.eq]
  show 0<(Zc s c.toNat).frames.length
  rw [this];simp
 ·rw [hl] at hkl
  have hkl':(k:Int) ∉ l:=hkl
  have hfib:=hg.each k hk
  have hru:decide ((k:Int)=s.now)=false:=decide_eq_false (fun e=>hkl' (by rw [e];exact hg.now_mem hn))
  rw [decide_eq_false hkl',hru] at hfib
  rcases Fb.form (Zc s k) with e | ⟨gs,u,e⟩
  ·rw [e] at hkf;simp at hkf
  ·have hu:Ze s k ((Zc s k).frames.length - 1)=u:=by
    unfold Ze
    rw [e]
    simp
   rw [hu] at hat ⊢
   rw [e,Pq,if_neg (by simp),if_neg (by simp)] at hfib
   obtain ⟨hfu,_,hcase⟩:=hfib
   rcases hcase with hfresh | hw
   ·unfold Jy at hfresh
    split at hfresh
    ·rename_i y hy
     have hy':gs++[u]=[y]:=hy
     obtain ⟨rfl,rfl⟩:gs=[]∧u=y:=by
      cases gs with
      | nil=>exact ⟨rfl,by simpa using hy'⟩
      | cons a b=>simp at hy'
     simp only [Bool.and_eq_true,decide_eq_true_eq] at hfresh
     obtain ⟨⟨_,h2,_⟩,_⟩:=hfresh
     obtain ⟨⟨q1,q2⟩,q3,_⟩:=Pp hfu.2.1
     have:=Zem hg.prog (f:=u.fn.toNat) (by omega)
     omega
    ·cases hfresh
   ·exact absurd hat (Zhj hw).2
 ·rw [htop]
  have:=(Zem hg.prog (f:=t.fn.toNat) (by omega)).2.2.2
  exact ⟨f0,by omega,a0,by omega,by omega⟩
 ·rw [htop]
  have hopat:Jz p t=(kd,a):=hr.op.op
  unfold Zhy
  rw [hopat]
  simp only
  refine ⟨?_,hr.local,fun h11=>?_,fun h13=>?_⟩
  ·unfold Zgb
   split
   ·omega
   ·have:ta=tk kd.toNat:=(hr.plain (by omega)).1
    split
    ·rename_i h1 h2
     have:ta=1:=by rcases h2 with rfl | rfl | rfl | rfl | rfl | rfl <;> exact this
     omega
    ·rename_i h1 h2
     have h3:kd=4∨kd=5∨kd=6∨kd=7∨kd=8∨kd=14:=by omega
     have:ta=2:=by rcases h3 with rfl | rfl | rfl | rfl | rfl | rfl <;> exact this
     omega
  ·obtain ⟨n0,n1,n2,n3,n4⟩:=hr.names (.inl h11)
   have h11':kd=11:=h11
   subst h11'
   obtain ⟨_,_,_,he⟩:=Zba hr.right rfl
   rw [hr.eff] at he
   simp only [Prod.mk.injEq] at he
   obtain ⟨e1,_⟩:=he
   exact ⟨n0,by omega,n2,n3,by omega,by omega⟩
  ·obtain ⟨n0,n1,n2,n3,n4⟩:=hr.names (.inr h13)
   exact ⟨n0,by omega,by omega,by omega⟩
theorem Zgm {p:List Fn}:∀ (k:Nat) {s:St},Xa p s=0→Xa p (Jg p k s).1=0
 | 0,_,h=>h
 | k+1,s,h=>by
  by_cases hn:s.now<0
  ·rw [Zdu p _ s (.inr hn)];exact h
  ·rcases Zgv h (by omega) with ⟨h0,h1⟩ | ⟨_,h1⟩
   ·rw [Zjn p k s hn h0];exact Zgm k h1
   ·rw [Zmm p k s hn (by omega)];exact h
theorem Qc.goes {p:List Fn} {s:St} {l:List Int} (h:Qc p s l) (hn:0≤s.now) {m:Nat} (hm:m<s.fibers.length):(m:Int)∈l↔m=0∨(Zc s m).caller≠-1:=by
 constructor
 ·intro hin
  rcases h.path.next _ hin with ⟨_,hl⟩ | hl
  ·left
   rcases h.last with e | e
   ·rw [e] at hin;cases hin
   ·rw [hl] at e;simp at e;omega
  ·right
   have:=h.path.inside _ hl
   have e:Xt s.fibers (m:Int)=(Zc s m).caller:=rfl
   omega
 ·rintro (rfl | hc)
  ·obtain ⟨r,hr⟩:=h.head hn
   rcases h.last with e | e
   ·rw [hr] at e;cases e
   ·exact List.mem_of_getLast? e
  ·rcases Decidable.em ((m:Int)∈l) with h1 | h1
   ·exact h1
   ·exact absurd (h.off hm h1) hc
open Go.RowKit
theorem Zi.turnStack {base bs:Nat} {w w2:World} {V:Key→Value} {s:St} (h:Zi base w bs V s) {i j g cap:Nat} (hi:i<s.fibers.length) (hj:j<(Zc s i).frames.length)
  (hV:V (.frames i)=.slice (some ⟨g,0,none⟩) (Zc s i).frames.length cap) (vs:Value) (l:List Int) (hgrow:w.grownBy w2 (V (.stack i j)).ownBlock) (hown:w2.ownsRow base 3 1 vs l.length (ints l))
  (hat:vs.ownBlock=(V (.stack i j)).ownBlock∨vs.ownBlock=some w.heap.size) :
  Zi base (w2.setCell ⟨g,j*4+3,none⟩ vs) bs (upd V (.stack i j) vs) (Qu s i j { Ze s i j with stack:=l })∧Below base w (w2.setCell ⟨g,j*4+3,none⟩ vs):=by
 have hlS:live s (.stack i j):=⟨hi,hj⟩
 have hlF:live s (.frames i):=hi
 have hgb:(V (.frames i)).ownBlock=some g:=by rw [hV];rfl
 have hbsw:=lt_of_block h.var
 have hbsg:bs≠g:=fun e=>h.off _ hlF (by rw [hgb,e])
 have hgblk:=(h.own.piece _ hlF).block g hgb
 have hown':=h.own.turnFrame (w1:=w2) hi hj hV vs { Ze s i j with stack:=l } 3 vs (by omega) (fun b hb hne=>hgrow.block b hb (fun e=>hne e.symm)) hown hat rfl rfl rfl rfl rfl
 refine ⟨h.turn hown' ?_ (Zp V vs (by simp)) (Zp V vs (by simp)) rfl ?_,?_⟩
 ·rw [Below.heap_setCell _ _ _ _ hbsg]
  exact hgrow.block bs hbsw (fun e=>h.off _ hlS e.symm)
 ·intro k hk e
  by_cases hkS:k=.stack i j
  ·subst hkS
   rw [Qk] at e
   rcases hat with e' | e'
   ·exact h.off _ hlS (by rw [← e',e])
   ·rw [e] at e';cases e';omega
  ·rw [Zp V vs hkS] at e
   exact h.off k ((We _ hi k).1 hk) e
 ·refine Below.setCell (Below.grown (Below.refl _ w) hgrow (by omega) (fun r hr=>?_)) hgblk.1 _
  exact ((h.own.piece _ hlS).block r hr).1
theorem Zci {l:List Int} {i:Nat} {z:Int} (h:l[i]?=some z):(ints l)[i]?=some (.int .i64 z):=by simp [ints,h]
theorem Zze {w:World} {base:Nat} {g cap n:Nat} {l:List Int} (h:w.ownsRow base 3 1 (.slice (some ⟨g,0,none⟩) n cap) n (ints l)) (hn:n=l.length) (m:Nat) (hm:m≤n):w.ownsRow base 3 1 (.slice (some ⟨g,0,none⟩) m cap) m (ints (l.take m)):=by
 subst hn
 refine ⟨by rw [Zcw,List.length_take];omega,?_⟩
 rcases h.2 with ⟨h',_⟩ | ⟨g',cap',cur,h',hb,hgh,hnc,hcm,hcs,htake⟩
 ·simp at h'
 ·simp only [Value.slice.injEq,Option.some.injEq,Addr.mk.injEq,and_true,true_and] at h'
  obtain ⟨rfl,rfl⟩:=h'
  refine .inr ⟨g,cap,cur,rfl,hb,hgh,by omega,hcm,hcs,?_⟩
  have:ints (l.take m)=(ints l).take m:=by simp [ints,List.map_take]
  rw [this,← htake,List.take_take]
  congr 1
  omega
theorem Zsj (w:World) (row:Option Nat):w.grownBy w row:=⟨rfl,rfl,rfl,Nat.le_refl _,fun _ _ _=>rfl⟩
theorem Zi.turnOut {base bs:Nat} {w w2:World} {V:Key→Value} {s:St} (h:Zi base w bs V s) (l:List Int) (vo:Value) (hgrow:w.grownBy w2 (V .out).ownBlock) (hown:w2.ownsRow base 3 1 vo l.length (ints l)) (hat:vo.ownBlock=(V .out).ownBlock∨vo.ownBlock=some w.heap.size) :
  Zi base (w2.setCell ⟨bs,2,none⟩ vo) bs (upd V .out vo) { s with out:=l }∧Below base w (w2.setCell ⟨bs,2,none⟩ vo):=by
 have hbsw:=lt_of_block h.var
 have hown':=h.own.turnOut l vo hown (fun b hb hne=>hgrow.block b hb (fun e=>hne e.symm)) hat
 have hoff':Own.off (upd V .out vo) { s with out:=l } bs:=by
  intro k hk e
  by_cases hko:k=.out
  ·subst hko
   rw [Qk] at e
   rcases hat with e' | e'
   ·exact h.off .out trivial (by rw [← e',e])
   ·rw [e] at e';cases e';omega
  ·rw [Zp V vo hko] at e
   exact h.off k (by cases k using Key.by <;> exact hk) e
 refine ⟨⟨?_,hown'.setOff (a:=⟨bs,2,none⟩) hoff' _,hoff',h.low⟩,?_⟩
 ·have hb2:w2.heap[bs]?=some (.cells #[V .fibers,.int .i64 s.now,V .out] 26):=(hgrow.block bs hbsw (fun e=>h.off .out trivial e.symm)).trans h.var
  rw [Qk,Zp V vo (by simp)]
  simp [World.setCell,Array.getElem?_modify,hb2]
 ·refine Below.setCell (Below.grown (Below.refl _ w) hgrow ?_ (fun r hr=>((h.own.piece .out trivial).block r hr).1)) h.low _
  have:=h.low
  omega
end Go.Proofs.YtblihfpigjiahaaDoor
namespace Go.Proofs.YtblihfpigjiahaaDoor
open Go.RowKit
structure Xr (base bs:Nat) (V:Key→Value) (s:St) (w:World) (V':Key→Value) (s':St) (w':World):Prop where
 own:Zi base w' bs V' s'
 os:w'.os=w.os
 tape:w'.tape=w.tape
 output:w'.output=w.output
 size:w.heap.size≤w'.heap.size
 keep:∀ b,b<w.heap.size→b≠bs→Own.off V s b→w'.heap[b]?=w.heap[b]?
 off:∀ b,b<w.heap.size→Own.off V s b→Own.off V' s' b
section
variable {base bs:Nat} {V V' V'':Key→Value} {s s' s'':St} {w w' w'':World}
theorem Xr.of_kept (h:Zi base w bs V s) (k:Zb w w'):Xr base bs V s w V s w' :=
 ⟨h.kept k,k.os,k.tape,k.output,k.size,fun b hb _ _=>k.block b hb,fun _ _ h=>h⟩
theorem Xr.refl (h:Zi base w bs V s):Xr base bs V s w V s w:=.of_kept h (Zb.refl w)
theorem Xr.trans (h:Xr base bs V s w V' s' w') (k:Xr base bs V' s' w' V'' s'' w''):Xr base bs V s w V'' s'' w'' :=
 ⟨k.own,k.os.trans h.os,k.tape.trans h.tape,k.output.trans h.output,Nat.le_trans h.size k.size,fun b hb hn ho=>(k.keep b (Nat.lt_of_lt_of_le hb h.size) hn (h.off b hb ho)).trans (h.keep b hb hn ho),fun b hb ho=>k.off b (Nat.lt_of_lt_of_le hb h.size) (h.off b hb ho)⟩
theorem Xr.kept (h:Xr base bs V s w V' s' w') (k:Zb w' w''):Xr base bs V s w V' s' w'':=h.trans (.of_kept h.own k)
theorem Xr.pre {w0:World} (h:Xr base bs V s w V' s' w') (h0:Zi base w0 bs V s) (k:Zb w0 w):Xr base bs V s w0 V' s' w':=(Xr.of_kept h0 k).trans h
theorem Xr.below (h:Xr base bs V s w V' s' w') (h0:Zi base w bs V s):Below base w w' :=
 ⟨h.os,h.tape,h.output,h.size,fun b hb=>h.keep b (by have:=h0.low;have:=lt_of_block h0.var;omega) (by have:=h0.low;omega) (fun k hk e=>by have:=((h0.own.piece k hk).block b e).1;omega)⟩
theorem Xr.lays (h:Xr base bs V s w V' s' w') {b:Nat} {o:Obj} (hb:w.heap[b]?=some o) (hn:b≠bs) (ho:Own.off V s b):w'.heap[b]?=some o :=
 (h.keep b (Array.getElem?_eq_some_iff.1 hb).1 hn ho).trans hb
theorem Xr.set {g i:Nat} {v:Value} (h':Zi base (w.setCell ⟨g,i,none⟩ v) bs V' s') (hg:g=bs∨∃ k,live s k∧(V k).ownBlock=some g)
  (ho:∀ k b,live s' k→(V' k).ownBlock=some b→∃ k',live s k'∧(V k').ownBlock=some b):Xr base bs V s w V' s' (w.setCell ⟨g,i,none⟩ v):=by
 refine ⟨h',rfl,rfl,rfl,by simp [World.setCell],fun b hb hn hoff=>Below.heap_setCell _ _ _ _ (fun e=>?_),fun b hb hoff k hk e=>?_⟩
 ·have e:b=g:=e
  rcases hg with hg | ⟨k,hk,hg⟩
  ·exact hn (e.trans hg)
  ·exact hoff k hk (by rw [hg,e])
 ·obtain ⟨k',hk',e'⟩:=ho k b hk e
  exact hoff k' hk' e'
theorem Xr.grow {w2:World} {K:Key} (hK:live s K) (hgrow:w.grownBy w2 (V K).ownBlock) {g i:Nat} {v:Value} (h':Zi base (w2.setCell ⟨g,i,none⟩ v) bs V' s') (hg:g=bs∨∃ k,live s k∧(V k).ownBlock=some g)
  (ho:∀ k b,live s' k→(V' k).ownBlock=some b→b<w.heap.size→∃ k',live s k'∧(V k').ownBlock=some b):Xr base bs V s w V' s' (w2.setCell ⟨g,i,none⟩ v):=by
 refine ⟨h',hgrow.os,hgrow.tape,hgrow.output,by simpa [World.setCell] using hgrow.size,fun b hb hn hoff=>?_,fun b hb hoff k hk e=>?_⟩
 ·rw [Below.heap_setCell _ _ _ _ (fun e=>?_)]
  ·exact hgrow.block b hb (fun e=>hoff K hK e.symm)
  ·have e:b=g:=e
   rcases hg with hg | ⟨k,hk,hg⟩
   ·exact hn (e.trans hg)
   ·exact hoff k hk (by rw [hg,e])
 ·obtain ⟨k',hk',e'⟩:=ho k b hk e hb
  exact hoff k' hk' e'
theorem Zi.new (h:Zi base w bs V s) {b:Nat} (hb:w.heap.size≤b):b≠bs∧Own.off V s b :=
 ⟨by have:=lt_of_block h.var;omega,h.own.new_off (.inl hb)⟩
theorem Xr.drew (h:Xr base bs V s w V' s' w'):Xr base bs V s w V' s' w'.drew:=h.kept (Zb.refl _).drew
theorem Xr.setAt (h:Zi base w bs V s) {i j g cap:Nat} (hi:i<s.fibers.length) (hj:j<(Zc s i).frames.length) (hV:V (.frames i)=.slice (some ⟨g,0,none⟩) (Zc s i).frames.length cap) (a:Int) :
  Xr base bs V s w V (Qu s i j { Ze s i j with at_:=a }) (w.setCell ⟨g,j*4+1,none⟩ (.int .i64 a)) :=
 .set (h.setAt hi hj hV a).1 (.inr ⟨.frames i,hi,by rw [hV];rfl⟩) (fun k b hk e=>⟨k,(We _ hi k).1 hk,e⟩)
theorem Xr.setLocal (h:Zi base w bs V s) {i j g cap q:Nat} (hi:i<s.fibers.length) (hj:j<(Zc s i).frames.length) (hV:V (.locals i j)=.slice (some ⟨g,0,none⟩) (Ze s i j).locals.length cap) (z:Int) :
  Xr base bs V s w V (Qu s i j { Ze s i j with locals:=(Ze s i j).locals.set q z }) (w.setCell ⟨g,q,none⟩ (.int .i64 z)) :=
 .set (h.setLocal hi hj hV z).1 (.inr ⟨.locals i j,⟨hi,hj⟩,by rw [hV];rfl⟩) (fun k b hk e=>⟨k,(We _ hi k).1 hk,e⟩)
theorem Xr.setNow (h:Zi base w bs V s) (n:Int):Xr base bs V s w V { s with now:=n } (w.setCell ⟨bs,1,none⟩ (.int .i64 n)) :=
 .set (h.setNow n) (.inl rfl) (fun k b hk e=>⟨k,by cases k using Key.by <;> exact hk,e⟩)
theorem Zmj {s:St} {i:Nat} {b:Fb} (hi:i<s.fibers.length) (hb:b.frames.length≤(Zc s i).frames.length) (k:Key) (hk:live (Zh s i b) k):live s k:=by
 have hfl:∀ t,(Zc (Zh s i b) t).frames.length≤(Zc s t).frames.length:=fun t=>by
  by_cases e:i=t
  ·subst e;rw [Qg _ hi];exact hb
  ·rw [Jb _ e];exact Nat.le_refl _
 cases k using Key.by with
 | fibers=>trivial
 | out=>trivial
 | frames t=>simpa only [live,Xf] using hk
 | locals t q=>simp only [live,Xf] at hk ⊢;exact ⟨hk.1,Nat.lt_of_lt_of_le hk.2 (hfl t)⟩
 | stack t q=>simp only [live,Xf] at hk ⊢;exact ⟨hk.1,Nat.lt_of_lt_of_le hk.2 (hfl t)⟩
theorem Xr.setCaller (h:Zi base w bs V s) {i g cap:Nat} (hi:i<s.fibers.length) (hV:V .fibers=.slice (some ⟨g,0,none⟩) s.fibers.length cap) (c:Int) :
  Xr base bs V s w V (Zh s i { Zc s i with caller:=c }) (w.setCell ⟨g,i*2+1,none⟩ (.int .i64 c)) :=
 .set (h.setCaller hi hV c).1 (.inr ⟨.fibers,trivial,by rw [hV];rfl⟩) (fun k b hk e=>⟨k,Zmj (b:={ Zc s i with caller:=c }) hi (Nat.le_refl _) k hk,e⟩)
theorem Xr.dropFrame (h:Zi base w bs V s) {i gF capF g cap:Nat} (hi:i<s.fibers.length)
  (hF:V .fibers=.slice (some ⟨gF,0,none⟩) s.fibers.length capF) (hV:V (.frames i)=.slice (some ⟨g,0,none⟩) (Zc s i).frames.length cap) :
  Xr base bs V s w (upd V (.frames i) (.slice (some ⟨g,0,none⟩) ((Zc s i).frames.length - 1) cap)) (Zh s i { Zc s i with frames:=(Zc s i).frames.dropLast }) (w.setCell ⟨gF,i*2,none⟩ (.slice (some ⟨g,0,none⟩) ((Zc s i).frames.length - 1) cap)):=by
 refine .set (h.dropFrame hi hF hV).1 (.inr ⟨.fibers,trivial,by rw [hF];rfl⟩) (fun k b hk e=>?_)
 have hl:=Zmj (b:={ Zc s i with frames:=(Zc s i).frames.dropLast }) hi (by simp) k hk
 by_cases hkf:k=.frames i
 ·subst hkf
  rw [Qk] at e
  exact ⟨_,hl,by rw [hV];exact e⟩
 ·rw [Zp V _ hkf] at e
  exact ⟨k,hl,e⟩
theorem Xr.turnStack {w2:World} (h:Zi base w bs V s) {i j g cap:Nat} (hi:i<s.fibers.length) (hj:j<(Zc s i).frames.length) (hV:V (.frames i)=.slice (some ⟨g,0,none⟩) (Zc s i).frames.length cap) (vs:Value) (l:List Int)
  (hgrow:w.grownBy w2 (V (.stack i j)).ownBlock) (hown:w2.ownsRow base 3 1 vs l.length (ints l)) (hat:vs.ownBlock=(V (.stack i j)).ownBlock∨vs.ownBlock=some w.heap.size) :
  Xr base bs V s w (upd V (.stack i j) vs) (Qu s i j { Ze s i j with stack:=l }) (w2.setCell ⟨g,j*4+3,none⟩ vs):=by
 refine .grow (K:=.stack i j) ⟨hi,hj⟩ hgrow (h.turnStack hi hj hV vs l hgrow hown hat).1 (.inr ⟨.frames i,hi,by rw [hV];rfl⟩) (fun k b hk e hb=>?_)
 have hl:=(We _ hi k).1 hk
 by_cases hks:k=.stack i j
 ·subst hks
  rw [Qk] at e
  rcases hat with h1 | h1
  ·exact ⟨_,hl,by rw [← h1];exact e⟩
  ·rw [e] at h1;cases h1;omega
 ·rw [Zp V _ hks] at e
  exact ⟨k,hl,e⟩
theorem Xr.turnOut {w2:World} (h:Zi base w bs V s) (l:List Int) (vo:Value) (hgrow:w.grownBy w2 (V .out).ownBlock) (hown:w2.ownsRow base 3 1 vo l.length (ints l)) (hat:vo.ownBlock=(V .out).ownBlock∨vo.ownBlock=some w.heap.size) :
  Xr base bs V s w (upd V .out vo) { s with out:=l } (w2.setCell ⟨bs,2,none⟩ vo):=by
 refine .grow (K:=.out) trivial hgrow (h.turnOut l vo hgrow hown hat).1 (.inl rfl) (fun k b hk e hb=>?_)
 have hl:live s k:=by cases k using Key.by <;> exact hk
 by_cases hks:k=.out
 ·subst hks
  rw [Qk] at e
  rcases hat with h1 | h1
  ·exact ⟨_,hl,by rw [← h1];exact e⟩
  ·rw [e] at h1;cases h1;omega
 ·rw [Zp V _ hks] at e
  exact ⟨k,hl,e⟩
structure Zaf (bs:Nat) (V:Key→Value) (s:St) (w w':World):Prop where
 os:w'.os=w.os
 tape:w'.tape=w.tape
 output:w'.output=w.output
 size:w.heap.size≤w'.heap.size
 keep:∀ b,b<w.heap.size→b≠bs→Own.off V s b→w'.heap[b]?=w.heap[b]?
theorem Zaf.of_kept (k:Zb w w'):Zaf bs V s w w':=⟨k.os,k.tape,k.output,k.size,fun b hb _ _=>k.block b hb⟩
theorem Xr.past (h:Xr base bs V s w V' s' w') (k:Zaf bs V' s' w' w''):Zaf bs V s w w'' :=
 ⟨k.os.trans h.os,k.tape.trans h.tape,k.output.trans h.output,Nat.le_trans h.size k.size,fun b hb hn ho=>(k.keep b (Nat.lt_of_lt_of_le hb h.size) hn (h.off b hb ho)).trans (h.keep b hb hn ho)⟩
theorem Zaf.below (h:Zaf bs V s w w') (h0:Zi base w bs V s):Below base w w' :=
 ⟨h.os,h.tape,h.output,h.size,fun b hb=>h.keep b (by have:=h0.low;have:=lt_of_block h0.var;omega) (by have:=h0.low;omega) (fun k hk e=>by have:=((h0.own.piece k hk).block b e).1;omega)⟩
theorem Zaf.lays (h:Zaf bs V s w w') {b:Nat} {o:Obj} (hb:w.heap[b]?=some o) (hn:b≠bs) (ho:Own.off V s b):w'.heap[b]?=some o :=
 (h.keep b (Array.getElem?_eq_some_iff.1 hb).1 hn ho).trans hb
end
end Go.Proofs.YtblihfpigjiahaaDoor
namespace Go.Proofs.YtblihfpigjiahaaDoor
open Go.RowKit
theorem Yp {o:Oper} {a:Act} {K:Act→World→Prop} {Q:Exit→Act→World→Prop} (w:World) (s x:Operand) (t:TypeId)
  (ho:o.op=.call { callee:=.builtin .append,args:=#[s,x],argTypes:=#[t,t] }) {v u v':Value} {w':World} (hs:a.eval s=v) (hx:a.eval x=u)
  (hr:(Builtin.append_ #[t,t] o.type #[v,u]).run Tryd.prog w=.ok v' w') (h:K (a.put o.dst v') w'):o.wp Tryd.prog a w K Q:=by
 unfold Oper.wp execOp
 simp only [ho,resolve,invoke,builtin,Sem.run_bind,Sem.run_pure,Result.andThen_ok,List.map_toArray,List.map_cons,List.map_nil,hs,hx,hr]
 exact h
theorem Zai {ops:Array Oper} {rest:List Oper} {o:Oper} {a:Act} {Q:Exit→Act→World→Prop} (w:World) (hgd:o.guard=none) (s x:Operand) (t:TypeId)
  (ho:o.op=.call { callee:=.builtin .append,args:=#[s,x],argTypes:=#[t,t] }) {v u v':Value} {w':World} (hs:a.eval s=v) (hx:a.eval x=u)
  (hr:(Builtin.append_ #[t,t] o.type #[v,u]).run Tryd.prog w=.ok v' w') (h:wpList Tryd.prog ops Q rest (a.put o.dst v') w'):wpList Tryd.prog ops Q (o :: rest) a w :=
 wpList_plain hgd fun _ hK=>Yp w s x t ho hs hx hr (hK _ _ h)
theorem Zik {w:World} {base base':Nat} {e:TypeId} {size:Nat} {v:Value} {n:Nat} {xs ys:List Value} (h:w.ownsRow base e size v n xs) (h':w.ownsRow base' e size v n ys):xs=ys:=by
 rcases h with ⟨l,⟨rfl,rfl⟩ | ⟨g,cap,cur,rfl,_,hg,_,_,_,ht⟩⟩
 ·have l':=h'.1
  simp at l l'
  rw [l,l']
 ·rcases h' with ⟨_,⟨h0,_⟩ | ⟨g',cap',cur',e',_,hg',_,_,_,ht'⟩⟩
  ·cases h0
  ·simp only [Value.slice.injEq,Option.some.injEq,Addr.mk.injEq] at e'
   obtain ⟨⟨rfl,_⟩,_⟩:=e'
   rw [hg] at hg'
   obtain rfl:cur=cur':=by simpa using hg'
   rw [← ht,ht']
end Go.Proofs.YtblihfpigjiahaaDoor
