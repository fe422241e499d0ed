/- GoodA, GoodB, GoodC -/
import Derived.Test.YtblihfpigjiahaaDoorWB22
set_option maxRecDepth 100000
set_option maxHeartbeats 8000000
namespace Go.Proofs.YtblihfpigjiahaaDoor
def Wh (fs:List Fb):Int→List Int→Prop
 | n,[]=>n=-1
 | n,x :: r=>n=x∧0≤x∧x<fs.length∧Wh fs (Xt fs x) r
theorem Zkx {fs:List Fb} (hc:∀ b,b∈fs→-1≤b.caller∧b.caller<fs.length):∀ (k:Nat) (n:Int) (acc l:List Int),Xz fs k n acc=some l→-1≤n→n<fs.length→acc.Nodup→∃ r,l=acc++r∧Wh fs n r∧l.Nodup
 | 0,_,_,_,h,_,_,_=>by cases h
 | k+1,n,acc,l,h,h1,h2,hd=>by
  unfold Xz at h
  split at h
  ·obtain rfl:=Option.some.inj h
   exact ⟨[],by simp,by show n=-1;omega,hd⟩
  ·split at h
   ·cases h
   ·rename_i hn hna
    have hc':-1≤Xt fs n∧Xt fs n<fs.length:=hc _ (List.mem_of_getElem? (Zq fs n.toNat Fb.zero (by omega)))
    obtain ⟨r,e,hp,hl⟩:=Zkx hc k _ _ l h hc'.1 hc'.2 (by
     rw [List.nodup_append]
     refine ⟨hd,by simp,fun a ha b hb e=>?_⟩
     simp only [List.mem_singleton] at hb
     subst hb e
     exact hna ha)
    exact ⟨n :: r,by rw [e];simp,⟨rfl,by omega,h2,hp⟩,hl⟩
theorem Zkp {fs:List Fb}:∀ (k:Nat) (n:Int) (acc r:List Int),Wh fs n r→(acc++r).Nodup→r.length<k→Xz fs k n acc=some (acc++r)
 | 0,_,_,_,_,_,h=>by omega
 | k+1,n,acc,[],hp,_,_=>by
  have:n=-1:=hp
  unfold Xz
  rw [if_pos (by omega)]
  simp
 | k+1,n,acc,x :: r,hp,hd,hk=>by
  obtain ⟨rfl,h0,_,hp'⟩:=hp
  have hna:n ∉ acc:=fun h=>(List.nodup_append.1 hd).2.2 n h n (by simp) rfl
  unfold Xz
  rw [if_neg (by omega),if_neg hna]
  have:=Zkp k (Xt fs n) (acc++[n]) r hp' (by simpa using hd) (by simpa using hk)
  simpa using this
theorem Wh.inside {fs:List Fb}:∀ {n:Int} {l:List Int},Wh fs n l→∀ z,z∈l→0≤z∧z<fs.length
 | _,[],_,z,hz=>by cases hz
 | _,x :: r,⟨_,h0,h1,h2⟩,z,hz=>by
  rcases List.mem_cons.1 hz with rfl | hz
  ·exact ⟨h0,h1⟩
  ·exact h2.inside z hz
theorem Wh.congr {fs fs':List Fb} (hl:fs.length≤fs'.length):∀ {n:Int} {l:List Int},Wh fs n l→(∀ z,z∈l→Xt fs' z=Xt fs z)→Wh fs' n l
 | _,[],h,_=>h
 | _,x :: r,⟨h0,h1,h2,h3⟩,hc=>⟨h0,h1,by omega,by rw [hc x (by simp)];exact h3.congr hl (fun z hz=>hc z (List.mem_cons_of_mem _ hz))⟩
theorem Wh.range {fs:List Fb} {n:Int} {l:List Int} (h:Wh fs n l):-1≤n∧(n<fs.length∨n=-1):=by
 cases l with
 | nil=>have:n=-1:=h;omega
 | cons x r=>obtain ⟨rfl,h0,h1,_⟩:=h;omega
theorem Wh.next {fs:List Fb}:∀ {n:Int} {l:List Int},Wh fs n l→∀ z,z∈l→(Xt fs z=-1∧l.getLast?=some z)∨(Xt fs z∈l)
 | _,[],_,z,hz=>by cases hz
 | _,x :: r,⟨_,_,_,h3⟩,z,hz=>by
  rcases List.mem_cons.1 hz with rfl | hz
  ·cases r with
   | nil=>exact .inl ⟨h3,rfl⟩
   | cons y r'=>obtain ⟨h4,_⟩:=h3;right;rw [h4];simp
  ·rcases h3.next z hz with ⟨h4,h5⟩ | h4
   ·refine .inl ⟨h4,?_⟩
    cases r with
    | nil=>cases hz
    | cons y r'=>rw [List.getLast?_cons_cons];exact h5
   ·exact .inr (List.mem_cons_of_mem _ h4)
structure Qc (p:List Fn) (s:St) (l:List Int):Prop where
 prog:Xh p=0
 n5:s.fibers.length≤5
 o30:s.out.length≤30
 f6:∀ k,k<s.fibers.length→(Zc s k).frames.length≤6
 path:Wh s.fibers s.now l
 nodup:l.Nodup
 last:l=[]∨l.getLast?=some 0
 pos:0<s.fibers.length
 main:(0:Int) ∉ l→(Zc s 0).frames=[]
 each:∀ k,k<s.fibers.length→Jd p (Zc s k) (decide ((k:Int)∈l)) (decide ((k:Int)=s.now))=true
theorem Zdk {s:St} {b:Fb} (h:b∈s.fibers):∃ k,k<s.fibers.length∧Zc s k=b:=by
 obtain ⟨k,hk,rfl⟩:=List.getElem_of_mem h
 exact ⟨k,hk,by simp [Zc,List.getD,hk]⟩
theorem Zju {p:List Fn} {s:St} (h:Xa p s=0):∃ l,Qj s=some l∧Qc p s l:=by
 obtain ⟨hp,hlim,hf⟩:=Zbq h
 obtain ⟨l,hl,hfib⟩:=Zjo h
 obtain ⟨h5,h30,h6,hpos,⟨hn1,hn2⟩,hcal⟩:=Zbj hlim
 have hl':=hl
 unfold Qj at hl'
 cases hlf:Xz s.fibers (s.fibers.length+1) s.now [] with
 | none=>rw [hlf] at hl';cases hl'
 | some l' =>
  rw [hlf] at hl'
  simp only at hl'
  split at hl'
  ·rename_i hlast
   obtain rfl:=Option.some.inj hl'
   obtain ⟨r,e,hpath,hnd⟩:=Zkx hcal _ _ _ _ hlf hn1 hn2 List.nodup_nil
   rw [List.nil_append] at e
   subst e
   refine ⟨_,hl,hp,h5,h30,fun k hk=>h6 _ (Zfe k hk),hpath,hnd,hlast,hpos,fun h0=>?_,hfib⟩
   unfold Yo at hf
   rw [hl] at hf
   simp only [Bool.and_eq_true] at hf
   have:=Uc.1 hf.2 0 hpos
   simp only [Bool.and_eq_true,decide_true,Bool.true_and] at this
   have h2:=this.2
   rw [decide_eq_false h0] at h2
   have h3:(s.fibers.getD 0 Fb.zero).frames.isEmpty=true:=by simpa using h2
   exact List.isEmpty_iff.1 h3
  ·cases hl'
theorem Xac {p:List Fn} {b:Fb} {r:Bool} (h:Jd p b false r=true) (hr:r=false):b.caller=-1:=by
 subst hr
 unfold Jd at h
 split at h
 ·simpa using h
 ·simp only [Bool.and_eq_true,Bool.false_eq_true,if_false,decide_eq_true_eq] at h
  exact h.2.1
theorem Qc.head {p:List Fn} {s:St} {l:List Int} (h:Qc p s l) (hn:0≤s.now):∃ r,l=s.now :: r:=by
 have hp:=h.path
 cases l with
 | nil=>have:s.now=-1:=hp;omega
 | cons x r=>obtain ⟨h1,_⟩:=hp;exact ⟨r,by rw [h1]⟩
theorem Qc.now_mem {p:List Fn} {s:St} {l:List Int} (h:Qc p s l) (hn:0≤s.now):s.now∈l:=by
 obtain ⟨r,rfl⟩:=h.head hn;simp
theorem Qc.off {p:List Fn} {s:St} {l:List Int} (h:Qc p s l) {k:Nat} (hk:k<s.fibers.length) (hm:(k:Int) ∉ l):(Zc s k).caller=-1:=by
 have:=h.each k hk
 rw [decide_eq_false hm] at this
 refine Xac this (decide_eq_false fun e=>hm ?_)
 rw [e];exact h.now_mem (by omega)
theorem Qc.caller {p:List Fn} {s:St} {l:List Int} (h:Qc p s l) {k:Nat} (hk:k<s.fibers.length):-1≤(Zc s k).caller∧(Zc s k).caller<s.fibers.length:=by
 by_cases hm:(k:Int)∈l
 ·rcases h.path.next _ hm with ⟨e,_⟩ | e
  ·have:(Zc s k).caller=-1:=e
   omega
  ·have h1:=h.path.inside _ e
   have:Xt s.fibers (k:Int)=(Zc s k).caller:=rfl
   omega
 ·have:=h.off hk hm
  omega
theorem Qc.line {p:List Fn} {s:St} {l:List Int} (h:Qc p s l):Xz s.fibers (s.fibers.length+1) s.now []=some l∧Qj s=some l:=by
 have hlen:l.length≤s.fibers.length:=few h.nodup h.path.inside
 have h1:Xz s.fibers (s.fibers.length+1) s.now []=some l:=by
  have:=Zkp (fs:=s.fibers) (s.fibers.length+1) s.now [] l h.path (by simpa using h.nodup) (by omega)
  simpa using this
 refine ⟨h1,?_⟩
 unfold Qj
 rw [h1]
 simp only
 rw [if_pos h.last]
theorem Qc.lim {p:List Fn} {s:St} {l:List Int} (h:Qc p s l):Qt s=0:=by
 have hr:=h.path.range
 unfold Qt
 rw [if_pos ⟨h.n5,h.o30⟩,if_pos,if_pos h.pos,if_pos,if_pos]
 ·rw [List.all_eq_true]
  intro b hb
  obtain ⟨k,hk,rfl⟩:=Zdk hb
  have:=h.caller hk
  rw [Zbb];omega
 ·rw [Zbb]
  have:=h.pos
  rcases hr.2 with h1 | h1 <;> omega
 ·rw [List.all_eq_true]
  intro b hb
  obtain ⟨k,hk,rfl⟩:=Zdk hb
  exact decide_eq_true (h.f6 k hk)
theorem Zrn {p:List Fn} {s:St} {l:List Int} (h:Qc p s l):Xa p s=0:=by
 unfold Xa
 rw [if_pos h.prog,if_pos h.lim,if_pos]
 unfold Yo
 rw [h.line.2]
 simp only [Bool.and_eq_true]
 have hmain:(0:Int) ∉ l→(s.fibers.getD 0 Fb.zero).frames.isEmpty=true:=fun h0=>List.isEmpty_iff.2 (h.main h0)
 constructor
 ·by_cases hn:s.now=-1
  ·have:l=[]:=by
    have hp:=h.path
    cases l with
    | nil=>rfl
    | cons x r=>obtain ⟨h1,h2,_⟩:=hp;omega
   rw [hmain (by rw [this];simp)]
   simp
  ·rw [decide_eq_false hn];rfl
 ·rw [Uc]
  intro k hk
  simp only [Bool.and_eq_true]
  refine ⟨h.each k hk,?_⟩
  by_cases h0:k=0
  ·by_cases hm:(0:Int)∈l
   ·rw [decide_eq_true hm];simp
   ·rw [hmain hm];simp
  ·rw [decide_eq_false h0];rfl
theorem Zeb {p:List Fn}:∀ (l:List Fr) (u t:Fr),Qz p (l++[u,t])=(Qz p (l++[u]) && Qp p u (11,t.fn))
 | [],u,t=>by simp [Qz]
 | [x],u,t=>by simp [Qz]
 | x :: y :: l,u,t=>by
  have:=Zeb (p:=p) (y :: l) u t
  simp only [List.cons_append,Qz] at this ⊢
  rw [this,Bool.and_assoc]
theorem Ztp {p:List Fn} (l:List Fr) (t t':Fr) (h:t'.fn=t.fn):Qz p (l++[t'])=Qz p (l++[t]):=by
 rcases List.eq_nil_or_concat l with rfl | ⟨l',u,rfl⟩
 ·rfl
 ·simp only [List.concat_eq_append,List.append_assoc,List.cons_append,List.nil_append]
  rw [Zeb,Zeb,h]
def Yb (p:List Fn) (fs:List Fr) (t:Fr):Prop:=(∀ f,f∈fs→Xb p f=true)∧Xb p t=true∧Qz p (fs++[t])=true
theorem Yb.bool {p:List Fn} {fs:List Fr} {t:Fr}:Ua p (fs++[t])=true↔Yb p fs t:=by
 rw [Zea]
 unfold Yb
 simp only [List.all_append,List.all_cons,List.all_nil,Bool.and_true,Bool.and_eq_true,List.all_eq_true]
 exact and_assoc
theorem Yb.turn {p:List Fn} {fs:List Fr} {t t':Fr} (h:Yb p fs t) (ht:Xb p t'=true) (hf:t'.fn=t.fn):Yb p fs t':=⟨h.1,ht,by rw [Ztp _ _ _ hf];exact h.2.2⟩
theorem Yb.push {p:List Fn} {fs:List Fr} {t u:Fr} (h:Yb p fs t) (hw:Qp p t (11,u.fn)=true) (hu:Xb p u=true):Yb p (fs++[t]) u:=by
 refine ⟨fun f hf=>?_,hu,?_⟩
 ·rcases List.mem_append.1 hf with hf | hf
  ·exact h.1 f hf
  ·rw [List.mem_singleton.1 hf];exact h.2.1
 ·rw [List.append_assoc]
  show Qz p (fs++[t,u])=true
  rw [Zeb,h.2.2,hw];rfl
theorem Yb.pop {p:List Fn} {fs:List Fr} {t u:Fr} (h:Yb p (fs++[t]) u):Yb p fs t∧Qp p t (11,u.fn)=true:=by
 obtain ⟨h1,_,h3⟩:=h
 rw [List.append_assoc] at h3
 have h3':Qz p (fs++[t,u])=true:=h3
 rw [Zeb,Bool.and_eq_true] at h3'
 exact ⟨⟨fun f hf=>h1 f (by simp [hf]),h1 t (by simp),h3'.1⟩,h3'.2⟩
theorem Pq {p:List Fn} {fs:List Fr} {t:Fr} {c:Int} {on runs:Bool}:Jd p ⟨fs++[t],c⟩ on runs=true↔Yb p fs t ∧
  (if runs=true then (t.stack.length:Int)=hAt p t else if on=true then Jk p t 14 0=true else c=-1∧(Jy p ⟨fs++[t],c⟩=true∨Jk p t 15 0=true)):=by
 unfold Jd
 simp only [List.getLast?_append,List.getLast?_singleton,Option.some_or,Bool.and_eq_true,Yb.bool]
 cases runs <;> cases on <;> simp
theorem Zji {p:List Fn} {c:Int} {on runs:Bool}:Jd p ⟨[],c⟩ on runs=true↔on=false∧c=-1:=by
 unfold Jd
 simp
theorem Fb.form (b:Fb):b=⟨[],b.caller⟩∨∃ fs t,b=⟨fs++[t],b.caller⟩:=by
 rcases List.eq_nil_or_concat b.frames with h | ⟨fs,t,h⟩
 ·left;rw [← h]
 ·right;exact ⟨fs,t,by rw [List.concat_eq_append] at h;rw [← h]⟩
theorem Qc.on {p:List Fn} {s:St} {l:List Int} (h:Qc p s l) {k:Nat} (hk:(k:Int)∈l):∃ fs t,Zc s k=⟨fs++[t],(Zc s k).caller⟩:=by
 rcases Fb.form (Zc s k) with e | e
 ·have:=h.each k (by have:=h.path.inside _ hk;omega)
  rw [e,Zji,decide_eq_true hk] at this
  cases this.1
 ·exact e
end Go.Proofs.YtblihfpigjiahaaDoor
namespace Go.Proofs.YtblihfpigjiahaaDoor
theorem Ya (s:St) (n:Nat) (a b:Fb):Zh (Zh s n a) n b=Zh s n b:=by simp [Zh]
structure Yx (s:St) (n:Nat) (fs:List Fr) (t:Fr) (c:Int):Prop where
 lt:n<s.fibers.length
 eq:Zc s n=⟨fs++[t],c⟩
theorem Yx.set {s:St} {n:Nat} {fs:List Fr} {t:Fr} {c:Int} (h:Yx s n fs t c) (gs:List Fr) (u:Fr) (d:Int):Yx (Zh s n ⟨gs++[u],d⟩) n gs u d :=
 ⟨by rw [Xf];exact h.lt,Qg _ h.lt⟩
theorem Zcr {s:St} {n:Nat} {fs:List Fr} {t:Fr} {c:Int} (h:Yx s n fs t c) (g:Fr→Fr):s.turnTop (n:Int) g=Zh s n ⟨fs++[g t],c⟩:=by
 unfold St.turnTop
 rw [Uu,h.eq]
 unfold Fb.turnTop Fb.top
 simp
theorem Zcc {s:St} {n:Nat} {fs:List Fr} {t:Fr} {c:Int} (h:Yx s n fs t c) (hn:s.now=n):s.top=t:=by
 unfold St.top
 rw [hn,Wg,h.eq]
 simp [Fb.top]
def Fr.stk (t:Fr) (l:List Int):Fr:=⟨t.fn,t.at_,t.locals,l⟩
theorem Zap {s:St} {n:Nat} {fs:List Fr} {t:Fr} {c:Int} (h:Yx s n fs t c) (v:Int):Qb s n v=Zh s n ⟨fs++[t.stk (t.stack++[v])],c⟩:=Zcr h _
theorem Pk {s:St} {n:Nat} {fs:List Fr} {t:Fr} {c:Int} (h:Yx s n fs t c) (hn:s.now=n):Zj s=Zh s n ⟨fs++[t.stk t.stack.dropLast],c⟩:=by
 unfold Zj;rw [hn,Zcr h];rfl
theorem Zhp {s:St} {n:Nat} {fs:List Fr} {t:Fr} {c:Int} (h:Yx s n fs t c) (hn:s.now=n) (a:Int):Yj s a=Zh s n ⟨fs++[{ t with at_:=a }],c⟩:=by
 unfold Yj;rw [hn,Zcr h]
theorem Zbu {s:St} {n:Nat} {fs:List Fr} {t:Fr} {c:Int} (h:Yx s n fs t c) (hn:s.now=n):Zv s=t.stack.getLast?.getD 0:=by
 unfold Zv;rw [Zcc h hn]
structure Op (p:List Fn) (s:St) (n:Nat) (fs:List Fr) (t:Fr) (c:Int) (kd a:Int):Prop where
 tops:Yx s n fs t c
 now:s.now=n
 op:(Zx p t.fn.toNat).getD t.at_.toNat (0,0)=(kd,a)
def Fr.on (t:Fr):Fr:=⟨t.fn,t.at_+1,t.locals,t.stack⟩
section
variable {p:List Fn} {s:St} {n:Nat} {fs:List Fr} {t:Fr} {c:Int} {kd a:Int}
theorem Op.next (h:Op p s n fs t c kd a):Yj s (s.top.at_+1)=Zh s n ⟨fs++[t.on],c⟩:=by
 rw [Zhp h.tops h.now,Zcc h.tops h.now];rfl
theorem Pj (h:Op p s n fs t c kd a) {s1:St} (h1:Zh s n ⟨fs++[t.on],c⟩=s1):Xj p s =
  (if kd=0 then (Qb s1 n a,0)
   else if kd=1 then (Zj s1,0)
   else if kd=2 then (Qb s1 n (t.locals.getD a.toNat 0),0)
   else if kd=3 then ((Zj s1).turnTop n fun f=>{ f with locals:=f.locals.set a.toNat (Zv s1) },0)
   else if kd=9 then (Yj s1 a,0)
   else if kd=10 then (if Zv s1=0 then Yj (Zj s1) a else Zj s1,0)
   else if kd=11 then Pd p s1 a
   else if kd=12 then Ub s1
   else if kd=13 then Ui p s1 a
   else if kd=14 then Ux s1
   else if kd=15 then Uk s1
   else if kd=16 then Jv (Zj s1) (Zv s1)
   else (Qb (Zj (Zj s1)) n (Zaz kd (Zv (Zj s1)) (Zv s1)),0)):=by
 have ht:s.top=t:=Zcc h.tops h.now
 have hnow:s1.now=n:=by rw [← h1];exact h.now
 have htop:s1.top=t.on:=by rw [← h1];exact Zcc (h.tops.set fs t.on c) h.now
 unfold Xj
 simp only
 rw [h.next,ht,h.op,h1]
 simp only [hnow,htop]
 rfl
theorem Zzt (h:Op p s n fs t c kd a) (h0:0≤kd) (h10:kd≤10) {ta lb:Int} (he:Qr p kd a=(ta,lb,0)) (hst:ta≤t.stack.length) (hat:0≤t.at_) (ha:kd=9∨kd=10→0≤a) :
  ∃ t' j,Xj p s=(Zh s n ⟨fs++[t'],c⟩,0)∧t'.fn=t.fn∧t'.locals.length=t.locals.length∧(t'.stack.length:Int)=t.stack.length - ta+lb∧j∈nexts (kd,a) t.at_.toNat∧t'.at_=(j:Int):=by
 have hT:=h.tops.set fs t.on c
 have hN:(Zh s n ⟨fs++[t.on],c⟩).now=n:=h.now
 have hat':t.on.at_=((t.at_.toNat+1:Nat):Int):=by show t.at_+1=_;omega
 have hP:=Pk hT hN
 have hT2:=hT.set fs (t.on.stk (t.on.stack.dropLast)) c
 rw [← hP] at hT2
 have hN2:(Zj (Zh s n ⟨fs++[t.on],c⟩)).now=n:=by rw [hP];exact h.now
 rw [Pj h rfl]
 have hstk:t.on.stack=t.stack:=rfl
 have hloc:t.on.locals=t.locals:=rfl
 have heff:kd≠11→ta=tk kd.toNat∧lb=lv kd.toNat:=fun hk=>by
  unfold Qr at he
  rw [if_pos (by omega),if_neg hk] at he
  simp only [Prod.mk.injEq] at he
  exact ⟨he.1.symm,he.2.1.symm⟩
 obtain ⟨hta,hlb⟩:=heff (by omega)
 have hnext:kd≠9→kd≠10→nexts (kd,a) t.at_.toNat=[t.at_.toNat+1]:=fun h1 h2=>by
  unfold nexts;simp only;rw [if_neg (by omega),if_neg h1,if_neg h2]
 by_cases k0:kd=0
 ·subst k0
  rw [if_pos rfl,Zap hT,Ya]
  refine ⟨_,_,rfl,rfl,rfl,?_,by rw [hnext (by omega) (by omega)];exact List.mem_singleton.2 rfl,hat'⟩
  have h1:ta=0:=hta
  have h2:lb=1:=hlb
  simp only [Fr.stk,List.length_append,List.length_singleton,hstk];omega
 rw [if_neg k0]
 by_cases k1:kd=1
 ·subst k1
  rw [if_pos rfl,hP,Ya]
  refine ⟨_,_,rfl,rfl,rfl,?_,by rw [hnext (by omega) (by omega)];exact List.mem_singleton.2 rfl,hat'⟩
  have h1:ta=1:=hta
  have h2:lb=0:=hlb
  simp only [Fr.stk,List.length_dropLast,hstk];omega
 rw [if_neg k1]
 by_cases k2:kd=2
 ·subst k2
  rw [if_pos rfl,Zap hT,Ya]
  refine ⟨_,_,rfl,rfl,rfl,?_,by rw [hnext (by omega) (by omega)];exact List.mem_singleton.2 rfl,hat'⟩
  have h1:ta=0:=hta
  have h2:lb=1:=hlb
  simp only [Fr.stk,List.length_append,List.length_singleton,hstk];omega
 rw [if_neg k2]
 by_cases k3:kd=3
 ·subst k3
  rw [if_pos rfl,Zcr hT2,hP,Ya,Ya]
  refine ⟨_,_,rfl,rfl,by simp [Fr.stk,hloc],?_,by rw [hnext (by omega) (by omega)];exact List.mem_singleton.2 rfl,hat'⟩
  have h1:ta=1:=hta
  have h2:lb=0:=hlb
  simp only [Fr.stk,List.length_dropLast,hstk];omega
 rw [if_neg k3]
 by_cases k9:kd=9
 ·subst k9
  rw [if_pos rfl,Zhp hT hN,Ya]
  have h1:ta=0:=hta
  have h2:lb=0:=hlb
  have:=ha (.inl rfl)
  refine ⟨_,a.toNat,rfl,rfl,rfl,?_,by simp [nexts],by show a=_;omega⟩
  simp only [hstk];omega
 rw [if_neg k9]
 by_cases k10:kd=10
 ·subst k10
  have h1:ta=1:=hta
  have h2:lb=0:=hlb
  have:=ha (.inr rfl)
  rw [if_pos rfl]
  split
  ·rw [Zhp hT2 hN2,hP,Ya,Ya]
   refine ⟨_,a.toNat,rfl,rfl,rfl,?_,by simp [nexts],by show a=_;omega⟩
   simp only [Fr.stk,List.length_dropLast,hstk];omega
  ·rw [hP,Ya]
   refine ⟨_,t.at_.toNat+1,rfl,rfl,rfl,?_,by simp [nexts],hat'⟩
   simp only [Fr.stk,List.length_dropLast,hstk];omega
 rw [if_neg k10,if_neg (by omega),if_neg (by omega),if_neg (by omega),if_neg (by omega),if_neg (by omega),if_neg (by omega)]
 have hP2:=Pk hT2 hN2
 have hT3:=hT2.set fs ((t.on.stk t.on.stack.dropLast).stk (t.on.stk t.on.stack.dropLast).stack.dropLast) c
 rw [← hP2] at hT3
 rw [Zap hT3,hP2,hP]
 simp only [Ya]
 refine ⟨_,_,rfl,rfl,rfl,?_,by rw [hnext k9 k10];exact List.mem_singleton.2 rfl,hat'⟩
 have h3:ta=2∧lb=1:=by
  have:kd=4∨kd=5∨kd=6∨kd=7∨kd=8:=by omega
  rcases this with rfl | rfl | rfl | rfl | rfl <;> exact ⟨hta,hlb⟩
 simp only [Fr.stk,List.length_append,List.length_singleton,List.length_dropLast,hstk];omega
theorem Zvx (h:Op p s n fs t c 11 a):Xj p s=if fs.length+1=6 then (St.zero,2) else
  (Zh s n ⟨fs++[(t.on.stk (t.stack.take (t.stack.length - (p.getD a.toNat Fn.zero).args.toNat)))]++[Yn p a (t.stack.drop (t.stack.length - (p.getD a.toNat Fn.zero).args.toNat))],c⟩,0):=by
 have hT:=h.tops.set fs t.on c
 have hN:(Zh s n ⟨fs++[t.on],c⟩).now=n:=h.now
 rw [Pj h rfl]
 simp only [show ¬ ((11:Int)=0) by omega,show ¬ ((11:Int)=1) by omega,show ¬ ((11:Int)=2) by omega,show ¬ ((11:Int)=3) by omega,show ¬ ((11:Int)=9) by omega,show ¬ ((11:Int)=10) by omega,if_false,if_true]
 unfold Pd
 simp only [hN,Zcc hT hN,Zcr hT,Wg,Uu]
 rw [Ya,Qg _ h.tops.lt]
 simp only [List.length_append,List.length_singleton]
 split
 ·rfl
 ·rw [Ya];rfl
theorem Zeh {l:List Int} (h:0<l.length):∃ st v,l=st++[v]:=by
 rcases List.eq_nil_or_concat l with rfl | ⟨st,v,e⟩
 ·simp at h
 ·exact ⟨st,v,by rw [e,List.concat_eq_append]⟩
theorem Zsm {l:List Int} (h:2≤l.length):∃ st x v,l=st++[x,v]:=by
 obtain ⟨st,v,rfl⟩:=Zeh (l:=l) (by omega)
 simp only [List.length_append,List.length_singleton] at h
 obtain ⟨st',x,rfl⟩:=Zeh (l:=st) (by omega)
 exact ⟨st',x,v,by simp⟩
theorem Zwf {gs:List Fr} {u:Fr} (h:Op p s n (gs++[u]) t c 12 a) {st:List Int} {v:Int} (hst:t.stack=st++[v]):Xj p s=(Zh s n ⟨gs++[(u.stk (u.stack++[v]))],c⟩,0):=by
 have hT:=h.tops.set (gs++[u]) t.on c
 have hN:(Zh s n ⟨gs++[u]++[t.on],c⟩).now=n:=h.now
 have hv:t.on.stack=st++[v]:=hst
 rw [Pj h rfl]
 simp only [show ¬ ((12:Int)=0) by omega,show ¬ ((12:Int)=1) by omega,show ¬ ((12:Int)=2) by omega,show ¬ ((12:Int)=3) by omega,show ¬ ((12:Int)=9) by omega,show ¬ ((12:Int)=10) by omega,show ¬ ((12:Int)=11) by omega,if_false,if_true]
 unfold Ub
 simp only [hN,Zbu hT hN,Pk hT hN,Wg,Uu,hv,List.getLast?_append,List.getLast?_singleton,Option.some_or,Option.getD_some]
 simp only [Ya,Qg _ h.tops.lt]
 simp only [List.dropLast_concat]
 rw [if_neg (by simp)]
 have hT2:=h.tops.set gs u c
 rw [Zap hT2,Ya]
theorem Zrx (h:Op p s n [] t c 12 a) {st:List Int} {v:Int} (hst:t.stack=st++[v]) (hc:c<0):Xj p s=Jv { Zh s n ⟨[],c⟩ with now:=-1 } v:=by
 have hT:=h.tops.set [] t.on c
 have hN:(Zh s n ⟨[]++[t.on],c⟩).now=n:=h.now
 have hv:t.on.stack=st++[v]:=hst
 rw [Pj h rfl]
 simp only [show ¬ ((12:Int)=0) by omega,show ¬ ((12:Int)=1) by omega,show ¬ ((12:Int)=2) by omega,show ¬ ((12:Int)=3) by omega,show ¬ ((12:Int)=9) by omega,show ¬ ((12:Int)=10) by omega,show ¬ ((12:Int)=11) by omega,if_false,if_true]
 unfold Ub
 simp only [hN,Zbu hT hN,Pk hT hN,Wg,Uu,hv,List.getLast?_append,List.getLast?_singleton,Option.some_or,Option.getD_some]
 simp only [Ya,Qg _ h.tops.lt]
 simp [hc]
theorem Zmr {s:St} {n m:Nat} (hne:n≠m) (b:Fb):Zc (Zh s n b) m=Zc s m:=Jb b hne
theorem Zri (h:Op p s n [] t c 12 a) {st:List Int} {v:Int} (hst:t.stack=st++[v]) {m:Nat} (hc:c=m) (hne:n≠m) {gs:List Fr} {u:Fr} {d:Int} (hm:Yx s m gs u d) :
  Xj p s=({ Zh (Zh s n ⟨[],-1⟩) m ⟨gs++[(u.stk (u.stack++[v]))],d⟩ with now:=m },0):=by
 have hT:=h.tops.set [] t.on c
 have hN:(Zh s n ⟨[]++[t.on],c⟩).now=n:=h.now
 have hv:t.on.stack=st++[v]:=hst
 rw [Pj h rfl]
 simp only [show ¬ ((12:Int)=0) by omega,show ¬ ((12:Int)=1) by omega,show ¬ ((12:Int)=2) by omega,show ¬ ((12:Int)=3) by omega,show ¬ ((12:Int)=9) by omega,show ¬ ((12:Int)=10) by omega,show ¬ ((12:Int)=11) by omega,if_false,if_true]
 unfold Ub
 simp only [hN,Zbu hT hN,Pk hT hN,Wg,Uu,hv,List.getLast?_append,List.getLast?_singleton,Option.some_or,Option.getD_some]
 simp only [Ya,Qg _ h.tops.lt]
 rw [if_pos (by simp),if_neg (by omega)]
 simp only [hc]
 have hT2:Yx { Zh s n ⟨[],-1⟩ with now:=(m:Int) } m gs u d:=⟨by show m<(Zh s n ⟨[],-1⟩).fibers.length;rw [Xf];exact hm.lt,(Zmr hne _).trans hm.eq⟩
 have:=Zap hT2 v
 simp only [List.nil_append,List.dropLast_singleton] at this ⊢
 rw [this]
 rfl
theorem Zsz (h:Op p s n fs t c 13 a):Xj p s=if s.fibers.length=5 then (St.zero,2) else
  ({ s with fibers:=(Zh s n ⟨fs++[(t.on.stk (t.stack++[(s.fibers.length:Int)]))],c⟩).fibers++[⟨[Yn p a []],-1⟩] },0):=by
 have hT:=h.tops.set fs t.on c
 have hN:(Zh s n ⟨fs++[t.on],c⟩).now=n:=h.now
 rw [Pj h rfl]
 simp only [show ¬ ((13:Int)=0) by omega,show ¬ ((13:Int)=1) by omega,show ¬ ((13:Int)=2) by omega,show ¬ ((13:Int)=3) by omega,show ¬ ((13:Int)=9) by omega,show ¬ ((13:Int)=10) by omega,show ¬ ((13:Int)=11) by omega,show ¬ ((13:Int)=12) by omega,if_false,if_true]
 unfold Ui
 rw [hN,Xf,Zap hT,Ya]
 rfl
theorem Ztq (h:Op p s n fs t c 15 a) (hc:c<0):Xj p s=(St.zero,7):=by
 have hT:=h.tops.set fs t.on c
 have hN:(Zh s n ⟨fs++[t.on],c⟩).now=n:=h.now
 rw [Pj h rfl]
 simp only [show ¬ ((15:Int)=0) by omega,show ¬ ((15:Int)=1) by omega,show ¬ ((15:Int)=2) by omega,show ¬ ((15:Int)=3) by omega,show ¬ ((15:Int)=9) by omega,show ¬ ((15:Int)=10) by omega,show ¬ ((15:Int)=11) by omega,show ¬ ((15:Int)=12) by omega,show ¬ ((15:Int)=13) by omega,show ¬ ((15:Int)=14) by omega,if_false,if_true]
 unfold Uk
 simp only [hN,Pk hT hN,Wg]
 rw [Ya,Qg _ h.tops.lt,if_pos hc]
theorem Xaf (h:Op p s n fs t c 15 a) {st:List Int} {v:Int} (hst:t.stack=st++[v]) {m:Nat} (hc:c=m) (hne:n≠m) {gs:List Fr} {u:Fr} {d:Int} (hm:Yx s m gs u d) :
  Xj p s=({ Zh (Zh s n ⟨fs++[(t.on.stk (st))],-1⟩) m ⟨gs++[(u.stk (u.stack++[v]))],d⟩ with now:=m },0):=by
 have hT:=h.tops.set fs t.on c
 have hN:(Zh s n ⟨fs++[t.on],c⟩).now=n:=h.now
 have hv:t.on.stack=st++[v]:=hst
 rw [Pj h rfl]
 simp only [show ¬ ((15:Int)=0) by omega,show ¬ ((15:Int)=1) by omega,show ¬ ((15:Int)=2) by omega,show ¬ ((15:Int)=3) by omega,show ¬ ((15:Int)=9) by omega,show ¬ ((15:Int)=10) by omega,show ¬ ((15:Int)=11) by omega,show ¬ ((15:Int)=12) by omega,show ¬ ((15:Int)=13) by omega,show ¬ ((15:Int)=14) by omega,if_false,if_true]
 unfold Uk
 simp only [hN,Zbu hT hN,Pk hT hN,Wg,Uu,hv,List.getLast?_append,List.getLast?_singleton,Option.some_or,Option.getD_some,List.dropLast_concat]
 simp only [Ya,Qg _ h.tops.lt]
 rw [if_neg (by omega)]
 simp only [hc]
 have hT2:Yx { Zh s n ⟨fs++[(t.on.stk (st))],-1⟩ with now:=(m:Int) } m gs u d:=⟨by show m<(Zh s n _).fibers.length;rw [Xf];exact hm.lt,(Zmr hne _).trans hm.eq⟩
 have:=Zap hT2 v
 rw [this]
 rfl
theorem Zrb (h:Op p s n fs t c 16 a) {st:List Int} {v:Int} (hst:t.stack=st++[v]):Xj p s=Jv (Zh s n ⟨fs++[(t.on.stk (st))],c⟩) v:=by
 have hT:=h.tops.set fs t.on c
 have hN:(Zh s n ⟨fs++[t.on],c⟩).now=n:=h.now
 have hv:t.on.stack=st++[v]:=hst
 rw [Pj h rfl]
 simp only [show ¬ ((16:Int)=0) by omega,show ¬ ((16:Int)=1) by omega,show ¬ ((16:Int)=2) by omega,show ¬ ((16:Int)=3) by omega,show ¬ ((16:Int)=9) by omega,show ¬ ((16:Int)=10) by omega,show ¬ ((16:Int)=11) by omega,show ¬ ((16:Int)=12) by omega,show ¬ ((16:Int)=13) by omega,show ¬ ((16:Int)=14) by omega,show ¬ ((16:Int)=15) by omega,if_false,if_true]
 rw [Zbu hT hN,Pk hT hN,Ya,hv]
 simp
def Fr.got (u:Fr) (v:Int):Fr:=if u.at_=0 then ⟨u.fn,u.at_,u.locals.set 0 v,u.stack⟩ else u.stk (u.stack++[v])
theorem Zyg (h:Op p s n fs t c 14 a) {st:List Int} {x v:Int} (hst:t.stack=st++[x,v]) :
  Xj p s=if ixB x s.fibers.length=true then (if x∈(Xz s.fibers (s.fibers.length+1) s.now []).getD []∨(Zc (Zh s n ⟨fs++[(t.on.stk (st))],c⟩) x.toNat).frames=[] then (St.zero,6) else
   ({ (Zh (Zh s n ⟨fs++[(t.on.stk (st))],c⟩) x.toNat ((⟨(Zc (Zh s n ⟨fs++[(t.on.stk (st))],c⟩) x.toNat).frames,n⟩:Fb).turnTop fun u=>u.got v)) with now:=x },0)) else (St.zero,5):=by
 have hT:=h.tops.set fs t.on c
 have hN:(Zh s n ⟨fs++[t.on],c⟩).now=n:=h.now
 have hv:t.on.stack=st++[x,v]:=hst
 have hd:(st++[x,v]).dropLast=st++[x]:=by
  have:st++[x,v]=(st++[x])++[v]:=by simp
  rw [this,List.dropLast_concat]
 have hP:=Pk hT hN
 rw [Ya,hv,hd] at hP
 have hT2:Yx (Zj (Zh s n ⟨fs++[t.on],c⟩)) n fs (t.on.stk (st++[x])) c:=by rw [hP];exact h.tops.set _ _ _
 have hN2:(Zj (Zh s n ⟨fs++[t.on],c⟩)).now=n:=by rw [hP];exact h.now
 have hP2:=Pk hT2 hN2
 rw [hP,Ya,show (t.on.stk (st++[x])).stack.dropLast=st from List.dropLast_concat,show (t.on.stk (st++[x])).stk st=t.on.stk st from rfl] at hP2
 rw [Pj h rfl]
 simp only [show ¬ ((14:Int)=0) by omega,show ¬ ((14:Int)=1) by omega,show ¬ ((14:Int)=2) by omega,show ¬ ((14:Int)=3) by omega,show ¬ ((14:Int)=9) by omega,show ¬ ((14:Int)=10) by omega,show ¬ ((14:Int)=11) by omega,show ¬ ((14:Int)=12) by omega,show ¬ ((14:Int)=13) by omega,if_false,if_true]
 unfold Ux
 have hl1:Zv (Zh s n ⟨fs++[t.on],c⟩)=v:=by rw [Zbu hT hN,hv];simp
 have hl2:Zv (Zj (Zh s n ⟨fs++[t.on],c⟩))=x:=by rw [Zbu hT2 hN2,show (t.on.stk (st++[x])).stack=st++[x] from rfl];simp
 simp only [hl1,hl2]
 rw [hP,hP2]
 have hline:∀ k z acc,Xz (Zh s n ⟨fs++[(t.on.stk (st))],c⟩).fibers k z acc=Xz s.fibers k z acc:=fun k z acc=>Zfo (fun y=>by
  show (Zc (Zh s n _) y.toNat).caller=(Zc s y.toNat).caller
  by_cases e:n=y.toNat
  ·rw [← e,Qg _ h.tops.lt,h.tops.eq]
  ·rw [Jb _ e]) k z acc
 have hnow:(Zh s n ⟨fs++[(t.on.stk (st))],c⟩).now=s.now:=rfl
 rw [hline,hnow,Xf]
 generalize hs1:Zh s n ⟨fs++[(t.on.stk (st))],c⟩=s1
 have hs1n:s1.now=n:=by rw [← hs1];exact h.now
 split
 ·rename_i hix
  obtain ⟨hx0,hx1⟩:=Jq.1 hix
  obtain ⟨m,rfl⟩:∃ m:Nat,x=m:=⟨x.toNat,by omega⟩
  simp only [Wg,Int.toNat_natCast]
  split
  ·rfl
  ·rename_i hne
   simp only [Uu]
   have hfr:(Zc s1 m).frames≠[]:=fun e=>hne (.inr e)
   obtain ⟨gs,u,hgu⟩:∃ gs u,(Zc s1 m).frames=gs++[u]:=by
    rcases List.eq_nil_or_concat (Zc s1 m).frames with e | ⟨gs,u,e⟩
    ·exact absurd e hfr
    ·exact ⟨gs,u,by rw [e,List.concat_eq_append]⟩
   have hml:m<s1.fibers.length:=by rw [← hs1,Xf];omega
   have hT3:Yx { Zh s1 m { Zc s1 m with caller:=s.now } with now:=(m:Int) } m gs u s.now:=⟨by show m<(Zh s1 m _).fibers.length;rw [Xf];exact hml,by
    show Zc (Zh s1 m _) m=_
    rw [Qg _ hml,← hgu]⟩
   rw [Zcc hT3 rfl,Zcr hT3,Zap hT3,hgu]
   unfold Fb.turnTop Fb.top Fr.got
   rw [h.now]
   simp only [List.getLast?_append,List.getLast?_singleton,Option.some_or,Option.getD_some,List.length_append,List.length_singleton]
   split <;> simp [Zh,Fr.stk]
 ·rfl
end
end Go.Proofs.YtblihfpigjiahaaDoor
namespace Go.Proofs.YtblihfpigjiahaaDoor
theorem Qc.of {p:List Fn} {s s':St} {l l':List Int} (h:Qc p s l) (hlen:s'.fibers.length=s.fibers.length) (ho:s'.out.length≤30) (hpath:Wh s'.fibers s'.now l') (hnd:l'.Nodup) (hlast:l'=[]∨l'.getLast?=some 0)
  (hmain:(0:Int) ∉ l'→(Zc s' 0).frames=[])
  (heach:∀ k,k<s.fibers.length→(Zc s' k=Zc s k∧((k:Int)∈l'↔(k:Int)∈l)∧((k:Int)=s'.now↔(k:Int)=s.now))∨(Jd p (Zc s' k) (decide ((k:Int)∈l')) (decide ((k:Int)=s'.now))=true∧(Zc s' k).frames.length≤6)):Qc p s' l':=by
 refine ⟨h.prog,by rw [hlen];exact h.n5,ho,fun k hk=>?_,hpath,hnd,hlast,by rw [hlen];exact h.pos,hmain,fun k hk=>?_⟩
 ·rw [hlen] at hk
  rcases heach k hk with ⟨e,_⟩ | ⟨_,e⟩
  ·rw [e];exact h.f6 k hk
  ·exact e
 ·rw [hlen] at hk
  rcases heach k hk with ⟨e,e1,e2⟩ | ⟨e,_⟩
  ·rw [e,decide_eq_decide.2 e1,decide_eq_decide.2 e2];exact h.each k hk
  ·exact e
theorem Zby {s:St} {n:Nat} {b:Fb} (hn:n<s.fibers.length) (z:Int):Xt (Zh s n b).fibers z=if z.toNat=n then b.caller else Xt s.fibers z:=by
 show (Zc (Zh s n b) z.toNat).caller=_
 by_cases e:z.toNat=n
 ·rw [if_pos e,e,Qg _ hn]
 ·rw [if_neg e,Jb _ (fun h=>e h.symm)];rfl
section
variable {p:List Fn} {s:St} {l:List Int}
theorem Qc.stay (h:Qc p s l) {n:Nat} (hn:s.now=n) {fs:List Fr} {t:Fr} {c:Int} (hl:n<s.fibers.length) (hc:(Zc s n).caller=c) (hf:Yb p fs t) (hs:(t.stack.length:Int)=hAt p t) (h6:fs.length+1≤6) (o:List Int) (ho:o.length≤30) :
  Qc p { Zh s n ⟨fs++[t],c⟩ with out:=o } l:=by
 have hin:(n:Int)∈l:=by rw [← hn];exact h.now_mem (by omega)
 refine h.of (Xf _ _ _) ho ?_ h.nodup h.last (fun h0=>?_) (fun k hk=>?_)
 ·refine h.path.congr (by show s.fibers.length≤(Zh s n _).fibers.length;rw [Xf];omega) (fun z hz=>?_)
  have:=Zby (s:=s) (b:=⟨fs++[t],c⟩) hl z
  have hz0:=h.path.inside z hz
  show Xt (Zh s n ⟨fs++[t],c⟩).fibers z=_
  rw [this]
  split
  ·rename_i e
   have:Xt s.fibers z=(Zc s n).caller:=by show (Zc s z.toNat).caller=_;rw [e]
   rw [this,hc]
  ·rfl
 ·have hne:n≠0:=by rintro rfl;exact h0 hin
  show (Zc (Zh s n _) 0).frames=[]
  rw [Jb _ hne]
  exact h.main h0
 ·by_cases e:n=k
  ·subst e
   right
   have e1:Zc { Zh s n ⟨fs++[t],c⟩ with out:=o } n=⟨fs++[t],c⟩:=Qg _ hl
   rw [e1]
   refine ⟨Pq.2 ⟨hf,?_⟩,by simpa using h6⟩
   exact (if_pos (decide_eq_true hn.symm)).mpr hs
  ·exact .inl ⟨Jb _ e,Iff.rfl,Iff.rfl⟩
theorem Qc.back (h:Qc p s l) {n m:Nat} (hn:s.now=n) (hl:n<s.fibers.length) (hc:(Zc s n).caller=m) {b:Fb} (hbf:Jd p b false false=true) (hb6:b.frames.length≤6)
  {gs:List Fr} {u:Fr} {d:Int} (hd:(Zc s m).caller=d) (hu:Yb p gs u) (hs:(u.stack.length:Int)=hAt p u) (h6:gs.length+1≤6) :
  ∃ r,l=(n:Int) :: (m:Int) :: r∧Qc p { Zh (Zh s n b) m ⟨gs++[u],d⟩ with now:=m } ((m:Int) :: r):=by
 obtain ⟨r0,rfl⟩:=h.head (by omega)
 have hp:=h.path
 obtain ⟨_,_,_,hp'⟩:=hp
 have hcn:Xt s.fibers s.now=m:=by rw [hn];exact hc
 rw [hcn] at hp'
 cases r0 with
 | nil=>have:(m:Int)=-1:=hp';omega
 | cons x r =>
  obtain ⟨hx,hx0,hx1,hp2⟩:=hp'
  subst hx
  have hnd:=h.nodup
  rw [hn] at hnd
  have hn1:=(List.nodup_cons.1 hnd)
  have hne:n≠m:=by rintro rfl;exact hn1.1 (by simp)
  have hml:m<s.fibers.length:=by omega
  have hml':m<(Zh s n b).fibers.length:=by rw [Xf];exact hml
  refine ⟨r,by rw [hn],?_⟩
  have hfib:∀ k,Zc { Zh (Zh s n b) m ⟨gs++[u],d⟩ with now:=(m:Int) } k=if k=m then ⟨gs++[u],d⟩ else if k=n then b else Zc s k:=fun k=>by
   show Zc (Zh (Zh s n b) m _) k=_
   by_cases e:k=m
   ·rw [if_pos e,e,Qg _ hml']
   ·rw [if_neg e,Jb _ (fun h=>e h.symm)]
    by_cases e':k=n
    ·rw [if_pos e',e',Qg _ hl]
    ·rw [if_neg e',Jb _ (fun h=>e' h.symm)]
  have hlast:(m :: r:List Int).getLast?=some 0:=by
   rcases h.last with e | e
   ·cases e
   ·rw [List.getLast?_cons_cons] at e;exact e
  refine h.of (by show (Zh (Zh s n b) m _).fibers.length=_;rw [Xf,Xf]) h.o30 ?_ hn1.2 (.inr hlast) (fun h0=>absurd (List.mem_of_getLast? hlast) h0) (fun k hk=>?_)
  ·refine ⟨rfl,hx0,by show (m:Int)<(Zh (Zh s n b) m _).fibers.length;rw [Xf,Xf];exact hx1,?_⟩
   have e1:Xt (Zh (Zh s n b) m ⟨gs++[u],d⟩).fibers m=Xt s.fibers m:=by
    rw [Zby hml',if_pos (by omega)];exact hd.symm
   show Wh (Zh (Zh s n b) m ⟨gs++[u],d⟩).fibers _ _
   rw [e1]
   refine hp2.congr (by rw [Xf,Xf];omega) (fun z hz=>?_)
   have hzm:z≠m:=by rintro rfl;exact (List.nodup_cons.1 hn1.2).1 hz
   have hzn:z≠n:=by rintro rfl;exact hn1.1 (List.mem_cons_of_mem _ hz)
   have hz0:=hp2.inside z hz
   rw [Zby hml',if_neg (by omega),Zby hl,if_neg (by omega)]
  ·rw [hfib k]
   by_cases e:k=m
   ·subst e
    rw [if_pos rfl]
    right
    refine ⟨Pq.2 ⟨hu,?_⟩,by simpa using h6⟩
    rw [if_pos (decide_eq_true rfl)]
    exact hs
   ·rw [if_neg e]
    by_cases e':k=n
    ·subst e'
     rw [if_pos rfl]
     right
     rw [decide_eq_false hn1.1,decide_eq_false (show ¬ ((k:Int)=(m:Int)) by omega)]
     exact ⟨hbf,hb6⟩
    ·rw [if_neg e']
     left
     refine ⟨rfl,?_,?_⟩
     ·have:¬ (k:Int)=s.now:=by omega
      simp [this]
     ·constructor
      ·intro h1;have h1:(k:Int)=(m:Int):=h1;omega
      ·intro h1;omega
theorem Qc.forth (h:Qc p s l) {n m:Nat} (hn:s.now=n) (hl:n<s.fibers.length) (hml:m<s.fibers.length) (hm:(m:Int) ∉ l) {fs:List Fr} {t:Fr} {c:Int} (hc:(Zc s n).caller=c) (hf:Yb p fs t) (hw:Jk p t 14 0=true) (h6:fs.length+1≤6)
  {gs:List Fr} {u:Fr} (hu:Yb p gs u) (hs:(u.stack.length:Int)=hAt p u) (h6':gs.length+1≤6) :
  Qc p { Zh (Zh s n ⟨fs++[t],c⟩) m ⟨gs++[u],n⟩ with now:=m } ((m:Int) :: l):=by
 have hin:(n:Int)∈l:=by rw [← hn];exact h.now_mem (by omega)
 have hne:n≠m:=by rintro rfl;exact hm hin
 have hml':m<(Zh s n ⟨fs++[t],c⟩).fibers.length:=by rw [Xf];exact hml
 have hfib:∀ k,Zc { Zh (Zh s n ⟨fs++[t],c⟩) m ⟨gs++[u],n⟩ with now:=(m:Int) } k=if k=m then ⟨gs++[u],n⟩ else if k=n then ⟨fs++[t],c⟩ else Zc s k:=fun k=>by
  show Zc (Zh (Zh s n _) m _) k=_
  by_cases e:k=m
  ·rw [if_pos e,e,Qg _ hml']
  ·rw [if_neg e,Jb _ (fun h=>e h.symm)]
   by_cases e':k=n
   ·rw [if_pos e',e',Qg _ hl]
   ·rw [if_neg e',Jb _ (fun h=>e' h.symm)]
 have hlast:((m:Int) :: l).getLast?=some 0:=by
  obtain ⟨r,rfl⟩:=h.head (by omega)
  rcases h.last with e | e
  ·cases e
  ·rw [List.getLast?_cons_cons];exact e
 refine h.of (by show (Zh (Zh s n _) m _).fibers.length=_;rw [Xf,Xf]) h.o30 ?_ (List.nodup_cons.2 ⟨hm,h.nodup⟩) (.inr hlast) (fun h0=>absurd (List.mem_of_getLast? hlast) h0) (fun k hk=>?_)
 ·refine ⟨rfl,by omega,by show (m:Int)<(Zh (Zh s n _) m _).fibers.length;rw [Xf,Xf];omega,?_⟩
  show Wh (Zh (Zh s n ⟨fs++[t],c⟩) m ⟨gs++[u],n⟩).fibers _ _
  rw [Zby hml',if_pos (by omega),show ((⟨gs++[u],n⟩:Fb).caller)=s.now from hn.symm]
  refine h.path.congr (by rw [Xf,Xf];omega) (fun z hz=>?_)
  have hzm:z≠m:=by rintro rfl;exact hm hz
  have hz0:=h.path.inside z hz
  rw [Zby hml',if_neg (by omega),Zby hl]
  split
  ·rename_i e
   have:Xt s.fibers z=(Zc s n).caller:=by show (Zc s z.toNat).caller=_;rw [e]
   rw [this,hc]
  ·rfl
 ·rw [hfib k]
  by_cases e:k=m
  ·subst e
   rw [if_pos rfl]
   right
   refine ⟨Pq.2 ⟨hu,?_⟩,by simpa using h6'⟩
   rw [if_pos (decide_eq_true rfl)]
   exact hs
  ·rw [if_neg e]
   by_cases e':k=n
   ·subst e'
    rw [if_pos rfl]
    right
    refine ⟨Pq.2 ⟨hf,?_⟩,by simpa using h6⟩
    rw [decide_eq_false (show ¬ ((k:Int)=(m:Int)) by omega),if_neg (by simp),if_pos (decide_eq_true (List.mem_cons_of_mem _ hin))]
    exact hw
   ·rw [if_neg e']
    left
    refine ⟨rfl,?_,?_⟩
    ·have:¬ (k:Int)=(m:Int):=by omega
     simp [this]
    ·constructor
     ·intro h1;have h1:(k:Int)=(m:Int):=h1;omega
     ·intro h1;omega
theorem Qc.over (h:Qc p s l) {n:Nat} (hn:s.now=n) (hl:n<s.fibers.length) {c:Int} (hc:(Zc s n).caller=c) (hc0:c<0) (o:List Int) (ho:o.length≤30) :
  Qc p { Zh s n ⟨[],c⟩ with now:=-1,out:=o } []:=by
 have hcr:=h.caller hl
 obtain rfl:c=-1:=by omega
 obtain ⟨r,rfl⟩:=h.head (by omega)
 have hp:=h.path
 obtain ⟨_,_,_,hp'⟩:=hp
 have hcn:Xt s.fibers s.now=-1:=by rw [hn];exact hc
 rw [hcn] at hp'
 cases r with
 | cons x r'=>obtain ⟨hx,hx0,_⟩:=hp';omega
 | nil =>
  have hn0:n=0:=by
   rcases h.last with e | e
   ·cases e
   ·rw [hn] at e;simp at e;omega
  subst hn0
  refine h.of (Xf _ _ _) ho rfl List.nodup_nil (.inl rfl) (fun _=>?_) (fun k hk=>?_)
  ·show (Zc (Zh s 0 _) 0).frames=[]
   rw [Qg _ hl]
  ·by_cases e:0=k
   ·subst e
    right
    have e1:Zc { Zh s 0 ⟨[],-1⟩ with now:=-1,out:=o } 0=⟨[],-1⟩:=Qg _ hl
    rw [e1]
    exact ⟨Zji.2 ⟨decide_eq_false (by simp),rfl⟩,by simp⟩
   ·left
    refine ⟨Jb _ e,?_,?_⟩
    ·rw [hn];simp;omega
    ·rw [hn]
     constructor
     ·intro h1;have h1:(k:Int)=-1:=h1;omega
     ·intro h1;omega
theorem Qc.more (h:Qc p s l) {b:Fb} (hb:Jd p b false false=true) (hb6:b.frames.length≤6) (h5:s.fibers.length<5):Qc p { s with fibers:=s.fibers++[b] } l:=by
 have hlen:({ s with fibers:=s.fibers++[b] }:St).fibers.length=s.fibers.length+1:=by simp
 have hold:∀ k,k<s.fibers.length→Zc { s with fibers:=s.fibers++[b] } k=Zc s k:=fun k hk=>by simp [Zc,List.getD,List.getElem?_append_left hk]
 have hnew:Zc { s with fibers:=s.fibers++[b] } s.fibers.length=b:=by simp [Zc,List.getD]
 have hoff:((s.fibers.length:Nat):Int) ∉ l:=fun hm=>by have:=h.path.inside _ hm;omega
 refine ⟨h.prog,by rw [hlen];omega,h.o30,fun k hk=>?_,?_,h.nodup,h.last,by rw [hlen];omega,fun h0=>by rw [hold 0 h.pos];exact h.main h0,fun k hk=>?_⟩
 ·by_cases e:k<s.fibers.length
  ·rw [hold k e];exact h.f6 k e
  ·obtain rfl:k=s.fibers.length:=by omega
   rw [hnew];exact hb6
 ·refine h.path.congr (by rw [hlen];omega) (fun z hz=>?_)
  have:=h.path.inside z hz
  show (Zc { s with fibers:=s.fibers++[b] } z.toNat).caller=(Zc s z.toNat).caller
  rw [hold _ (by omega)]
 ·by_cases e:k<s.fibers.length
  ·rw [hold k e];exact h.each k e
  ·obtain rfl:k=s.fibers.length:=by omega
   rw [hnew,decide_eq_false hoff]
   have hr:=h.path.range
   have:decide (((s.fibers.length:Nat):Int)=({ s with fibers:=s.fibers++[b] }:St).now)=false:=decide_eq_false (by show ¬ ((s.fibers.length:Nat):Int)=s.now;omega)
   rw [this]
   exact hb
end
end Go.Proofs.YtblihfpigjiahaaDoor
