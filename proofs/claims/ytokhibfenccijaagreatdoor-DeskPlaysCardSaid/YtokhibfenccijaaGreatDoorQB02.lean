import Derived.Test.YtokhibfenccijaaGreatDoorQB01
import Derived.Deep.DeepCutAuto
set_option maxRecDepth 100000
set_option maxHeartbeats 8000000
namespace Go.Proofs.YtokhibfenccijaaGreatDoor
open Go.Proofs.Tryz
def Reach(p:List Fn)(c:List (Int×Int))(k:Nat)(b:Int):Prop:=∀a:Nat→Int→Prop,a 0 0→(∀k b d f e,a k b→c[k]?=some d→dd p d b=some f→e∈bx d k→a e f)→a k b
theorem Reach.zero(p:List Fn)(c:List (Int×Int)):Reach p c 0 0:=fun _ a _=>a
theorem Reach.step{p:List Fn}{c:List (Int×Int)}{k:Nat}{a:Int}{x:Int×Int}{m:Int}{j:Nat}(i:Reach p c k a)(h:c[k]?=some x)(g:dd p x a=some m)(f:j∈bx x k):Reach p c j m:=fun d e b=>b k a x m j (i d e b) h g f
def iM(p:List Fn)(c:List (Int×Int))(H:List Int)(k:Nat):Prop:=∃b d,c[k]?=some b∧dd p b (H.getD k 0)=some d∧∀a,a∈bx b k→a<c.length∧H.getD a 0=d
structure Cons(p:List Fn)(c:List (Int×Int))(H:List Int):Prop where
 len:H.length=c.length
 pos:0<c.length
 first:H.getD 0 0=0
 done:∀a,a<c.length→H.getD a 0≠-1→iM p c H a
def dK(p:List Fn)(c:List (Int×Int))(H:List Int):Prop:=∀a,a<c.length→H.getD a 0=-1∨(0≤H.getD a 0∧Reach p c a (H.getD a 0))
def du(p:List Fn)(c:List (Int×Int)):Prop:=∃a:Fn,a.code=c∧∀b,b∈c→bu p a b=0
theorem gC{p:List Fn}{c:List (Int×Int)}(i:du p c){x:Int×Int}(j:x∈c){e m:Int}(a:dd p x e=some m):0≤m∧m≤8:=by
 obtain⟨k,_,h⟩:=i;have d:=h x j;have n:0≤(ct p x.1 x.2).2.1:=by
  by_cases b:x.1=11;·rw[(jr d b).2.2.2];exact Int.le_of_lt Int.one_pos
  ·obtain⟨q,o,f,_,_,g,_⟩:=nG d b;rw[f];exact g
 unfold dd at a;split at a;·rename_i l;simp only[Option.some.injEq]at a;omega
 ·cases a
theorem Reach.in{p:List Fn}{c:List (Int×Int)}{H:List Int}(b:Cons p c H)(n:du p c){k:Nat}{a:Int}(s:Reach p c k a):k<c.length∧H.getD k 0=a∧0≤a:=by
 refine s (fun k a=>k<c.length∧H.getD k 0=a∧0≤a) ⟨b.pos,b.first,by omega⟩ ?_;rintro k a t q o⟨h,h2,h3⟩f e l;obtain⟨u,r,g,d,m⟩:=b.done k h (by omega);obtain rfl:t=u:=by rw[f]at g;exact Option.some.inj g
 rw[h2]at d;obtain rfl:q=r:=by rw[e]at d;exact Option.some.inj d
 obtain⟨i,j⟩:=m o l;exact⟨i,j,(gC n (List.mem_of_getElem? f) e).1⟩
theorem qc{p:List Fn}{c:List (Int×Int)}(h:du p c){H b:List Int}(d:Cons p c H)(s:dK p c H)(e:Cons p c b)(o:dK p c b):H=b:=by
 apply List.ext_getElem (d.len.trans e.len.symm);intro a f n;have g:a<c.length:=d.len▸f;have l:H[a]=H.getD a 0:=by simp[List.getD,f]
 have m:b[a]=b.getD a 0:=by simp[List.getD,n]
 rw[l,m];rcases s a g with i|⟨a1,a2⟩
 ·rcases o a g with j|⟨b1,k⟩;·rw[i,j]
  ·have:=k.in d h;omega
 ·have:=a2.in e h;omega
def bW(H b:List Int):Prop:=b.length=H.length∧∀a,H.getD a 0≠-1→b.getD a 0=H.getD a 0
theorem bW.refl(H:List Int):bW H H:=⟨rfl,fun _ _=>rfl⟩
theorem bW.trans{A B C:List Int}(a:bW A B)(k:bW B C):bW A C:=⟨k.1.trans a.1,fun c b=>by have:=a.2 c b;rw[k.2 c (by rw[this];exact b),this]⟩
theorem fW{H:List Int}{k:Nat}(c:k<H.length)(z:Int)(i:Nat):(H.set k z).getD i 0=if i=k then z else H.getD i 0:=by
 simp only[List.getD,List.getElem?_set];by_cases a:k=i;·subst a;simp[c]
 ·rw[if_neg a,if_neg (fun b=>a b.symm)]
theorem bW.set{H:List Int}{k:Nat}(d:k<H.length){z:Int}(a:H.getD k 0=-1∨H.getD k 0=z):bW H (H.set k z):=by
 refine⟨by simp,fun e c=>?_⟩;rw[fW d];split
 ·rename_i b;subst b;rcases a with a|a;·exact absurd a c
  ·exact a.symm
 ·rfl
theorem iM.mono{p:List Fn}{c:List (Int×Int)}(l:du p c){H a:List Int}(m:bW H a){k:Nat}(j:H.getD k 0≠-1)(d:iM p c H k):iM p c a k:=by obtain⟨o,n,e,b,h⟩:=d;refine⟨o,n,e,by rw[m.2 k j];exact b,fun f i=>?_⟩;obtain⟨g,h2⟩:=h f i;have h3:=(gC l (List.mem_of_getElem? e) b).1;exact⟨g,by rw[m.2 f (by omega),h2]⟩
theorem qb{p:List Fn}{c:List (Int×Int)}(u:du p c)(f:List Int→Nat→Int→Bool×List Int)(r:∀H a m b,H.length=c.length→0≤m→f H a m=(true,b)→bW H b∧a<c.length∧b.getD a 0=m∧(∀d,d<c.length→H.getD d 0=-1→b.getD d 0≠-1→iM p c b d)∧(Reach p c a m→dK p c H→dK p c b)):∀(l:List Nat)(H:List Int)(m:Int)(b:List Int),H.length=c.length→0≤m→fa f l H m=(true,b)→bW H b∧(∀a,a∈l→a<c.length∧b.getD a 0=m)∧(∀d,d<c.length→H.getD d 0=-1→b.getD d 0≠-1→iM p c b d)∧((∀a,a∈l→Reach p c a m)→dK p c H→dK p c b)
 |[],H,m,b,j,k,e=>by simp[fa]at e;subst e;exact⟨bW.refl _,(fun a g=>by cases g),fun d _ i h2=>absurd i h2,fun _ D=>D⟩
 |n::l,H,m,b,j,k,e=>by
  simp only[fa]at e;cases s:f H n m with
  |mk w h=>
   rw[s]at e;cases w with
   |false=>simp at e
   |true=>
    obtain⟨v,A,B,x,E⟩:=r H n m h j k s;obtain⟨o,C,y,F⟩:=qb u f r l h m b (v.1.trans j) k e;refine⟨v.trans o,?_,?_,?_⟩
    ·intro a g;rcases List.mem_cons.1 g with rfl|g;·exact⟨A,by rw[o.2 a (by omega),B]⟩
     ·exact C a g
    ·intro d t i h2;by_cases h3:h.getD d 0=-1;·exact y d t h3 h2
     ·exact(x d t i h3).mono u o h3
    ·intro q z;exact F (fun a g=>q a (by simp[g])) (E (q n (by simp)) z)
theorem qa{p:List Fn}{c:List (Int×Int)}(q:du p c):∀(n:Nat)(H:List Int)(a:Nat)(e:Int)(d:List Int),H.length=c.length→0≤e→ey p c n H a e=(true,d)→bW H d∧a<c.length∧d.getD a 0=e∧(∀f,f<c.length→H.getD f 0=-1→d.getD f 0≠-1→iM p c d f)∧(Reach p c a e→dK p c H→dK p c d)
 |0,H,a,e,d,_,_,b=>by simp[ey]at b
 |n+1,H,a,e,d,B,z,b=>by
  unfold ey at b;by_cases s:c.length≤a;·rw[if_pos s]at b;simp at b
  ·rw[if_neg s]at b;by_cases h2:H.getD a 0=-1
   ·rw[if_pos h2]at b;have j:c[a]?=some (c.getD a (0,0)):=aD c a (0,0) (by omega);generalize c.getD a (0,0)=r at j b;cases h:dd p r e with
    |none=>rw[h]at b;simp at b
    |some k=>
     rw[h]at b;have C:=(gC q (List.mem_of_getElem? j) h).1;obtain⟨w,F,x,L⟩:=qb q (ey p c n) (fun H v k d l m=>qa q n H v k d l m) (bx r a) (H.set a e) k d (by simpa using B) C b;have i:a<H.length:=by omega
     have E:(H.set a e).getD a 0=e:=by rw[fW i,if_pos rfl]
     have u:d.getD a 0=e:=by rw[w.2 a (by omega),E]
     refine⟨(bW.set i (.inl h2)).trans w,by omega,u,?_,?_⟩
     ·intro f o G I;by_cases g:f=a;·subst g;exact⟨r,k,j,by rw[u];exact h,F⟩
      ·exact x f o (by rw[fW i,if_neg g];exact G) I
     ·intro t D;refine L (fun v A=>t.step j h A) ?_;intro f o;rw[fW i];by_cases g:f=a;·rw[if_pos g,g];exact .inr ⟨z,t⟩
      ·rw[if_neg g];exact D f o
   ·rw[if_neg h2]at b;simp at b;obtain⟨y,rfl⟩:=b;exact⟨bW.refl _,by omega,y,fun f _ l m=>absurd l m,fun _ K=>K⟩
theorem tt{c:List (Int×Int)}(f:List Int→Nat→Int→Bool×List Int){d:List Int}(n:Nat){m:Int}(i:∀H a,bW H d→dE H<n→a<c.length→d.getD a 0=m→∃b,f H a m=(true,b)∧bW b d∧dE b≤dE H):∀(l:List Nat)(H:List Int),bW H d→dE H<n→(∀a,a∈l→a<c.length∧d.getD a 0=m)→∃b,fa f l H m=(true,b)∧bW b d∧dE b≤dE H
 |[],H,e,_,_=>⟨H,rfl,e,Nat.le_refl _⟩
 |h::l,H,e,p,g=>by obtain⟨j,h2,q,u2⟩:=i H h e p (g h (by simp)).1 (g h (by simp)).2;obtain⟨k,h3,r,u3⟩:=tt f n i l j q (by omega) (fun a o=>g a (by simp[o]));exact⟨k,by simp only[fa];rw[h2];exact h3,r,by omega⟩
theorem tp{p:List Fn}{c:List (Int×Int)}(m:du p c){b:List Int}(h:Cons p c b):∀(n:Nat)(H:List Int)(a:Nat)(d:Int),bW H b→dE H<n→a<c.length→b.getD a 0=d→0≤d→∃e,ey p c n H a d=(true,e)∧bW e b∧dE e≤dE H
 |0,H,a,d,_,y,_,_,_=>by omega
 |n+1,H,a,d,g,y,i,l,F=>by
  unfold ey;rw[if_neg (by omega)];have w:a<H.length:=by rw[←g.1,h.len];exact i
  by_cases h2:H.getD a 0=-1
  ·rw[if_pos h2];obtain⟨D,C,o,k,v⟩:=h.done a i (by omega);have q:=aD c a (0,0) i;rw[o]at q;rw[←Option.some.inj q,←l,k];have x:=(gC m (List.mem_of_getElem? o) k).1;have G:=sk H a (b.getD a 0) h2 (by omega);have z:bW (H.set a (b.getD a 0)) b:=by
    refine⟨by simpa using g.1,fun B j=>?_⟩;rw[fW w]at j⊢;split;·rename_i f;rw[f]
    ·rename_i f;rw[if_neg f]at j;exact g.2 B j
   obtain⟨e,h3,u,E⟩:=tt (c:=c) (ey p c n) n (fun H A r s t f=>tp m h n H A C r s t f x) (bx D a) (H.set a (b.getD a 0)) z (by omega) v;exact⟨e,h3,u,by omega⟩
  ·rw[if_neg h2];have:H.getD a 0=d:=by rw[←g.2 a h2,l]
   exact⟨H,by simp only[this,decide_true],g,Nat.le_refl _⟩
def db(d:Nat):List Nat→Int→List Int→Option (List Int)
 |[],_,a=>some a
 |b::e,c,a=>if b=d∨(0≤a.getD b 0∧a.getD b 0≠c)then none else db d e c (a.set b c)
def gW(p:List Fn)(c:List (Int×Int))(H:List Int)(k:Nat):Option (List Int):=if H.getD k 0<0 then some H else match dd p (c.getD k (0,0)) (H.getD k 0)with|none=>none|some a=>db c.length (bx (c.getD k (0,0)) k) a H
def dZ(p:List Fn)(c:List (Int×Int)):Nat→List Int→Option (List Int)
 |0,a=>some a
 |b+1,a=>(dZ p c b a).bind fun d=>gW p c d b
def fQ(p:List Fn)(c:List (Int×Int)):Nat→List Int→Option (List Int)
 |0,a=>some a
 |b+1,a=>(fQ p c b a).bind (dZ p c c.length)
def start(c:List (Int×Int)):List Int:=List.replicate c.length (-1)
def bG(p:List Fn)(c:List (Int×Int)):Option (List Int):=if c.length=0 then none else fQ p c (c.length+1) ((start c).set 0 0)
theorem oq{p:List Fn}{c:List (Int×Int)}(l:du p c){k:Nat}{x:Int×Int}(g:c[k]?=some x){j:Nat}(b:j∈bx x k):j≤c.length:=by
 obtain⟨d,rfl,h⟩:=l;obtain⟨m,h2,f⟩:=ei (h x (List.mem_of_getElem? g));have n:k<d.code.length:=(List.getElem?_eq_some_iff.1 g).1;have e:(x.1=9∨x.1=10)→x.2.toNat<d.code.length:=by
  intro a;have i:bA x.1.toNat=3:=by rcases a with a|a<;>rw[a]<;>rfl
  rw[i]at f;have:=(cZ.1 (show aX x.2 d.code.length=true from f));omega
 unfold bx at b;split at b;·cases b
 ·split at b;·rename_i a;simp at b;have:=e (.inl a);omega
  ·split at b;·rename_i a;simp at b;have:=e (.inr a);omega
   ·simp at b;omega
def Inv(c:List (Int×Int))(H:List Int):Prop:=H.length=c.length∧∀a,a<c.length→H.getD a 0=-1∨0≤H.getD a 0
theorem vY{c:List (Int×Int)}{m:Int}(s:0≤m):∀(l:List Nat)(H b:List Int),(∀a,a∈l→a≤c.length)→Inv c H→db c.length l m H=some b→bW H b∧Inv c b∧(∀a,a∈l→a<c.length∧b.getD a 0=m)∧(∀d,H.getD d 0=-1→b.getD d 0≠-1→d∈l∧b.getD d 0=m)
 |[],H,b,_,g,e=>by simp[db]at e;subst e;exact⟨bW.refl _,g,(fun a j=>by cases j),fun d f h=>absurd f h⟩
 |a::l,H,b,r,g,e=>by
  unfold db at e;by_cases n:a=c.length∨(0≤H.getD a 0∧H.getD a 0≠m);·rw[if_pos n]at e;cases e
  ·rw[if_neg n]at e;have j:a<c.length:=by have:=r a (by simp);omega
   have k:a<H.length:=by rw[g.1];exact j
   have y:H.getD a 0=-1∨H.getD a 0=m:=by
    rcases g.2 a j with f|f;·exact .inl f
    ·exact .inr (Decidable.byContradiction fun h=>n (.inr ⟨f,h⟩))
   have w:Inv c (H.set a m):=by
    refine⟨by simpa using g.1,fun d x=>?_⟩;rw[fW k];split;·exact .inr s
    ·exact g.2 d x
   obtain⟨t,z,A,B⟩:=vY s l (H.set a m) b (fun o i=>r o (by simp[i])) w e;have q:b.getD a 0=m:=by rw[t.2 a (by rw[fW k,if_pos rfl];omega),fW k,if_pos rfl]
   refine⟨(bW.set k y).trans t,z,?_,?_⟩
   ·intro o i;rcases List.mem_cons.1 i with rfl|i;·exact⟨j,q⟩
    ·exact A o i
   ·intro d f h;by_cases p:d=a;·subst p;exact⟨by simp,q⟩
    ·obtain⟨u,v⟩:=B d (by rw[fW k,if_neg p];exact f) h;exact⟨by simp[u],v⟩
theorem pg{p:List Fn}{c:List (Int×Int)}(s:du p c){H b:List Int}{k:Nat}(l:k<c.length)(j:Inv c H)(a:gW p c H k=some b):bW H b∧Inv c b∧(H.getD k 0≠-1→iM p c b k)∧(dK p c H→dK p c b):=by
 have e:=aD c k (0,0) l;unfold gW at a;generalize c.getD k (0,0)=n at e a;by_cases q:H.getD k 0<0;·rw[if_pos q]at a;simp at a;subst a;exact⟨bW.refl _,j,fun i=>by rcases j.2 k l with g|g<;>omega,fun h=>h⟩
 ·rw[if_neg q]at a;cases d:dd p n (H.getD k 0)with
  |none=>rw[d]at a;cases a
  |some A=>
   rw[d]at a;have r:=(gC s (List.mem_of_getElem? e) d).1;obtain⟨m,y,z,B⟩:=vY r (bx n k) H b (fun C w=>oq s e w) j a;refine⟨m,y,fun x=>⟨n,A,e,by rw[m.2 k x];exact d,z⟩,fun h f v=>?_⟩;by_cases i:H.getD f 0=-1
   ·by_cases g:b.getD f 0=-1;·exact .inl g
    ·obtain⟨t,u⟩:=B f i g;rw[u];refine .inr ⟨r,?_⟩;rcases h k l with o|⟨_,o⟩;·omega
     ·exact o.step e d t
   ·rw[m.2 f i];exact h f v
theorem Ee{H d:List Int}(a:bW H d)(b:bW d H):d=H:=by
 apply List.ext_getElem a.1;intro c i j;have g:d[c]=d.getD c 0:=by simp[List.getD,i]
 have h:H[c]=H.getD c 0:=by simp[List.getD,j]
 rw[g,h];by_cases e:H.getD c 0=-1
 ·by_cases f:d.getD c 0=-1;·rw[e,f]
  ·exact(b.2 c f).symm
 ·exact a.2 c e
theorem rL{p:List Fn}{c:List (Int×Int)}(i:du p c):∀(k:Nat)(H a:List Int),k≤c.length→Inv c H→dZ p c k H=some a→bW H a∧Inv c a∧(dK p c H→dK p c a)∧(a=H→∀b,b<k→H.getD b 0≠-1→iM p c H b)
 |0,H,a,_,e,d=>by simp[dZ]at d;subst d;exact⟨bW.refl _,e,fun f=>f,fun _ b e=>by omega⟩
 |k+1,H,a,y,e,d=>by
  simp only[dZ]at d;obtain⟨m,r,h2⟩:=Option.bind_eq_some_iff.1 d;obtain⟨j,t,v,n⟩:=rL i k H m (by omega) e r;obtain⟨l,u,o,w⟩:=pg i (by omega) t h2;refine⟨j.trans l,u,fun f=>w (v f),fun q b x h=>?_⟩;subst q;have g:=Ee j l;by_cases s:b=k;·subst s;exact o (by rw[g];exact h)
  ·exact n g b (by omega) h
theorem sj:∀(H c:List Int),c.length=H.length→(∀d,H.getD d 0≠-1→c.getD d 0=H.getD d 0)→dE c≤dE H∧(c≠H→dE c<dE H)
 |[],[],_,_=>⟨Nat.le_refl _,fun b=>absurd rfl b⟩
 |[],_::_,b,_=>by simp at b
 |_::_,[],b,_=>by simp at b
 |e::H,o::c,n,b=>by
  obtain⟨p,i⟩:=sj H c (by simpa using n) (fun d m=>by have:=b (d+1) (by simpa using m);simpa using this);have k:=b 0;simp only[List.getD_cons_zero]at k;have j:∀(e:Int)(H:List Int),dE (e::H)=(if e=-1 then 1 else 0)+dE H:=by
   intro e H;unfold dE;rw[List.filter_cons];split;·rename_i a;simp at a;rw[if_pos a];simp;omega
   ·rename_i a;simp at a;rw[if_neg a];simp
  rw[j,j];by_cases a:e=-1
  ·by_cases f:o=-1;·rw[if_pos a,if_pos f];refine⟨by omega,fun g=>?_⟩;have:=i (fun h=>g (by rw[h,a,f]));omega
   ·rw[if_pos a,if_neg f];exact⟨by omega,fun _=>by omega⟩
  ·have l:=k a;rw[l,if_neg a];refine⟨by omega,fun g=>?_⟩;have:=i (fun h=>g (by rw[h]));omega
theorem wM{p:List Fn}{c:List (Int×Int)}(k:du p c):∀(f:Nat)(H a:List Int),Inv c H→dK p c H→fQ p c f H=some a→bW H a∧Inv c a∧dK p c a∧(dZ p c c.length a=some a∨dE a+f≤dE H)
 |0,H,a,h,i,d=>by simp[fQ]at d;subst d;exact⟨bW.refl _,h,i,.inr (by omega)⟩
 |f+1,H,a,h,i,d=>by
  simp only[fQ]at d;obtain⟨e,l,h2⟩:=Option.bind_eq_some_iff.1 d;obtain⟨o,m,q,b⟩:=wM k f H e h i l;obtain⟨j,n,r,_⟩:=rL k c.length e a (Nat.le_refl _) m h2;refine⟨o.trans j,n,r q,?_⟩;by_cases g:a=e;·subst g;exact .inl h2
  ·rcases b with b|b;·rw[h2]at b;exact absurd (Option.some.inj b) g
   ·have:=(sj e a j.1 j.2).2 g;exact .inr (by omega)
theorem si(H:List Int):dE H≤H.length:=List.length_filter_le _ _
theorem pf{c:List (Int×Int)}(f:0<c.length):Inv c ((start c).set 0 0)∧(∀a,a<c.length→((start c).set 0 0).getD a 0=if a=0 then 0 else-1):=by
 have e:(start c).length=c.length:=by simp[start]
 have d:∀a,a<c.length→((start c).set 0 0).getD a 0=if a=0 then 0 else-1:=by
  intro a b;rw[fW (by omega)];split;·rfl
  ·simp[start,List.getD,b]
 refine⟨⟨by simpa using e,fun a b=>?_⟩,d⟩;rw[d a b];split;·exact .inr (by omega)
 ·exact .inl rfl
theorem iV{p:List Fn}{c:List (Int×Int)}(j:du p c){H:List Int}(a:bG p c=some H):Cons p c H∧dK p c H:=by
 unfold bG at a;by_cases f:c.length=0;·rw[if_pos f]at a;cases a
 ·rw[if_neg f]at a;obtain⟨i,h⟩:=pf (c:=c) (by omega);have r:dK p c ((start c).set 0 0):=by
   intro d b;rw[h d b];split;·rename_i n;subst n;exact .inr ⟨by omega,Reach.zero p c⟩
   ·exact .inl rfl
  obtain⟨t,k,u,l⟩:=wM j _ _ H i r a;have s:=si ((start c).set 0 0);rw[i.1]at s;have o:dZ p c c.length H=some H:=by
   rcases l with e|e;·exact e
   ·omega
  obtain⟨_,_,_,m⟩:=rL j c.length H H (Nat.le_refl _) k o;refine⟨⟨k.1,by omega,?_,fun d b q=>m rfl d b q⟩,u⟩;have g:=h 0 (by omega);rw[if_pos rfl]at g;rw[t.2 0 (by omega),g]
theorem vX{c:List (Int×Int)}{m:Int}{d:List Int}(i:d.length=c.length):∀(l:List Nat)(H:List Int),bW H d→(∀a,a∈l→a<c.length∧d.getD a 0=m)→∃g,db c.length l m H=some g∧bW g d
 |[],H,b,_=>⟨H,rfl,b⟩
 |a::l,H,b,h=>by
  obtain⟨n,h2⟩:=h a (by simp);have p:a<H.length:=by rw[←b.1,i];exact n
  unfold db;rw[if_neg]
  ·refine vX i l (H.set a m) ⟨by simpa using b.1,fun r f=>?_⟩ (fun q o=>h q (by simp[o]));rw[fW p]at f⊢;split;·rename_i e;rw[e,h2]
   ·rename_i e;rw[if_neg e]at f;exact b.2 r f
  ·rintro(j|⟨j,k⟩);·omega
   ·exact k (by rw[←b.2 a (by omega),h2])
theorem wL{p:List Fn}{c:List (Int×Int)}{a:List Int}(e:Cons p c a):∀(k:Nat)(H:List Int),k≤c.length→bW H a→∃g,dZ p c k H=some g∧bW g a
 |0,H,_,d=>⟨H,rfl,d⟩
 |k+1,H,r,d=>by
  obtain⟨b,l,f⟩:=wL e k H (by omega) d;simp only[dZ,l,Option.bind_some];unfold gW;by_cases i:b.getD k 0<0;·rw[if_pos i];exact⟨b,rfl,f⟩
  ·rw[if_neg i];have j:=f.2 k (by omega);obtain⟨q,s,o,m,n⟩:=e.done k (by omega) (by omega);have h:=aD c k (0,0) (by omega);rw[o]at h;rw[←Option.some.inj h,←j,m];exact vX e.len (bx q k) b f n
theorem rM{p:List Fn}{c:List (Int×Int)}{a:List Int}(f:Cons p c a):∀(d:Nat)(H:List Int),bW H a→∃e,fQ p c d H=some e∧bW e a
 |0,H,b=>⟨H,rfl,b⟩
 |d+1,H,b=>by obtain⟨g,h,i⟩:=rM f d H b;simp only[fQ,h,Option.bind_some];exact wL f c.length g (Nat.le_refl _) i
theorem rZ{p:List Fn}{c:List (Int×Int)}{f:List Int}(a:Cons p c f):bW ((start c).set 0 0) f∧bW (start c) f:=by
 obtain⟨h,i⟩:=pf (c:=c) a.pos;refine⟨⟨a.len.trans h.1.symm,fun e b=>?_⟩,⟨a.len.trans (by simp[start]),fun e b=>?_⟩⟩
 ·by_cases d:e<c.length
  ·rw[i e d]at b⊢;split;·rename_i g;rw[g];exact a.first
   ·rename_i g;rw[if_neg g]at b;exact absurd rfl b
  ·simp[List.getD,a.len,h.1,d]
 ·by_cases d:e<c.length;·exact absurd (by simp[start,List.getD,d]) b
  ·simp[List.getD,a.len,start,d]
def py(p:List Fn)(c:List (Int×Int)):Bool×List Int:=ey p c (c.length+1) (start c) 0 0
theorem xv{p:List Fn}{c:List (Int×Int)}(i:du p c){H:List Int}(g:py p c=(true,H)):Cons p c H∧dK p c H:=by
 have e:(start c).length=c.length:=by simp[start]
 have d:∀a,a<c.length→(start c).getD a 0=-1:=fun a b=>by simp[start,List.getD,b]
 obtain⟨j,a1,a2,f,k⟩:=qa i _ _ _ _ H e (by omega) g;refine⟨⟨j.1.trans e,by omega,a2,fun a b h=>f a b (d a b) h⟩,k (Reach.zero p c) (fun a b=>.inl (d a b))⟩
theorem xw{p:List Fn}{c:List (Int×Int)}(d:du p c):(∀b,py p c=(true,b)→bG p c=some b)∧(∀b,bG p c=some b→py p c=(true,b)):=by
 constructor
 ·intro b i;obtain⟨a,g⟩:=xv d i;obtain⟨j,e,_⟩:=rM a (c.length+1) _ (rZ a).1;have k:bG p c=some j:=by unfold bG;rw[if_neg (by have:=a.pos;omega)];exact e
  obtain⟨f,h⟩:=iV d k;rw[k,qc d a g f h]
 ·intro b i;obtain⟨a,g⟩:=iV d i;have l:=si (start c);rw[show(start c).length=c.length by simp[start]]at l;obtain⟨j,e,_⟩:=tp d a (c.length+1) (start c) 0 0 (rZ a).2 (by omega) a.pos a.first (by omega);obtain⟨f,h⟩:=xv d e;rw[qc d a g f h];exact e
def dn(e:Nat→Int):Nat→Nat→Int
 |_,0=>0
 |a,b+1=>if e a=0 then dn e (a+1) b else e a
theorem my{e:Nat→Int}:∀{n k:Nat},dn e k n=0→∀a,k≤a→a<k+n→e a=0
 |0,_,_,a,d,h2=>by omega
 |n+1,k,b,a,d,h2=>by
  unfold dn at b;split at b
  ·rename_i c;rcases Nat.lt_or_eq_of_le d with h3|rfl;·exact my b a h3 (by omega)
   ·exact c
  ·rename_i c;exact absurd b c
theorem nI{e:Nat→Int}{k m:Nat}(c:k<m):dn e k (m-k)=if e k=0 then dn e (k+1) (m-(k+1))else e k:=by obtain⟨a,b⟩:∃a,m-k=a+1:=⟨m-k-1,by omega⟩;rw[b,show m-(k+1)=a by omega];rfl
def eh(p:List Fn)(k:Nat):Int:=match bG p (codeOf p k)with|some _=>0|none=>1
def aL(p:List Fn):Int:=if 5<p.length then 2 else if p.length=0 then 5 else if(p.getD 0 Fn.zero).args≠0 then 1 else if dn (fun a=>bo p a) 0 p.length=0 then dn (eh p) 0 p.length else dn (fun a=>bo p a) 0 p.length
theorem fO{p:List Fn}(a:aL p=0):p.length≤5∧0<p.length∧∀b,b<p.length→bo p b=0:=by
 unfold aL at a;split at a;·cases a
 ·split at a;·cases a
  ·split at a;·cases a
   ·split at a;·rename_i c;exact⟨by omega,by omega,fun b d=>my c b (by omega) (by omega)⟩
    ·rename_i c;exact absurd a c
theorem pX{p:List Fn}{k:Nat}(a:bo p k=0):k<p.length∧(codeOf p k).length≤24∧dY p (p.getD k Fn.zero) (codeOf p k)=0:=by
 unfold bo at a;split at a
 ·rename_i b;simp only[Int.toNat_natCast]at a;split at a;·cases a
  ·split at a;·exact⟨by omega,by unfold codeOf;omega,a⟩
   ·cases a
 ·cases a
open Go.RowKit Go.Maps
structure gL(p:List Fn):Prop where
 len:p.length≤5
 fn:∀a∈p,(0≤a.args∧a.args≤4)∧(0≤a.locals∧a.locals≤4)∧a.code.length≤24∧∀b∈a.code,(0≤b.1∧b.1<17)∧(0≤b.2∧b.2≤999)∧((aJ.getD b.1.toNat ([],0)).2=0→b.2=0)
theorem IZ(k:Nat)(a:k<17):(aJ.getD k ([],0)).2=0→bA k=0:=by revert a;revert k;decide
theorem kq{p:List Fn}(g:aL p=0):gL p:=by
 obtain⟨i,h2,h3⟩:=fO g;refine⟨i,fun t j=>?_⟩;obtain⟨b,c,rfl⟩:=List.getElem_of_mem j;obtain⟨m,u,v,d,e,f⟩:=gN (h3 b c);obtain rfl:b=m:=by omega
 have k:p.getD b Fn.zero=p[b]:=by simp[List.getD,c]
 rw[k]at d e f;obtain⟨n,w,o⟩:=fg.1 e;refine⟨⟨n,by omega⟩,⟨by omega,o⟩,d,fun s l=>?_⟩;obtain⟨q,r,a⟩:=ei (gh f s l);refine⟨⟨q,r⟩,?_,fun h=>?_⟩
 ·unfold bZ at a;split at a;·have:=of_decide_eq_true a;omega
  ·split at a;·have:=iX.1 a;omega
   ·split at a;·have:=cZ.1 a;omega
    ·split at a;·have:=cZ.1 a;omega
     ·have:=cZ.1 (Bool.and_eq_true_iff.1 a).1;omega
 ·rw[IZ _ (by omega) h]at a;simpa[bZ]using a
theorem xf(l:List UInt8):Lib.strCells ⟨l.toArray⟩=Lib.byteCells l:=by simp[Lib.strCells,Lib.byteCells]
theorem tc(a b:List UInt8):Lib.byteCells (a++b)=Lib.byteCells a++Lib.byteCells b:=by simp[Lib.byteCells]
theorem xA(w:World)(B b:Nat)(l t:List UInt8)(e:dA B b (Lib.byteCells l) w)(g:B≤w.heap.size)(h:l.length+t.length≤1000000):Calls prog 16 #[.pointer (some ⟨b,0,none⟩),.string ⟨t.toArray⟩] w fun d a=>d=.returned (.tuple #[.int .i64 t.length,.nilIface])∧dA B b (Lib.byteCells (l++t)) a∧Below B w a∧eK w a:=by
 have c:(ByteArray.mk t.toArray).size=t.length:=by simp[ByteArray.size]
 have:=xB w B b _ ⟨t.toArray⟩ e g (by rw[Lib.byteCells_length,c];omega);rw[c,xf,←tc]at this;exact this.mono fun _ _⟨f,h2,h3⟩=>⟨f,.inr h2,h3⟩
theorem lg(wd:List UInt8)(l:List Int)(e:wd.length≤6)(f:l.length≤2)(c:∀b∈l,aI b):(cJ wd l).length≤100:=by
 have:=kZ (wd::l.map Lib.itoa) 20 (fun g a=>by
  rcases List.mem_cons.1 a with rfl|a;·omega
  ·obtain⟨b,d,rfl⟩:=List.mem_map.1 a;exact gP (c b d));simp only[List.length_cons,List.length_map]at this;have h2:(l.length+1)*(20+1)≤3*21:=Nat.mul_le_mul (by omega) (by omega);simp only[cJ,List.length_append,List.length_cons,List.length_nil];omega
theorem oy{x:Int×Int}(a:0≤x.2∧x.2≤999):(cM x).length≤100:=by
 unfold cM;have:=mY x.1.toNat;split;·exact lg _ _ (by omega) (by simp) (by simp)
 ·exact lg _ _ (by omega) (by simp) (by simp;unfold aI;omega)
theorem jZ{α:Type}(g:α→List UInt8)(K:Nat):∀(l:List α),(∀a∈l,(g a).length≤K)→(l.flatMap g).length≤l.length*K
 |[],_=>by simp
 |a::l,b=>by have e:=b a (by simp);have h2:=jZ g K l (fun d c=>b d (by simp[c]));simp only[List.flatMap_cons,List.length_append,List.length_cons,Nat.add_mul];omega
theorem mA{α:Type}(g:α→List UInt8)(l:List α){k:Nat}{x:α}(a:l[k]?=some x):(l.take (k+1)).flatMap g=(l.take k).flatMap g++g x:=by rw[List.take_add_one,a,List.flatMap_append];simp
theorem BB{p:List Fn}(a:gL p){f:Fn}(c:f∈p):(bL f).length≤2500:=by obtain⟨g,h2,h3,b⟩:=a.fn f c;have h:=lg [102,117,110,99] [f.args,f.locals] (by simp) (by simp) (by simp;unfold aI;omega);have i:=jZ cM 100 f.code (fun e d=>oy (b e d).2.1);have:f.code.length*100≤24*100:=Nat.mul_le_mul_right _ h3;simp only[bL,List.length_append];omega
theorem sb{p:List Fn}(a:gL p)(k:Nat):((p.take k).flatMap bL).length≤12500:=by
 have:=jZ bL 2500 (p.take k) (fun d c=>BB a (List.mem_of_mem_take c));have e:=a.len;have b:(p.take k).length≤5:=by simp;omega
 have:(p.take k).length*2500≤5*2500:=Nat.mul_le_mul_right _ b;omega
theorem Ht(w:World)(p:List Fn)(b2:Value)(g8:aK w b2 p)(a4:gL p)(c9:dv w)(T:iR w)(c0:Hid (Calls prog 25 #[b2] w fun i j=>i=.returned (.int .i64 0)∧J w j)):Calls prog 9 #[b2] w fun i j=>i=.returned (.tuple #[aG (bI p),.int .i64 0])∧J w j:=by
 have b7:=R a4;have c2:=R c9;have g1:=R T;obtain⟨i8,h5,rfl,g6,S⟩:=g8;have e4:=R S;have i6:=a4.len;generalize c5:p.length=H at*;have b6:=R c5;clear a4 c9 T S c5 g6;go_enter func9,ntmps9;go_wp2_with fail;refine(U c0).mono ?_;rintro _ e⟨rfl,e1⟩;have A:=R e1;clear e1 c0;go_wp2_with fail;obtain⟨b,O⟩:∃a9,a9=e.heap.size:=⟨_,rfl⟩;have W:Hid (dA b b (Lib.byteCells []) (e.alloc (.cells #[.pointer none,.slice none 0 0] 51))∧J e (e.alloc (.cells #[.pointer none,.slice none 0 0] 51))):=R ⟨by rw[O];exact dA.new e,(J.refl e).alloc _⟩;rw[←O];have t:Hid (b=e.heap.size):=R O;clear O;generalize e.alloc (.cells #[.pointer none,.slice none 0 0] 51)=j0 at*;go_loopw[17](fun b0 wr=>∃d:Nat,d≤H∧b0=.int .i64 d∧Hid (dA b b (Lib.byteCells ((p.take d).flatMap bL)) wr∧J e wr))(fun b0 _=>H-(intOf b0).toNat);case atStart=>exact⟨0,Nat.zero_le _,rfl,R ⟨by simpa using(U W).1,(U W).2⟩⟩
 case round=>
  obtain⟨d,i4,rfl,h⟩:=hrel;clear W;by_cases T:d<H
  ·obtain⟨a,Q⟩:∃a,p[d]?=some a:=⟨_,List.getElem?_eq_getElem (by rw[U b6];exact T)⟩;obtain⟨h4,i9,h6,rfl,Z,a0,a1,g5⟩:=(U e4) d a Q;have g:=(U A).trans (U h).2;replace Z:=g.cell Z;replace a0:=g.cell a0;replace a1:=g.cell a1;have i2:(0:Int)≤(d:Int):=by omega
   have i3:(d:Int)<(H:Int):=by omega
   obtain⟨a7,a3,rfl,g7,c7⟩:=g5;obtain⟨h7,i5,h8,c8⟩:=(U b7).fn a (List.mem_of_getElem? Q);have e3:=R Q;have b9:=R c8;have e5:=R c7;have b5:Hid (∀f L,J w f→f.heap[L]?=some (.cells #[.int .i64 a.args,.int .i64 a.locals] 3)→Calls prog 26 #[.string ⟨#[102,117,110,99]⟩,.slice (some ⟨L,0,none⟩) 2 2] f fun i j=>i=.returned (aG (cJ [102,117,110,99] [a.args,a.locals]))∧J f j):=R fun f L V g4=>sa f [102,117,110,99] _ [a.args,a.locals] ⟨_,_,rfl,by simp,fun c j2 G=>⟨L,0,rfl,by rw[ab g4,Nat.zero_add];match c,G with|0,G=>simpa using G|1,G=>simpa using G⟩⟩ (by simp) (by simp) (by simp;unfold aI;omega) ((U c2).kept V);have K:=R g;generalize g3:a.code.length=o at*;clear Q c8 c7 g g7;go_wp2_with fail;obtain⟨z,P⟩:∃a9,a9=wr.heap.size:=⟨_,rfl⟩;obtain⟨x,F⟩:∃f,f=(wr.alloc (.cells #[.int .i64 a.args,.int .i64 a.locals,.slice a7 o a3] 69)).alloc (.cells #[.int .i64 a.args,.int .i64 a.locals] 3):=⟨_,rfl⟩;have r:Hid (dA b b (Lib.byteCells ((p.take d).flatMap bL)) x∧J e x∧x.heap[z]?=some (.cells #[.int .i64 a.args,.int .i64 a.locals,.slice a7 o a3] 69)∧x.heap[z+1]?=some (.cells #[.int .i64 a.args,.int .i64 a.locals] 3)):=R (by
    have s:J wr x:=by rw[F];exact((J.refl wr).alloc _).alloc _
    exact⟨(U h).1.kept s,(U h).2.trans s,by rw[F,P];exact au (ah rfl) _,by rw[F,P];exact ah (by simp)⟩);rw[←P,←F];clear P F h K Z a0 a1;refine((U b5) x (z+1) ((U A).trans (U r).2.1) (U r).2.2.2).mono ?_;rintro _ y⟨rfl,l⟩;have b4:Hid (((p.take d).flatMap bL).length≤12500∧(cJ [102,117,110,99] [a.args,a.locals]).length≤100):=R ⟨sb (U b7) d,lg _ _ (by simp) (by simp) (by simp;unfold aI;omega)⟩;have B:=R (xA y b b _ (cJ [102,117,110,99] [a.args,a.locals]) ((U r).1.kept l) (by have:=U t;have:=((U r).2.1.trans l).size;omega) (by have:=U b4;omega));have u:Hid (J e y∧y.heap[z]?=some (.cells #[.int .i64 a.args,.int .i64 a.locals,.slice a7 o a3] 69)):=R ⟨(U r).2.1.trans l,aw l (U r).2.2.1⟩;clear l r b5;unfold aG;generalize(cJ [102,117,110,99] [a.args,a.locals]).length=g9 at*;generalize E:(ByteArray.mk (cJ [102,117,110,99] [a.args,a.locals]).toArray)=c4 at*;go_wp2_with fail;refine(U B).mono ?_;rintro _ I⟨rfl,C,m,e0⟩;have Y:Hid (dA b b (Lib.byteCells ((p.take d).flatMap bL++cJ [102,117,110,99] [a.args,a.locals])) I∧J e I):=R ⟨C,Below.trans (U u).1 (by rw[←U t];exact m)⟩;have c3:=e0 z _ _ (by decide) (by decide) (U u).2;have a2:=ab c3 2;clear C m e0 B u c3 E;go_wp2_with fail;clear a2;generalize c6:(p.take d).flatMap bL++cJ [102,117,110,99] [a.args,a.locals]=a8 at*;have e9:Hid (a8.length≤13000):=R (by have:=(U b4).1;have h2:=lg [102,117,110,99] [a.args,a.locals] (by simp) (by simp) (by simp;unfold aI;omega);rw[←c6,List.length_append];omega);go_loopw[31](fun b1 e2=>∃c:Nat,c≤o∧b1=.int .i64 c∧Hid (dA b b (Lib.byteCells (a8++(a.code.take c).flatMap cM)) e2∧J e e2))(fun b1 _=>o-(intOf b1).toNat);case atStart=>exact⟨0,Nat.zero_le _,rfl,R ⟨by simpa using(U Y).1,(U Y).2⟩⟩
   case round=>
    obtain⟨c,i1,rfl,k⟩:=hrel;clear Y;by_cases S:c<o
    ·obtain⟨⟨j1,q⟩,v⟩:∃b3,a.code[c]?=some b3:=⟨_,List.getElem?_eq_getElem (by rw[g3];exact S)⟩;obtain⟨h3,i7,rfl,M,N⟩:=(U e5) c _ v;have g:=(U A).trans (U k).2;replace M:=g.cell M;replace N:=g.cell N;have h9:(0:Int)≤(c:Int):=by omega
     have i0:(c:Int)<(o:Int):=by omega
     obtain⟨a5,a6,_⟩:=(U b9) _ (List.mem_of_getElem? v);simp only at a5 a6 M N;obtain⟨n,rfl⟩:=Int.eq_ofNat_of_zero_le a5.1;have g2:=R v;have b8:Hid (∀f,J w f→Calls prog 27 #[.agg #[.int .i64 n,.int .i64 q]] f fun i j=>i=.returned (aG (cM (n,q)))∧J f j):=R fun f V=>Fs f n q (by omega) (by unfold aI;omega) ((U c2).kept V) ((U g1).kept V);have K:=R g;have g0:Hid ((cM ((n:Int),q)).length≤100):=R (oy a6);clear v g a5 a6;go_wp2_with fail;refine((U b8) _ ((U K).alloc _)).mono ?_;rintro _ y⟨rfl,l⟩;have e8:Hid (((a.code.take c).flatMap cM).length≤2400):=R (by
      have:=jZ cM 100 (a.code.take c) (fun b3 v=>oy ((U b9) b3 (List.mem_of_mem_take v)).2.1);have h2:(a.code.take c).length≤24:=by simp;omega
      have:(a.code.take c).length*100≤24*100:=Nat.mul_le_mul_right _ h2;omega);have s:=((J.refl wr).alloc (.cells #[.int .i64 (n:Int),.int .i64 q] 72)).trans l;have B:=R (xA y b b _ (cM ((n:Int),q)) ((U k).1.kept s) (by have:=U t;have:=((U k).2.trans s).size;omega) (by have:=U e9;have:=U e8;have:=U g0;simp only[List.length_append];omega));have u:Hid (J e y):=R ((U k).2.trans s);clear l s b8 k K M N;unfold aG;generalize(cM ((n:Int),q)).length=g9 at*;generalize E:(ByteArray.mk (cM ((n:Int),q)).toArray)=c4 at*;go_wp2_with fail;refine(U B).mono ?_;rintro _ I⟨rfl,C,m,_⟩;have X:Hid (dA b b (Lib.byteCells (a8++(a.code.take (c+1)).flatMap cM)) I∧J e I):=R ⟨by rw[mA cM a.code (U g2),←List.append_assoc];exact C,Below.trans (U u) (by rw[←U t];exact m)⟩;clear C m B u E;go_wp2_with fail;go_roundw;case rel=>exact⟨c+1,by omega,by go_num,X⟩
     case measure=>simp[intOf];omega
    ·obtain rfl:c=o:=by omega
     have X:Hid (dA b b (Lib.byteCells ((p.take (d+1)).flatMap bL)) wr∧J e wr):=R ⟨by have D:=(U k).1;rw[List.take_of_length_le (by omega),←c6]at D;rw[mA bL p (U e3)];simpa[bL,List.append_assoc]using D,(U k).2⟩;clear k;go_wp2_with fail;go_roundw;case rel=>exact⟨d+1,by omega,by go_num,X⟩
     case measure=>simp[intOf];omega
  ·obtain rfl:d=H:=by omega
   have c1:Hid (Calls prog 20 #[.pointer (some ⟨b,0,none⟩)] wr fun i j=>i=.returned (.string ⟨(bI p).toArray⟩)∧Below b wr j):=R (by have D:=(U h).1;rw[List.take_of_length_le (by rw[U b6];omega)]at D;exact Builder_String_any b b (bI p) wr D (by have:=U t;have:=(U h).2.size;omega));have h1:=R ((U A).trans (U h).2);have e7:=R (U h).2;clear h;go_wp2_with fail;refine(U c1).mono ?_;rintro _ h0⟨rfl,m⟩;have e6:Hid (J w h0):=R ((U A).trans (Below.trans (U e7) (by rw[←U t];exact m)));clear m c1;generalize E:(ByteArray.mk (bI p).toArray)=c4 at*;go_wp2_with fail;go_ret2;exact⟨by rw[aG,E];rfl,U e6⟩
def cu(l:List UInt8):Option Int:=match Lib.atoiAll l with|.ok a=>if 0≤a∧l.length≤6∧Lib.itoa a=l then some a else none|_=>none
def jM(w:World):Prop:=(∃b a,w.var? prog "strconv.ErrSyntax"=some #[.iface b a])∧∃b a,w.var? prog "strconv.ErrRange"=some #[.iface b a]
theorem xr{w w':World}{n:String}{g:Nat}(d:prog.globalNamed n=some g)(k:J w w'){b:Array Value}(a:w.var? prog n=some b):w'.var? prog n=some b:=by
 unfold World.var? at a⊢;rw[d]at a⊢;simp only[Option.bind_some]at a⊢;have e:g<w.heap.size:=by
  cases c:w.heap[g]? with
  |none=>rw[c]at a;cases a
  |some f=>exact(Array.getElem?_eq_some_iff.1 c).1
 rw[k.block _ e];exact a
theorem jM.kept{w w':World}(a:jM w)(k:J w w'):jM w':=by obtain⟨⟨e,c,b⟩,⟨f,d,h2⟩⟩:=a;exact⟨⟨e,c,xr (g:=5) (by kernel_rfl) k b⟩,⟨f,d,xr (g:=6) (by kernel_rfl) k h2⟩⟩
theorem sT{l:List UInt8}{v:Int}(a:Lib.atoiAll l=.ok v):aI v:=by
 cases l with
 |nil=>cases a
 |cons b e=>
  unfold Lib.atoiAll at a;simp only at a;rcases c:Lib.parseMag (if b.toNat=43∨b.toNat=45 then e else b::e)with f|_|_;rotate_left;·rw[c]at a;cases a
  ·rw[c]at a;cases a
  ·rw[c]at a;simp only at a;unfold aI;by_cases d:¬b.toNat=45∧9223372036854775808≤f;·rw[if_pos d]at a;cases a
   ·rw[if_neg d]at a;by_cases h2:b.toNat=45∧9223372036854775808<f;·rw[if_pos h2]at a;cases a
    ·rw[if_neg h2]at a;simp only[Lib.NumEnd.ok.injEq]at a;subst a;split<;>omega
theorem vy(w:World)(l:List UInt8)(v:Int)(a:cu l=some v)(k:dv w):Calls prog 71 #[.string ⟨l.toArray⟩] w fun b e=>b=.returned (.tuple #[.int .i64 v,.bool true])∧J w e:=by
 obtain⟨g,x,o,j⟩:Lib.atoiAll l=.ok v∧0≤v∧l.length≤6∧Lib.itoa v=l:=by
  unfold cu at a;split at a
  ·split at a;·rename_i s;cases a;rename_i p;exact⟨p,s⟩
   ·cases a
  ·cases a
 have q:(ByteArray.mk l.toArray).size=l.length:=by simp[ByteArray.size]
 have h:Hid (Calls prog 106 #[.string ⟨l.toArray⟩] w fun b e=>b=.returned (.tuple #[.int .i64 v,.nilIface])∧J w e):=R ((strconv_Atoi_ok ⟨l.toArray⟩ (by rw[q];omega) v g w).mono fun _ _⟨t,c⟩=>⟨t,by
  rcases c with c|⟨B,c⟩;·rw[c];exact J.refl w
  ·rw[c];exact Lib.bytesWorld_below _ _ _⟩);have i:Hid (∀d,J w d→Calls prog 87 #[.int .i64 v] d fun b e=>b=.returned (.string ⟨l.toArray⟩)∧J d e):=R fun d r=>by have:=qS d v (sT g) (k.kept r);rwa[j]at this
 have z:¬v<0:=by omega
 have y:¬(6:Int)<(l.length:Int):=by omega
 generalize l.length=A at*;generalize(ByteArray.mk l.toArray)=u at*;clear a g o j k;go_enter func71,ntmps71;go_wp2_with fail;refine(U h).mono ?_;rintro _ C⟨rfl,m⟩;have f:=R m;clear m h;go_wp2_with fail;refine((U i) _ (U f)).mono ?_;rintro _ D⟨rfl,n⟩;replace f:=R ((U f).trans n);clear n i;go_wp2_with fail;go_ret2;exact⟨rfl,U f⟩
theorem vx(w:World)(l:List UInt8)(f:cu l=none)(O:l.length≤100000)(m:dv w)(j:jM w):Calls prog 71 #[.string ⟨l.toArray⟩] w fun b g=>b=.returned (.tuple #[.int .i64 0,.bool false])∧J w g:=by
 have k:(ByteArray.mk l.toArray).size=l.length:=by simp[ByteArray.size]
 by_cases t:∃a,Lib.atoiAll l=.ok a
 ·obtain⟨a,i⟩:=t;have r:¬(0≤a∧l.length≤6∧Lib.itoa a=l):=by unfold cu at f;rw[i]at f;simp only at f;intro K;rw[if_pos K]at f;cases f
  have e:Hid (Calls prog 106 #[.string ⟨l.toArray⟩] w fun b g=>b=.returned (.tuple #[.int .i64 a,.nilIface])∧J w g):=R ((strconv_Atoi_ok ⟨l.toArray⟩ (by rw[k];omega) a i w).mono fun _ _⟨n,o⟩=>⟨n,by
   rcases o with o|⟨v,o⟩;·rw[o];exact J.refl w
   ·rw[o];exact Lib.bytesWorld_below _ _ _⟩);have q:Hid (∀p,J w p→Calls prog 87 #[.int .i64 a] p fun b g=>b=.returned (.string ⟨(Lib.itoa a).toArray⟩)∧J p g):=R fun p F=>qS p a (sT i) (m.kept F);by_cases Q:a<0;·generalize(ByteArray.mk l.toArray)=s at*;clear f i r m j k;go_enter func71,ntmps71;go_wp2_with fail;refine(U e).mono ?_;rintro _ x⟨rfl,c⟩;have d:=R c;clear c e q;go_wp2_with fail;go_ret2;exact⟨rfl,U d⟩
  ·by_cases C:l.length≤6
   ·have P:((ByteArray.mk (Lib.itoa a).toArray).toList==(ByteArray.mk l.toArray).toList)=false:=by rw[ByteArray.toList_mk,ByteArray.toList_mk];simp only[beq_eq_false_iff_ne,ne_eq];intro b;exact r ⟨by omega,C,by simpa using b⟩
    have D:¬(6:Int)<(l.length:Int):=by omega
    generalize l.length=G at*;generalize(ByteArray.mk l.toArray)=s at*;generalize(ByteArray.mk (Lib.itoa a).toArray)=N at*;clear f i r m j;go_enter func71,ntmps71;go_wp2_with fail;refine(U e).mono ?_;rintro _ x⟨rfl,c⟩;have d:=R c;clear c e;go_wp2_with fail;refine((U q) _ (U d)).mono ?_;rintro _ S⟨rfl,z⟩;replace d:=R ((U d).trans z);clear z q;go_wp2_with fail;go_ret2;exact⟨rfl,U d⟩
   ·have D:(6:Int)<(l.length:Int):=by omega
    generalize l.length=G at*;generalize(ByteArray.mk l.toArray)=s at*;clear f i r m j;go_enter func71,ntmps71;go_wp2_with fail;refine(U e).mono ?_;rintro _ x⟨rfl,c⟩;have d:=R c;clear c e q;go_wp2_with fail;go_ret2;exact⟨rfl,U d⟩
 ·have e:Hid (Calls prog 106 #[.string ⟨l.toArray⟩] w fun b g=>∃A v h,b=.returned (.tuple #[.int .i64 A,.iface v (.pointer (some ⟨h,0,none⟩))])∧J w g):=R (by
   obtain⟨⟨L,H,B⟩,⟨M,I,h2⟩⟩:=j;have E:∀a,Lib.atoiAll l≠.ok a:=fun a b=>t ⟨a,b⟩;by_cases y:Lib.atoiAll l=.range;·exact(strconv_Atoi_far ⟨l.toArray⟩ (by rw[k];omega) y M I w h2).mono fun _ _⟨h,n,_,_,u⟩=>⟨_,_,h,n,u⟩
   ·exact(strconv_Atoi_bad ⟨l.toArray⟩ (by rw[k];omega) E y L H w B).mono fun _ _⟨h,n,_,_,u⟩=>⟨_,_,h,n,u⟩);generalize(ByteArray.mk l.toArray)=s at*;clear f m j t k;go_enter func71,ntmps71;go_wp2_with fail;refine(U e).mono ?_;rintro _ x⟨A,v,h,rfl,c⟩;have d:=R c;clear c e;go_wp2_with fail;go_ret2;exact⟨rfl,U d⟩
def eQ:Ending:=.panicked [{v:=.iface 22 (.int .i64 1),recovered:=false}]
theorem nC(w:World):Calls prog 63 #[.bool true] w fun a b=>a=.returned (.tuple #[])∧b=w:=by go_enter func63,ntmps63;go_wp2;go_end0;exact⟨rfl,rfl⟩
theorem nB(w:World):Calls prog 63 #[.bool false] w fun a b=>a=eQ∧b=w:=by go_enter func63,ntmps63;go_wp2;exact⟨rfl,rfl,rfl⟩
def fH(w:World)(v:Value)(l:List (List UInt8)):Prop:=∃e b,v=.slice e l.length b∧(l.length≤1000000∧l.length≤b)∧∀(c:Nat)f,l[c]?=some f→∃a d,e=some ⟨a,d,none⟩∧w.cell? ⟨a,d+c,none⟩=some (aG f)
theorem fH.kept{w w':World}{v:Value}{l:List (List UInt8)}(d:fH w v l)(k:J w w'):fH w' v l:=by obtain⟨j,b,c,f,e⟩:=d;refine⟨j,b,c,f,fun h o g=>?_⟩;obtain⟨a,i,m,n⟩:=e h o g;exact⟨a,i,m,k.cell n⟩
def eD:List (List UInt8)→Option (List Int)
 |[]=>some []
 |c::b=>match cu c with|none=>none|some d=>match eD b with|none=>none|some a=>some (d::a)
theorem ot:∀{l:List (List UInt8)}{c:List Int},eD l=some c→l.length=c.length∧∀(i:Nat)b,l[i]?=some b→∃e,c[i]?=some e∧cu b=some e
 |[],c,a=>by cases a;exact⟨rfl,fun i b d=>by simp at d⟩
 |k::l,c,a=>by
  unfold eD at a;split at a;·cases a
  ·rename_i e g;split at a;·cases a
   ·rename_i n f;cases a;obtain⟨h,j⟩:=ot f;refine⟨by simp[h],fun i b d=>?_⟩;cases i with
    |zero=>
     obtain rfl:k=b:=by simpa using d
     exact⟨e,rfl,g⟩
    |succ i=>obtain⟨m,a1,a2⟩:=j i b (by simpa using d);exact⟨m,by simpa using a1,a2⟩
theorem vD:∀{l:List (List UInt8)},eD l=none→∃(c:Nat)(d:List UInt8),l[c]?=some d∧cu d=none∧∀(j:Nat)b,j<c→l[j]?=some b→∃f,cu b=some f
 |[],a=>by cases a
 |b::l,a=>by
  unfold eD at a;split at a;·rename_i e;exact⟨0,b,rfl,e,fun j _ i=>by omega⟩
  ·rename_i f e;split at a
   ·rename_i k;obtain⟨c,d,m,n,o⟩:=vD k;refine⟨c+1,d,by simpa using m,n,fun j h i g=>?_⟩;cases j with
    |zero=>
     obtain rfl:b=h:=by simpa using g
     exact⟨f,e⟩
    |succ j=>exact o j h (by omega) (by simpa using g)
   ·cases a
def mf(l:List (List UInt8))(w:World)(e:Ending)(w':World):Prop:=match eD l with|some a=>∃c,e=.returned (.slice (some ⟨c,0,none⟩) a.length a.length)∧(∃b,w'.heap[c]?=some (.cells b 3)∧∀(d:Nat)f,a[d]?=some f→b[d]?=some (.int .i64 f))∧J w w'|none=>e=eQ∧J w w'
theorem CP:(prog.info? 3).map (fun a=>(a.zero,a.size,a.bytes))=some (some (.int .i64 0),1,8):=by kernel_rfl
theorem vi(m:Nat)(h:m≤1000000)(u:World):(Instr.makeSlice 30 (.int .i64 m) (.int .i64 m)).run prog u=.ok (.slice (some ⟨u.heap.size,0,none⟩) m m) (u.alloc (.cells (Array.replicate m (Value.int .i64 0)) 3)):=by
 obtain⟨f,b,c,d,e⟩:=info_parts CP;have a:=run_make (P:=prog) u 30 3 f (.int .i64 0) underlying30 b c .i64 .i64 (m:Int) (m:Int) (by omega) (Int.le_refl _) (by rw[e];omega) (by omega);rw[Int.toNat_natCast]at a;rw[show Array.replicate m (Value.int .i64 0)=madeCells #[Value.int .i64 0] (m*1)by
  apply Array.ext;·simp[madeCells]
  ·intro i g h2;simp[madeCells,Nat.mod_one]];simpa[d,Value.cells]using a
theorem Ew(w:World)(v:Value)(l:List (List UInt8))(b9:fH w v l)(X:∀a∈l,a.length≤100000)(Z:dv w)(V:jM w):Calls prog 93 #[v] w (mf l w):=by
 obtain⟨e8,c8,rfl,e6,H⟩:=b9;have c3:=vi l.length (by omega);have b0:=R X;have a8:=R H;have O:=R Z;have a2:=R V;have b5:Hid (∀y,Calls prog 63 #[.bool true] y fun t N=>t=.returned (.tuple #[])∧N=y):=R nC;have b4:Hid (∀y,Calls prog 63 #[.bool false] y fun t N=>t=eQ∧N=y):=R nB;obtain⟨i,e2,S⟩:∃i,i≤l.length∧((∃k,eD l=some k∧i=l.length)∨(eD l=none∧i<l.length∧∃a,l[i]?=some a∧cu a=none))∧∀(D:Nat)o,D<i→l[D]?=some o→∃d,cu o=some d:=by
  cases m:eD l with
  |some k=>exact⟨l.length,Nat.le_refl _,.inl ⟨k,rfl,rfl⟩,fun D o _ u=>by obtain⟨d,_,c4⟩:=(ot m).2 D o u;exact⟨d,c4⟩⟩
  |none=>obtain⟨c,a,x,L,c5⟩:=vD m;have:=(List.getElem?_eq_some_iff.1 x).1;exact⟨c,by omega,.inr ⟨rfl,this,a,x,L⟩,c5⟩
 have F:=R S;generalize T:l.length=g at*;have z:Hid (∃e,(w.alloc (.cells (Array.replicate g (Value.int .i64 0)) 3)).heap[w.heap.size]?=some (.cells e 3)∧e.size=g∧(∀(c:Nat)a d,c<0→l[c]?=some a→cu a=some d→e[c]?=some (.int .i64 d))∧J w (w.alloc (.cells (Array.replicate g (Value.int .i64 0)) 3))):=R ⟨_,ah rfl,by simp,fun c a d C=>by omega,(J.refl w).alloc _⟩;have G:=R T;clear H T Z V X S;go_enter func93,ntmps93;go_wp2_with fail;generalize w.alloc (.cells (Array.replicate g (Value.int .i64 0)) 3)=e9 at z⊢;obtain⟨h,Q⟩:∃h,h=w.heap.size:=⟨_,rfl⟩;rw[←Q]at z⊢;have a7:Hid (w.heap.size≤h):=R (by omega);clear Q c3;go_loopw[13](fun M wr=>∃b:Nat,b≤i∧M=.int .i64 b∧Hid (∃e,wr.heap[h]?=some (.cells e 3)∧e.size=g∧(∀(c:Nat)a d,c<b→l[c]?=some a→cu a=some d→e[c]?=some (.int .i64 d))∧J w wr))(fun M _=>g-(intOf M).toNat);case atStart=>obtain⟨e,c0⟩:=U z;exact⟨0,Nat.zero_le _,rfl,R ⟨e,c0⟩⟩
 case round=>
  obtain⟨b,e5,rfl,A⟩:=hrel;clear z;by_cases c1:b<g
  ·obtain⟨e,a3,a4,a5,a6⟩:=U A;obtain⟨a,f⟩:∃a,l[b]?=some a:=⟨_,List.getElem?_eq_getElem (by rw[U G];exact c1)⟩;obtain⟨c6,e7,rfl,s⟩:=(U a8) b a f;replace s:=a6.cell s;unfold aG at s;have e3:(0:Int)≤(b:Int):=by omega
   have e4:(b:Int)<(g:Int):=by omega
   have I:=(U b0) a (List.mem_of_getElem? f);by_cases c2:b<i
   ·obtain⟨d,j⟩:=(U F).2 b a c2 f;have r:=R (vy wr a d j ((U O).kept a6));have P:=R (And.intro f j);have q:=R (And.intro a3 (And.intro a4 (And.intro a5 a6)));generalize(ByteArray.mk a.toArray)=b6 at*;clear f j a3 a4 a5 a6 A I;go_wp2_with fail;refine(U r).mono ?_;rintro _ E⟨rfl,n⟩;obtain⟨a3,a4,a5,a6⟩:=U q;have B:=aw n a3;obtain⟨c9,c7⟩:∃b8,E.cell? ⟨h,b,none⟩=some b8:=⟨_,(ab B b).trans (Array.getElem?_eq_getElem (by omega))⟩;have e0:=an B b;have b2:Hid (∃e,(E.setCell ⟨h,b,none⟩ (.int .i64 d)).heap[h]?=some (.cells e 3)∧e.size=g∧(∀(c:Nat)a d,c<b+1→l[c]?=some a→cu a=some d→e[c]?=some (.int .i64 d))∧J w (E.setCell ⟨h,b,none⟩ (.int .i64 d))):=R (by
     refine⟨e.setIfInBounds b (.int .i64 d),ay B b _,by simp[a4],fun c o a1 H u K=>?_,(a6.trans n).setCell (p:=⟨h,b,none⟩) (U a7) _⟩;rw[Array.getElem?_setIfInBounds];by_cases W:c=b;·subst W;rw[if_pos rfl,if_pos (by omega)];rw[(U P).1]at u;cases u;rw[(U P).2]at K;cases K;rfl
     ·rw[if_neg (fun t=>W t.symm)];exact a5 c o a1 (by omega) u K);clear a3 a4 a5 a6 B n q r s;go_wp2_with fail;refine((U b5) _).mono ?_;rintro _ _⟨rfl,rfl⟩;go_wp2_with fail;go_roundw;case rel=>exact⟨b+1,by omega,by go_num,b2⟩
    case measure=>simp[intOf];omega
   ·obtain rfl:b=i:=by omega
    rcases(U F).1 with⟨k,_,C⟩|⟨Y,_,g0,a0,j⟩;·omega
    ·rw[f]at a0;cases a0;have r:=R (vx wr a j I ((U O).kept a6) ((U a2).kept a6));have q:=R a6;have b3:=R Y;generalize(ByteArray.mk a.toArray)=b6 at*;clear f j a3 a4 a5 a6 A I Y;go_wp2_with fail;refine(U r).mono ?_;rintro _ E⟨rfl,n⟩;have a9:=R ((U q).trans n);clear n q r s;go_wp2_with fail;refine((U b4) _).mono ?_;rintro _ _⟨rfl,rfl⟩;dsimp only[eQ];go_wp2_with fail;refine⟨rfl,?_⟩;unfold mf;rw[U b3];exact⟨rfl,U a9⟩
  ·obtain⟨k,m,C⟩:∃k,eD l=some k∧i=g:=by
    rcases(U F).1 with⟨k,m,C⟩|⟨_,e1,_⟩;·exact⟨k,m,C⟩
    ·omega
   obtain rfl:b=g:=by omega
   go_wp2;go_ret;obtain⟨e,a3,a4,a5,a6⟩:=U A;unfold mf;rw[m];obtain⟨x,L⟩:=ot m;refine⟨h,by rw[←x,U G];rfl,⟨e,a3,fun c d j=>?_⟩,a6⟩;obtain⟨a,f⟩:∃a,l[c]?=some a:=⟨_,List.getElem?_eq_getElem (by rw[x];exact(List.getElem?_eq_some_iff.1 j).1)⟩;obtain⟨a1,b1,b7⟩:=L c a f;rw[j]at b1;cases b1;exact a5 c a d (by have:=(List.getElem?_eq_some_iff.1 f).1;have:=U G;omega) f b7
def dW(l:List UInt8):Option Nat:=aJ.findIdx? (fun a=>a.1==l)
def mb(l:List UInt8)(w:World)(e:Ending)(w':World):Prop:=match dW l with|some a=>e=.returned (.int .i64 (a:Nat))∧J w w'|none=>e=eQ∧J w w'
theorem pq(k:Nat)(a:k<aJ.length):aJ[k]=aJ.getD k ([],0):=by rw[List.getD_eq_getElem?_getD,List.getElem?_eq_getElem a];rfl
def po:List Value:=aJ.flatMap fun a=>[aG a.1,.int .i64 (a.2:Nat)]
theorem JE{c:Array Oper}{rest:List Oper}{o:Oper}{a:Act}{b:Exit→Act→World→Prop}(w:World)(f:o.guard=none){v:Value}{w':World}(g:(execOp a.eval o).run prog w=.ok (.value v) w')(d:wpList prog c b rest (a.put o.dst v) w'):wpList prog c b (o::rest) a w:=wpList_plain f fun h e=>by unfold Oper.wp;simp only[g];exact e _ _ d
theorem Dy(w:World)(C:Array Value)(b:(loadCellsFrom ⟨0,0,none⟩ 0 34 #[]).run prog w=.ok C w)(a:Act)(o:Oper)(c:o.op=.load 108 (.global 0)):(execOp a.eval o).run prog w=.ok (.value (.agg C)) w:=by unfold execOp;simp only[c,Act.eval,Instr.loadAt,Instr.sureAddr,loadVar,Sem.run_bind,Sem.run_pure,isAgg108,sizeOf108,Result.andThen_ok,if_true,loadCells,b]
theorem CL(w:World)(C:Array Value)(k:Nat)(m:k<17){a b:Value}(d:C[k*2]?=some a)(c:C[k*2+1]?=some b):(Instr.index 108 (.agg C) (.int .i64 (k:Int))).run prog w=.ok (.agg #[a,b]) w:=by
 have g:prog.underlying 108=some (.array 17 107):=underlying108;have o:k*2+1<C.size:=(Array.getElem?_eq_some_iff.1 c).1;have f:C.extract (k*2) (k*2+2)=#[a,b]:=by
  apply Array.ext;·simp;omega
  ·intro h n e;simp only[List.size_toArray,List.length_cons,List.length_nil]at e;rw[Array.getElem?_eq_some_iff]at d c;obtain⟨p,i⟩:=d;obtain⟨q,j⟩:=c;rw[Array.getElem_extract];match h,e with|0,_=>simpa using i|1,_=>simpa using j
 simp[Instr.index,asIntOf,run_underlying g,part,isAgg107,sizeOf107,f];intro l;omega
theorem IL(w:World)(l:List UInt8)(c:iR w):Calls prog 134 #[.string ⟨l.toArray⟩] w (mb l w):=by
 obtain⟨f,t,v⟩:∃f:Array Value,(∀a,a<17→f[a*2]?=some (aG (aJ.getD a ([],0)).1)∧f[a*2+1]?=some (.int .i64 ((aJ.getD a ([],0)).2:Nat)))∧(loadCellsFrom ⟨0,0,none⟩ 0 34 #[]).run prog w=.ok f w:=by
  have n:∀a,a<17→po[a*2]?=some (aG (aJ.getD a ([],0)).1)∧po[a*2+1]?=some (.int .i64 ((aJ.getD a ([],0)).2:Nat)):=fun a c=>by
   obtain rfl|rfl|rfl|rfl|rfl|rfl|rfl|rfl|rfl|rfl|rfl|rfl|rfl|rfl|rfl|rfl|rfl:a=0∨a=1∨a=2∨a=3∨a=4∨a=5∨a=6∨a=7∨a=8∨a=9∨a=10∨a=11∨a=12∨a=13∨a=14∨a=15∨a=16:=by omega
   all_goals exact⟨rfl,rfl⟩
  refine⟨po.toArray,fun a c=>by simpa using n a c,?_⟩;have:=run_loadCells_list (P:=prog) w ⟨0,0,none⟩ po (fun b L e=>by
   have A:(⟨0,0,none⟩:Addr).add b=⟨0,b,none⟩:=by unfold Addr.add;split<;>simp_all
   rw[A,←e];have E:b<34:=(List.getElem?_eq_some_iff.1 e).1;obtain⟨a,rfl|rfl⟩:∃a,b=a*2∨b=a*2+1:=⟨b/2,by omega⟩;·rw[(c a (by omega)).1,(n a (by omega)).1]
   ·rw[(c a (by omega)).2,(n a (by omega)).2]);exact this
 generalize u:(ByteArray.mk l.toArray)=s at*;go_enter func134,ntmps134;go_upto_region 1 with fail;refine wp_region_list ?_;refine JE w rfl (Dy w f v _ _ rfl) ?_;clear v;go_wp2_with fail;have B:=R c;have r:=R u;have q:=R t;clear c u t;go_loopw[6](fun p wr=>∃a:Nat,a≤17∧p=.int .i64 a∧Hid (J w wr∧∀b,b<a→(aJ.getD b ([],0)).1≠l))(fun p _=>17-(intOf p).toNat);case atStart=>exact⟨0,Nat.zero_le _,rfl,R ⟨J.refl w,fun b e=>by omega⟩⟩
 case round=>
  obtain⟨a,H,rfl,d⟩:=hrel;by_cases c:a<17
  ·have F:(0:Int)≤(a:Int):=by omega
   have G:(a:Int)<17:=by omega
   obtain⟨i,m⟩:=(U q) a c;unfold aG at i;have D:=CL wr f a c i m;have k:=R ((U d).1.alloc (.cells #[.string ⟨(aJ.getD a ([],0)).1.toArray⟩,.int .i64 ((aJ.getD a ([],0)).2:Nat)] 107));by_cases g:(aJ.getD a ([],0)).1=l
   ·have o:((ByteArray.mk (aJ.getD a ([],0)).1.toArray).toList==s.toList)=true:=by rw[←U r,g];simp
    have j:Hid (dW l=some a):=R (by
     unfold dW;rw[List.findIdx?_eq_some_iff_getElem];refine⟨show a<aJ.length from c,?_,fun b e=>?_⟩;·rw[pq];simpa using g
     ·have h:=(U d).2 b e;rw[pq];simpa using h);generalize(ByteArray.mk (aJ.getD a ([],0)).1.toArray)=z at*;generalize(aJ.getD a ([],0)).2=I at*;clear i m g d q;go_wp2_with fail;go_ret;unfold mb;rw[U j];exact⟨rfl,U k⟩
   ·have o:((ByteArray.mk (aJ.getD a ([],0)).1.toArray).toList==s.toList)=false:=by rw[←U r,ByteArray.toList_mk,ByteArray.toList_mk];simpa using g
    have y:Hid (J w (wr.alloc (.cells #[.string ⟨(aJ.getD a ([],0)).1.toArray⟩,.int .i64 ((aJ.getD a ([],0)).2:Nat)] 107))∧∀b,b<a+1→(aJ.getD b ([],0)).1≠l):=R ⟨U k,fun b e=>by
     by_cases h:b<a;·exact(U d).2 b h
     ·obtain rfl:b=a:=by omega
      exact g⟩;generalize C:(ByteArray.mk (aJ.getD a ([],0)).1.toArray)=z at*;clear i m g d k;go_wp2_with fail;go_roundw;case rel=>exact⟨a+1,by omega,by go_num,y⟩
    case measure=>simp[intOf];omega
  ·obtain rfl:a=17:=by omega
   have j:Hid (dW l=none):=R (by unfold dW;rw[List.findIdx?_eq_none_iff];intro K o;obtain⟨b,e,rfl⟩:=List.getElem_of_mem o;have h:=(U d).2 b e;rw[pq];simpa using h);have x:=R (U d).1;clear d;go_wp2_with fail;refine⟨rfl,?_⟩;unfold mb;rw[U j];exact⟨rfl,U x⟩
