import Derived.Test.YtokhibfenccijaaGreatDoorQB22
set_option maxRecDepth 100000
set_option maxHeartbeats 8000000
namespace Go.Proofs.YtokhibfenccijaaGreatDoor
open Go.Proofs.Tryz
open Go.RowKit
def mE(l:List Fb):Bool:=l.all fun a=>decide (a.U.length≤6)
def jo(l:List Fb)(n:Nat):Bool:=l.all fun a=>fu a.caller n
theorem ny{α:Type}{P:α→Bool}{l:List α}{d:α}(c:∀a,a<l.length→P (l.getD a d)=true):l.all P=true:=by rw[List.all_eq_true];intro f e;obtain⟨a,b,rfl⟩:=List.getElem_of_mem e;simpa[List.getD,b]using c a b
theorem nv{α:Type}{P:α→Bool}{l:List α}{d:α}{i:Nat}(c:i<l.length)(a:P (l.getD i d)=false):l.all P=false:=by rw[Bool.eq_false_iff];intro b;have:=jP (d:=d) b c;rw[a]at this;cases this
theorem sP(p:List Fn)(s:St)(v:Value)(w:World)(X:fo w v p s)(m:Bool)(a:(decide (s.I.length≤5∧s.out.length≤30)&&mE s.I)=m):Calls prog 123 #[v] w fun c h=>c=eZ 2 m∧J w h:=by
 obtain⟨b4,b5,a3,a2,rfl,T,h2,h3,_⟩:=X;obtain⟨a0,P,rfl,a7,E⟩:=T;obtain⟨a1,Q,rfl,b0,_⟩:=h2;have j:=R a;have N:=R E;clear a E h3;generalize D:s.I.length=f at*;generalize V:s.out.length=g at*;have o:=R D;clear D V;by_cases C:f≤5
 ·by_cases q:g≤30
  ·have i:decide ((f:Int)≤5)=true:=decide_eq_true (by omega);have k:decide ((g:Int)≤30)=true:=decide_eq_true (by omega);have a:=U j;rw[decide_eq_true ⟨C,q⟩,Bool.true_and]at a;have B:=R a;clear a j;go_enter func123,ntmps123;go_wp2_with(go_at_call 156;refine(nA _ _ _ _ (by simp) (by simp)).mono ?_;rintro c h⟨rfl,rfl⟩);generalize K:(w.alloc (.cells #[.slice a0 f P,.int .i64 s.now,.slice a1 g Q,a3,a2] 162)).alloc (.cells #[.bool true,.bool true] 4)=M at*;have G:J w M:=by rw[←K];exact((J.refl w).alloc _).alloc _
   have z:=R G;clear K G i k;go_loopw[20](fun x wr=>∃b:Nat,b≤f∧x=.int .i64 b∧Hid (∀e,e<b→(s.I.getD e Fb.zero).U.length≤6)∧Hid (J M wr))(fun x _=>f-(intOf x).toNat);case atStart=>exact⟨0,Nat.zero_le _,rfl,(fun e F=>by omega),J.refl _⟩
   case round=>
    obtain⟨b,a9,rfl,y,n⟩:=hrel;by_cases H:b<f
    ·obtain⟨a4,b2,b6,S,k0,L,W⟩:=(U N) b _ (aD s.I b Fb.zero (by rw[U o];exact H));obtain⟨b3,a6,rfl,a8,_⟩:=W;subst S;have l:=(U z).trans (U n);have l0:=l.cell k0;have b1:=l.cell L;have O:=R l;generalize I:(s.I.getD b Fb.zero).U.length=u at*;generalize(s.I.getD b Fb.zero).caller=a5 at*;have A:=R I;clear l k0 L I;by_cases t:u≤6
     ·have i:decide ((u:Int)≤6)=true:=decide_eq_true (by omega);go_wp2_with(go_at_call 156;refine(fJ _ _ _ _ (by simp)).mono ?_;rintro c h⟨rfl,rfl⟩);go_roundw;case rel=>
       refine⟨b+1,by omega,by go_num,?_,R (((U n).alloc _).alloc _)⟩;intro e F;by_cases c:e=b;·subst c;rw[U A];exact t
       ·exact(U y) e (by omega)
      case measure=>simp[intOf];omega
     ·have i:decide ((u:Int)≤6)=false:=decide_eq_false (by omega);have Y:m=false:=by rw[←U B];exact nv (d:=Fb.zero) (i:=b) (by rw[U o];exact H) (by rw[U A];exact decide_eq_false t)
      subst Y;clear t;go_wp2_with(go_at_call 156;refine(gB _ _ _ _ (by simp)).mono ?_;rintro c h⟨rfl,rfl⟩;dsimp only[left]);exact⟨rfl,rfl,((U O).alloc _).alloc _⟩
    ·have Z:m=true:=by rw[←U B];exact ny (d:=Fb.zero) (fun e F=>decide_eq_true ((U y) e (by have:=U o;omega)))
     subst Z;go_wp2;go_end0;exact⟨rfl,(U z).trans (U n)⟩
  ·have i:decide ((f:Int)≤5)=true:=decide_eq_true (by omega);have k:decide ((g:Int)≤30)=false:=decide_eq_false (by omega);have a:=U j;rw[decide_eq_false (fun r=>q r.2),Bool.false_and]at a;subst a;go_enter func123,ntmps123;go_wp2_with(go_at_call 156;refine(nz _ _ _ true _ (by simp) (by simp)).mono ?_;rintro c h⟨rfl,rfl⟩;dsimp only[left]);exact⟨rfl,rfl,((J.refl w).alloc _).alloc _⟩
 ·have i:decide ((f:Int)≤5)=false:=decide_eq_false (by omega);have a:=U j;rw[decide_eq_false (fun r=>C r.1),Bool.false_and]at a;subst a;by_cases q:g≤30;·have k:decide ((g:Int)≤30)=true:=decide_eq_true (by omega);go_enter func123,ntmps123;go_wp2_with(go_at_call 156;refine(jQ _ _ _ true _ (by simp) (by simp)).mono ?_;rintro c h⟨rfl,rfl⟩;dsimp only[left]);exact⟨rfl,rfl,((J.refl w).alloc _).alloc _⟩
  ·have k:decide ((g:Int)≤30)=false:=decide_eq_false (by omega);go_enter func123,ntmps123;go_wp2_with(go_at_call 156;refine(jQ _ _ _ false _ (by simp) (by simp)).mono ?_;rintro c h⟨rfl,rfl⟩;dsimp only[left]);exact⟨rfl,rfl,((J.refl w).alloc _).alloc _⟩
def lu(s:St):Ending:=if 0<s.I.length then eZ 3 (fu s.now s.I.length&&jo s.I s.I.length)else left 5
theorem yj(p:List Fn)(s:St)(v:Value)(w:World)(a2:fo w v p s)(e0:s.I.length≤1000):Calls prog 124 #[v] w fun b j=>b=lu s∧J w j:=by
 have a4:∀(a:Int)(c:World),J w c→Calls prog 157 #[v,.int .i64 a] c fun b j=>b=.returned (.bool (fu a s.I.length))∧J c j:=fun a c m=>DY p s v a c (a2.kept m);obtain⟨e4,a9,b1,b0,rfl,b9,h2,h3,_⟩:=a2;obtain⟨a8,Y,rfl,c8,a0⟩:=b9;have B:=R a4;have b6:=R a0;clear a4 a0 h3 h2;generalize E:s.I.length=a at*;have C:=R E;generalize f:lu s=V;have o:=R f;unfold lu at f;rw[E]at f;clear E o;by_cases X:0<a
 ·have Z:decide ((0:Int)<(a:Int))=true:=decide_eq_true (by omega);rw[if_pos X]at f;by_cases t:fu s.now a=true
  ·rw[t,Bool.true_and]at f;have o:=R f;have l:=(U B) s.now;rw[t]at l;have z:=R l;clear f l;go_enter func124,ntmps124;go_wp2_with(first|(go_at_call 156;refine(fJ _ _ _ _ (by simp)).mono ?_;rintro b j⟨rfl,rfl⟩)|(go_at_call 157;refine((U z) _ (by repeat(first|exact J.refl _|refine J.alloc ?_ _))).mono ?_;rintro b g⟨rfl,h⟩;have K:g.cell? ⟨w.heap.size,0,none⟩=some (.slice a8 a Y):=h.cell (by simp);have b2:g.cell? ⟨w.heap.size,1,none⟩=some (.int .i64 s.now):=h.cell (by simp);have b3:g.cell? ⟨w.heap.size,2,none⟩=some a9:=h.cell (by simp);have b4:g.cell? ⟨w.heap.size,3,none⟩=some b1:=h.cell (by simp);have b5:g.cell? ⟨w.heap.size,4,none⟩=some b0:=h.cell (by simp);have c4:w.heap.size<g.heap.size:=bJ K;have S:Hid (J w g):=R (J.trans (by repeat(first|exact J.refl _|refine J.alloc ?_ _)) h);clear h));generalize a6:g.alloc (.cells #[.bool true] 4)=I at*;have k:J g I:=by rw[←a6];exact(J.refl g).alloc _
   have x:=k.cell K;have L:=k.cell b2;have M:=k.cell b3;have N:=k.cell b4;have O:=k.cell b5;have b7:Hid (∀c,J I c→c.cell? ⟨w.heap.size,0,none⟩=some (.slice a8 a Y)∧c.cell? ⟨w.heap.size,1,none⟩=some (.int .i64 s.now)∧c.cell? ⟨w.heap.size,2,none⟩=some a9∧c.cell? ⟨w.heap.size,3,none⟩=some b1∧c.cell? ⟨w.heap.size,4,none⟩=some b0):=R (fun c m=>⟨m.cell x,m.cell L,m.cell M,m.cell N,m.cell O⟩);have Q:=R ((U S).trans k);clear a6 k Z K b2 b3 b4 b5 x L M N O c4 S;go_loopw[22](fun H wr=>∃e:Nat,e≤a∧H=.int .i64 e∧Hid (∀i,i<e→fu (s.I.getD i Fb.zero).caller a=true)∧Hid (J I wr))(fun H _=>a-(intOf H).toNat);case atStart=>exact⟨0,Nat.zero_le _,rfl,(fun i a1=>by omega),J.refl _⟩
   case round=>
    obtain⟨e,c9,rfl,P,r⟩:=hrel;by_cases a3:e<a
    ·obtain⟨c6,e2,e5,b8,k0,a7,c0⟩:=(U b6) e _ (aD s.I e Fb.zero (by rw[U C];exact a3));obtain⟨e3,c7,rfl,_,_⟩:=c0;subst b8;have q:=(U Q).trans (U r);have l0:=q.cell k0;have e1:=q.cell a7;obtain⟨x,L,M,N,O⟩:=(U b7) _ (U r);have c3:=bJ x;simp only at c3;have n:=(U B) (s.I.getD e Fb.zero).caller;have y:=R q;generalize a5:(s.I.getD e Fb.zero).caller=W at*;have T:=R a5;clear k0 a7 a5;by_cases u:fu W a=true
     ·rw[u]at n;have A:=R n;clear n q;go_wp2_with(first|(go_at_call 156;refine(fJ _ _ _ _ (by simp)).mono ?_;rintro b j⟨rfl,rfl⟩)|(go_at_call 157;refine((U A) _ (J.trans (U y) (by repeat(first|exact J.refl _|refine J.alloc ?_ _)))).mono ?_;rintro b c5⟨rfl,F⟩));go_roundw;case rel=>
       refine⟨e+1,by omega,by go_num,?_,R ((J.trans (J.trans (U r) (by repeat(first|exact J.refl _|refine J.alloc ?_ _))) F).alloc _)⟩;intro i a1;by_cases b:i=e;·subst b;rw[U T];exact u
       ·exact(U P) i (by omega)
      case measure=>simp[intOf];omega
     ·have G:fu W a=false:=by simpa using u
      rw[G]at n;have A:=R n;have c1:eZ 3 false=V:=by rw[←U o];have:jo s.I a=false:=nv (d:=Fb.zero) (i:=e) (by rw[U C];exact a3) (by rw[U T];exact G);rw[this]
      subst c1;clear n q u G o;go_wp2_with(first|(go_at_call 156;refine(gB _ _ _ _ (by simp)).mono ?_;rintro b j⟨rfl,rfl⟩;dsimp only[left])|(go_at_call 157;refine((U A) _ (J.trans (U y) (by repeat(first|exact J.refl _|refine J.alloc ?_ _)))).mono ?_;rintro b c5⟨rfl,F⟩));exact⟨rfl,rfl,(J.trans (J.trans (U y) (by repeat(first|exact J.refl _|refine J.alloc ?_ _))) F).alloc _⟩
    ·have c2:eZ 3 true=V:=by rw[←U o];have:jo s.I a=true:=ny (d:=Fb.zero) (fun i a1=>(U P) i (by have:=U C;omega));rw[this]
     subst c2;go_wp2;go_end0;exact⟨rfl,(U Q).trans (U r)⟩
  ·have D:fu s.now a=false:=by simpa using t
   rw[D,Bool.false_and]at f;subst f;have l:=(U B) s.now;rw[D]at l;have z:=R l;clear l t D;go_enter func124,ntmps124;go_wp2_with fail;refine(fJ _ _ _ _ (by simp)).mono ?_;rintro b j⟨rfl,rfl⟩;go_wp2_with fail;refine((U z) _ (by repeat(first|exact J.refl _|refine J.alloc ?_ _))).mono ?_;rintro b g⟨rfl,h⟩;go_wp2_with fail;refine(gB _ _ _ _ (by simp)).mono ?_;rintro b j⟨rfl,rfl⟩;dsimp only[left];exact⟨rfl,rfl,(J.trans (by repeat(first|exact J.refl _|refine J.alloc ?_ _)) h).alloc _⟩
 ·have Z:decide ((0:Int)<(a:Int))=false:=decide_eq_false (by omega);rw[if_neg X]at f;subst f;go_enter func124,ntmps124;go_wp2_with(go_at_call 156;refine(gB _ _ _ _ (by simp)).mono ?_;rintro b j⟨rfl,rfl⟩;dsimp only[left]);exact⟨rfl,rfl,((J.refl w).alloc _).alloc _⟩
theorem sO(p:List Fn)(s:St)(v:Value)(w:World)(i8:fo w v p s)(o2:iN p)(B:Bool)(j4:(s.I.all fun t=>t.U.all (bK p))=B):Calls prog 125 #[v] w fun b g=>b=eZ 1 B∧J w g:=by
 have i7:∀(a:Value)(x:Fr)(O:World),J w O→fU O a x→fE p x→Calls prog 159 #[v,a] O fun b g=>b=.returned (.int .i64 (aZ p x))∧J O g:=fun a x O o7 b0 a6=>nM p s v a x O (i8.kept o7) b0 o2 a6;obtain⟨r3,b4,r5,b5,rfl,n6,h2,h3,_⟩:=i8;obtain⟨e0,a2,rfl,q3,i2⟩:=n6;obtain⟨e1,a3,rfl,r1,j2⟩:=h3;have m0:=R i7;have l6:=R i2;have m5:=R j2;have g6:=R j4;clear i7 i2 j2 h2 j4;generalize h9:s.I.length=F at*;have g3:=R h9;clear h9;go_enter func125,ntmps125;go_wp2;generalize c8:w.alloc (.cells #[.slice e0 F a2,.int .i64 s.now,b4,.slice e1 p.length a3,b5] 162)=N at*;generalize h7:w.heap.size=I at*;have K:N.heap[I]?=some (.cells #[.slice e0 F a2,.int .i64 s.now,b4,.slice e1 p.length a3,b5] 162):=by rw[←c8];exact ah h7
 have g7:Hid (∀a,J N a→a.cell? ⟨I,0,none⟩=some (.slice e0 F a2)∧a.cell? ⟨I,1,none⟩=some (.int .i64 s.now)∧a.cell? ⟨I,2,none⟩=some b4∧a.cell? ⟨I,3,none⟩=some (.slice e1 p.length a3)∧a.cell? ⟨I,4,none⟩=some b5):=R (fun a f=>⟨f.cell (aE K rfl),f.cell (aE K rfl),f.cell (aE K rfl),f.cell (aE K rfl),f.cell (aE K rfl)⟩);have Z:Hid (J w N):=by rw[←c8];exact R ((J.refl w).alloc _)
 clear c8 h7 K;go_loopw[11](fun e2 wr=>∃j:Nat,j≤F∧e2=.int .i64 j∧Hid (∀c,c<j→(s.I.getD c Fb.zero).U.all (bK p)=true)∧Hid (J N wr))(fun e2 _=>F-(intOf e2).toNat);case atStart=>exact⟨0,Nat.zero_le _,rfl,(fun c o=>by omega),J.refl _⟩
 case round=>
  obtain⟨j,q8,rfl,e6,b9⟩:=hrel;by_cases o3:j<F
  ·have c7:j<s.I.length:=by rw[U g3];exact o3
   obtain⟨m7,o9,r4,n0,k0,j9,o0⟩:=(U l6) j _ (aD s.I j Fb.zero c7);obtain⟨p0,m9,rfl,q4,i4⟩:=o0;subst n0;have a8:=(U Z).trans (U b9);have l0:=a8.cell k0;have o8:=a8.cell j9;have m4:=R c7;have l7:=R i4;have p8:=R a8;generalize i1:s.I.getD j Fb.zero=t at*;have e7:=R i1;generalize j3:t.U.length=b3 at*;have g5:=R j3;clear a8 k0 j9 i1 j3 c7 i4;go_wp2;generalize j7:wr.alloc (.cells #[.slice p0 b3 m9,.int .i64 t.caller] 95)=p5 at*;have m3:Hid (J N p5):=by rw[←j7];exact R ((U b9).alloc _)
   clear j7 l0 o8;go_loopw[18](fun e3 p7=>∃i:Nat,i≤b3∧e3=.int .i64 i∧Hid (∀c,c<i→bK p (t.U.getD c Fr.zero)=true)∧Hid (J N p7))(fun e3 _=>b3-(intOf e3).toNat);case atStart=>exact⟨0,Nat.zero_le _,rfl,(fun c o=>by omega),m3⟩
   case round=>
    obtain⟨i,q7,rfl,g1,T⟩:=hrel;by_cases o1:i<b3
    ·have c5:i<t.U.length:=by rw[U g5];exact o1
     obtain⟨q0,r2,k8,k9,n1,k3,k4,k5,k6,j5,j6⟩:=(U l7) i _ (aD t.U i Fr.zero c5);subst n1;have A:=(U Z).trans (U T);have m2:=R c5;have a5:Hid (bK p (t.U.getD i Fr.zero)=false→B=false):=R (fun n5=>by rw[←U g6];have:=nv (P:=bK p) (d:=Fr.zero) (U m2) n5;exact nv (d:=Fb.zero) (U m4) (by rw[U e7];exact this));generalize b0:t.U.getD i Fr.zero=x at*;have m6:=R b0;have i6:fU wr (.agg #[.int .i64 x.fn,.int .i64 x.at_,k8,k9]) x:=⟨k8,k9,rfl,j5.kept A,j6.kept A⟩;have l9:=R i6;obtain⟨y,u,rfl,q9,-⟩:=j5;obtain⟨b2,a4,rfl,r0,-⟩:=j6;have k7:=A.cell k3;have p2:=A.cell k4;have p3:=A.cell k5;have p4:=A.cell k6;obtain⟨e4,l1,l2,l3,l4⟩:=(U g7) _ (U T);have k2:=bJ e4;simp only at k2;have S:=R A;generalize j1:x.locals.length=k at*;generalize o5:x.stack.length=b1 at*;have g4:=R j1;clear c5 b0 i6 k3 k4 k5 k6 A j1 o5;by_cases W:aX x.fn p.length=true
     ·have n8:=cZ.1 W;obtain⟨c,o⟩:∃c:Nat,x.fn=c:=⟨x.fn.toNat,by omega⟩;have a7:c<p.length:=by omega
      obtain⟨m8,p1,q1,n2,h1,h4,h5,n9⟩:=(U m5) c _ (aD p c Fn.zero a7);obtain⟨G,D,rfl,q2,-⟩:=n9;subst n2;have h6:=(U S).cell h1;have n3:=(U S).cell h4;have n4:=(U S).cell h5;have k1:=bJ h6;simp only at k1;have b8:Hid (∀a,Calls prog 158 #[.int .i64 c,.int .i64 p.length] a fun b g=>b=.returned (.bool true)∧a=g):=R (fun a=>by have:=ku x.fn p.length a;rwa[W,o]at this);have i3:=BP (p:=p) (x:=x) o a7;have b7:=R i3;have Q:=R o;have m1:=R a7;have q6:(c:Int)<(p.length:Int):=by omega
      have q5:(0:Int)≤(c:Int):=by omega
      rw[o]at k7;generalize n7:(p.getD c Fn.zero).args=g9 at*;generalize i9:(p.getD c Fn.zero).locals=r at*;have j0:(p.getD c Fn.zero).code.length=(codeOf p c).length:=rfl;generalize o4:(p.getD c Fn.zero).code.length=e at*;have c0:=R j0;have p9:=R i9;clear h1 h4 h5 i3 n7 i9 o4 j0 W n8;clear a7 o;go_wp2_with(first|(go_at_call 158;refine((U b8) _).mono ?_;rintro b Y⟨rfl,rfl⟩)|(go_at_call 156;refine(fJ _ _ _ _ (by simp)).mono ?_;rintro b H⟨rfl,rfl⟩));generalize a9:((wr.alloc (.cells #[.int .i64 c,.int .i64 x.at_,.slice y k u,.slice b2 b1 a4] 92)).alloc (.cells #[.bool true] 4)).alloc (.cells #[.int .i64 g9,.int .i64 r,.slice G e D] 69)=l at*;generalize c4:wr.heap.size=h at*;generalize h8:h+1+1=m at*;have C:l.heap[h]?=some (.cells #[.int .i64 c,.int .i64 x.at_,.slice y k u,.slice b2 b1 a4] 92):=by rw[←a9];exact au (au (ah c4) _) _
      have c1:l.heap[m]?=some (.cells #[.int .i64 g9,.int .i64 r,.slice G e D] 69):=by rw[←a9];exact ah (by simp[c4,h8])
      have a0:Hid (J wr l):=by rw[←a9];exact R ((((J.refl wr).alloc _).alloc _).alloc _)
      have V:Hid (∀a,J l a→a.cell? ⟨h,1,none⟩=some (.int .i64 x.at_)∧a.cell? ⟨h,2,none⟩=some (.slice y k u)∧a.cell? ⟨m,1,none⟩=some (.int .i64 r)∧a.cell? ⟨m,2,none⟩=some (.slice G e D)):=R (fun a f=>⟨f.cell (aE C rfl),f.cell (aE C rfl),f.cell (aE c1 rfl),f.cell (aE c1 rfl)⟩);have g8:Hid (∀a,J l a→a.cell? ⟨h,0,none⟩=some (.int .i64 c)∧a.cell? ⟨h,1,none⟩=some (.int .i64 x.at_)∧a.cell? ⟨h,2,none⟩=some (.slice y k u)∧a.cell? ⟨h,3,none⟩=some (.slice b2 b1 a4)):=R (fun a f=>⟨f.cell (aE C rfl),f.cell (aE C rfl),f.cell (aE C rfl),f.cell (aE C rfl)⟩);have a1:=R ((U S).trans (U a0));clear a9 c4 h8 C c1 k7 p2 p3 p4 h6 n3 n4 e4 l1 l2 l3 l4 k2 k1;by_cases L:(k:Int)=r
      ·have h0:((k:Int)==r)=true:=by rw[beq_iff_eq];exact L
       by_cases q:aX x.at_ e=true
       ·have z:Hid (∀a,Calls prog 158 #[.int .i64 x.at_,.int .i64 e] a fun b g=>b=.returned (.bool true)∧a=g):=R (fun a=>by have:=ku x.at_ e a;rwa[q]at this);go_region_held2(fun a=>a.cell? ⟨h,1,none⟩=some (.int .i64 x.at_)∧a.cell? ⟨h,2,none⟩=some (.slice y k u)∧a.cell? ⟨m,1,none⟩=some (.int .i64 r)∧a.cell? ⟨m,2,none⟩=some (.slice G e D))(exact(U V) _ (by repeat(first|exact J.refl _|refine J.drew ?_|refine J.alloc ?_ _)))(first|(go_at_call 158;refine((U z) _).mono ?_;rintro b Y⟨rfl,rfl⟩)|(go_at_call 156;refine(nA _ _ _ _ (by simp) (by simp)).mono ?_;rintro b H⟨rfl,rfl⟩));have a6:fE p x:=by have:=cZ.1 q;exact⟨by have:=U Q;omega,by have:=U Q;have:=U m1;omega,this.1,by rw[U Q,Int.toNat_natCast,←U c0];exact this.2⟩
        have e9:Hid (∀a,J l a→Calls prog 159 #[.agg #[.slice (some ⟨m7,o9,none⟩) F a2,.int .i64 s.now,b4,.slice (some ⟨m8,p1,none⟩) p.length a3,b5],.agg #[.int .i64 c,.int .i64 x.at_,.slice y k u,.slice b2 b1 a4]] a fun b g=>b=.returned (.int .i64 (aZ p x))∧J a g):=R (fun a f=>by have:=(U m0) _ x a ((U a1).trans f) ((U l9).kept ((U a0).trans f)) a6;rwa[U Q]at this);have i5:bK p x=decide (0≤aZ p x):=by rw[U b7,U g4,decide_eq_true L,←U c0,q,Bool.true_and,Bool.true_and];unfold aZ;rw[U Q,Int.toNat_natCast]
        have e8:=R i5;clear a6 i5 L q h0 z;generalize aZ p x=e5 at*;generalize j8:(l.alloc (.cells #[.bool true,.bool true] 4)).drew=b6 at*;have X:J l b6:=by rw[←j8];exact((J.refl l).alloc _).drew
        obtain⟨e4,l1,l2,l3,l4⟩:=(U g7) b6 (((U T).trans (U a0)).trans X);obtain⟨r6,r7,r8,r9⟩:=(U g8) b6 X;have g0:=R ((U e9) b6 X);have g2:=R (((U T).trans (U a0)).trans X);clear j8 X e9 V g8;by_cases c9:0≤e5
        ·have c3:decide (0≤e5)=true:=decide_eq_true c9;have l8:=R ((U e8).trans c3);go_wp2_with(first|(go_at_call 159;refine(U g0).mono ?_;rintro b p6⟨rfl,c6⟩)|(go_at_call 156;refine(fJ _ _ _ _ (by simp)).mono ?_;rintro b H⟨rfl,rfl⟩));go_roundw;case rel=>
          refine⟨i+1,by omega,by go_num,?_,R ((J.trans (U g2) c6).alloc _)⟩;intro c o;by_cases b:c=i;·subst b;rw[U m6];exact U l8
          ·exact(U g1) c (by omega)
         case measure=>simp[intOf];omega
        ·have c3:decide (0≤e5)=false:=decide_eq_false c9;have E:B=false:=(U a5) ((U e8).trans c3);subst E;clear c9;go_wp2_with(first|(go_at_call 159;refine(U g0).mono ?_;rintro b p6⟨rfl,c6⟩)|(go_at_call 156;refine(gB _ _ _ _ (by simp)).mono ?_;rintro b H⟨rfl,rfl⟩;dsimp only[left]));exact⟨rfl,rfl,(J.trans (U Z) (J.trans (U g2) c6)).alloc _⟩
       ·have M:aX x.at_ e=false:=by simpa using q
        have z:Hid (∀a,Calls prog 158 #[.int .i64 x.at_,.int .i64 e] a fun b g=>b=.returned (.bool false)∧a=g):=R (fun a=>by have:=ku x.at_ e a;rwa[M]at this);have E:B=false:=(U a5) (by rw[U b7,←U c0,M];simp);subst E;clear q M;go_region_held2(fun a=>a.cell? ⟨h,1,none⟩=some (.int .i64 x.at_)∧a.cell? ⟨h,2,none⟩=some (.slice y k u)∧a.cell? ⟨m,1,none⟩=some (.int .i64 r)∧a.cell? ⟨m,2,none⟩=some (.slice G e D))(first|exact n.elim|exact(U V) _ (by repeat(first|exact J.refl _|refine J.drew ?_|refine J.alloc ?_ _)))(first|(go_at_call 158;refine((U z) _).mono ?_;rintro b Y⟨rfl,rfl⟩)|(go_at_call 156;refine(nz _ _ _ true _ (by simp) (by simp)).mono ?_;rintro b H⟨rfl,rfl⟩;dsimp only[left];refine(Classical.em False).elim (fun n=>?_) (fun _=>⟨rfl,rfl,J.trans (U a1) (by repeat(first|exact J.refl _|refine J.drew ?_|refine J.alloc ?_ _))⟩);refine gr ‹Shut _› n ⟨#[],[]⟩ l ?_));all_goals exact n.elim
      ·have h0:((k:Int)==r)=false:=by rw[beq_eq_false_iff_ne];exact L
       have E:B=false:=(U a5) (by rw[U b7,U g4,decide_eq_false L];rfl);subst E;clear L;by_cases q:aX x.at_ e=true;·have z:Hid (∀a,Calls prog 158 #[.int .i64 x.at_,.int .i64 e] a fun b g=>b=.returned (.bool true)∧a=g):=R (fun a=>by have:=ku x.at_ e a;rwa[q]at this);go_region_held2(fun a=>a.cell? ⟨h,1,none⟩=some (.int .i64 x.at_)∧a.cell? ⟨h,2,none⟩=some (.slice y k u)∧a.cell? ⟨m,1,none⟩=some (.int .i64 r)∧a.cell? ⟨m,2,none⟩=some (.slice G e D))(first|exact n.elim|exact(U V) _ (by repeat(first|exact J.refl _|refine J.drew ?_|refine J.alloc ?_ _)))(first|(go_at_call 158;refine((U z) _).mono ?_;rintro b Y⟨rfl,rfl⟩)|(go_at_call 156;refine(jQ _ _ _ true _ (by simp) (by simp)).mono ?_;rintro b H⟨rfl,rfl⟩;dsimp only[left];refine(Classical.em False).elim (fun n=>?_) (fun _=>⟨rfl,rfl,J.trans (U a1) (by repeat(first|exact J.refl _|refine J.drew ?_|refine J.alloc ?_ _))⟩);refine gr ‹Shut _› n ⟨#[],[]⟩ l ?_));all_goals exact n.elim
       ·have M:aX x.at_ e=false:=by simpa using q
        have z:Hid (∀a,Calls prog 158 #[.int .i64 x.at_,.int .i64 e] a fun b g=>b=.returned (.bool false)∧a=g):=R (fun a=>by have:=ku x.at_ e a;rwa[M]at this);clear q M;go_region_held2(fun a=>a.cell? ⟨h,1,none⟩=some (.int .i64 x.at_)∧a.cell? ⟨h,2,none⟩=some (.slice y k u)∧a.cell? ⟨m,1,none⟩=some (.int .i64 r)∧a.cell? ⟨m,2,none⟩=some (.slice G e D))(first|exact n.elim|exact(U V) _ (by repeat(first|exact J.refl _|refine J.drew ?_|refine J.alloc ?_ _)))(first|(go_at_call 158;refine((U z) _).mono ?_;rintro b Y⟨rfl,rfl⟩)|(go_at_call 156;refine(jQ _ _ _ false _ (by simp) (by simp)).mono ?_;rintro b H⟨rfl,rfl⟩;dsimp only[left];refine(Classical.em False).elim (fun n=>?_) (fun _=>⟨rfl,rfl,J.trans (U a1) (by repeat(first|exact J.refl _|refine J.drew ?_|refine J.alloc ?_ _))⟩);refine gr ‹Shut _› n ⟨#[],[]⟩ l ?_));all_goals exact n.elim
     ·have c2:aX x.fn p.length=false:=by simpa using W
      have b8:Hid (∀a,Calls prog 158 #[.int .i64 x.fn,.int .i64 p.length] a fun b g=>b=.returned (.bool false)∧a=g):=R (fun a=>by have:=ku x.fn p.length a;rwa[c2]at this);have E:B=false:=(U a5) (by unfold bK;rw[c2];rfl);subst E;clear W c2;go_wp2_with(first|(go_at_call 158;refine((U b8) _).mono ?_;rintro b Y⟨rfl,rfl⟩)|(go_at_call 156;refine(gB _ _ _ _ (by simp)).mono ?_;rintro b H⟨rfl,rfl⟩;dsimp only[left]));exact⟨rfl,rfl,((U S).alloc _).alloc _⟩
    ·have i0:(s.I.getD j Fb.zero).U.all (bK p)=true:=by rw[U e7];exact ny (d:=Fr.zero) (fun c o=>(U g1) c (by have:=U g5;omega))
     have l5:=R i0;clear i0;go_wp2;go_roundw;case rel=>
      refine⟨j+1,by omega,by go_num,?_,T⟩;intro c o;by_cases b:c=j;·subst b;exact U l5
      ·exact(U e6) c (by omega)
     case measure=>simp[intOf];omega
  ·have o6:B=true:=by rw[←U g6];exact ny (d:=Fb.zero) (fun c o=>(U e6) c (by have:=U g3;omega))
   subst o6;go_wp2;go_end0;exact⟨rfl,(U Z).trans (U b9)⟩
def eJ(w:World)(B:Nat)(l:List Bool):Prop:=w.heap[B]?=some (.cells (l.map (fun a=>Value.bool a)).toArray 4)
theorem eJ.kept{w w':World}{B:Nat}{l:List Bool}(a:eJ w B l)(k:J w w'):eJ w' B l:=aw k a
theorem eJ.cell{w:World}{B:Nat}{l:List Bool}(a:eJ w B l){k:Nat}(b:k<l.length):w.cell? ⟨B,k,none⟩=some (.bool (l.getD k false)):=by rw[ab a k];simp[b,List.getD]
theorem eJ.frozen{w:World}{B:Nat}{l:List Bool}(a:eJ w B l)(k:Nat):w.frozen? ⟨B,k,none⟩=false:=an a k
theorem eJ.set{w:World}{B:Nat}{l:List Bool}(a:eJ w B l)(k:Nat)(z:Bool):eJ (w.setCell ⟨B,k,none⟩ (.bool z)) B (l.set k z):=by unfold eJ at*;rw[ay a k];congr 2;simp[List.map_set]
theorem eJ.lt{w:World}{B:Nat}{l:List Bool}(a:eJ w B l):B<w.heap.size:=(Array.getElem?_eq_some_iff.1 a).1
theorem eJ.other{w:World}{B:Nat}{l:List Bool}(b:eJ w B l){p:Addr}(c:p.block≠B)(u:Value):eJ (w.setCell p u) B l:=bD b (fun a=>c a.symm) u
def kI(w:World)(v:Value)(l:List Bool):Prop:=∃d f,v=.slice d l.length f∧l.length≤8796093022208∧∀b e,l[b]?=some e→∃a c,d=some ⟨a,c,none⟩∧w.cell? ⟨a,c+b,none⟩=some (.bool e)
theorem kI.kept{w w':World}(e:J w w'){v:Value}{l:List Bool}(h:kI w v l):kI w' v l:=by obtain⟨n,b,c,i,g⟩:=h;refine⟨n,b,c,i,fun k o j=>?_⟩;obtain⟨a,m,d,f⟩:=g k o j;exact⟨a,m,d,e.cell f⟩
theorem kI.nil(w:World):kI w (.slice none 0 0) []:=⟨none,0,rfl,by simp,fun b c a=>by simp at a⟩
theorem eJ.slice{w:World}{B:Nat}{l:List Bool}(b:eJ w B l)(d:l.length≤8796093022208){n m:Nat}(e:n=l.length):kI w (.slice (some ⟨B,0,none⟩) n m) l:=by subst e;refine⟨_,_,rfl,d,fun f g a=>⟨B,0,rfl,?_⟩⟩;have c:=(List.getElem?_eq_some_iff.1 a).1;rw[Nat.zero_add,b.cell c];simp[List.getD,a]
theorem CM:(prog.info? 4).map (fun a=>(a.zero,a.size,a.bytes))=some (some (.bool false),1,1):=by kernel_rfl
theorem DC(m:Nat):madeCells #[.bool false] m=((List.replicate m false).map (fun a=>Value.bool a)).toArray:=by
 apply Array.ext;·simp[madeCells]
 ·intro c b h2;simp[madeCells,Nat.mod_one]
theorem DL(m:Nat)(h:m≤1000000)(u:World):(Instr.makeSlice 163 (.int .i64 m) (.int .i64 m)).run prog u=.ok (.slice (some ⟨u.heap.size,0,none⟩) m m) (u.alloc (.cells ((List.replicate m false).map (fun g=>Value.bool g)).toArray 4)):=by obtain⟨f,b,c,d,e⟩:=info_parts CM;have a:=run_make (P:=prog) u 163 4 f (.bool false) underlying163 b c .i64 .i64 (m:Int) (m:Int) (by omega) (Int.le_refl _) (by rw[e];omega) (by omega);rw[Int.toNat_natCast]at a;rw[←DC];simpa[d,Value.cells]using a
def fV(B:List Bool):Array Value:=(B.map fun a=>Value.bool a).toArray
theorem qq{B:List Bool}{i:Nat}(a:i<B.length):(fV B)[i]?=some (.bool (B.getD i false)):=by simp[fV,List.getD,a]
theorem tX(B:List Bool)(i:Nat):(fV B).setIfInBounds i (.bool true)=fV (B.set i true):=by simp[fV,List.map_set]
def qP:Value→Bool
 |.bool false=>true
 |_=>false
def rm:Option Obj→Nat
 |some (.cells a _ _)=>(a.toList.filter qP).length
 |_=>0
theorem vr(B:List Bool)(t:TypeId):rm (some (.cells (fV B) t (0,0)))=gX B:=by
 simp only[rm,fV,gX];induction B with
 |nil=>rfl
 |cons b c a=>
  simp only[List.map_cons,List.filter_cons]at a⊢;cases b;·simp only[qP,Bool.not_false,if_true,List.length_cons];simpa using a
  ·simpa[qP]using a
theorem Jt(n:Nat):gX (List.replicate n false)=n:=by simp[gX]
def sv(s:St)(w:World)(e:Ending)(w':World):Prop:=J w w'∧match gG s with|none=>e=left 1|some a=>∃b,e=.returned (.slice (some ⟨b,0,none⟩) s.I.length s.I.length)∧a.length=s.I.length∧w'.heap[b]?=some (.cells (fV a) 4)
theorem Da{fs:List Fb}{k:Nat}{n:Int}{B:List Bool}(a:n≠-1)(b:B.getD n.toNat false=false)(h2:decide (bw fs n=-1)=decide (n=0)):ep fs (k+1) n B=ep fs k (bw fs n) (B.set n.toNat true):=by
 conv=>lhs;unfold ep
 rw[if_neg a,if_neg];rw[b,h2];simp
theorem uO{fs:List Fb}{k:Nat}{n:Int}{B:List Bool}(a:n≠-1)(b:B.getD n.toNat false=true∨decide (bw fs n=-1)≠decide (n=0)):ep fs (k+1) n B=none:=by
 conv=>lhs;unfold ep
 rw[if_neg a,if_pos b]
theorem yi(p:List Fn)(s:St)(v:Value)(w:World)(g7:fo w v p s)(c2:dX s=0):Calls prog 126 #[v] w fun g o=>sv s w g o:=by
 obtain⟨i8,_,_,j8,⟨h1,h4⟩,b8⟩:=ik c2;obtain⟨k1,c9,e1,e0,rfl,g3,h2,h3,_⟩:=g7;obtain⟨a5,Q,rfl,i9,c0⟩:=g3;have h0:=DL s.I.length (by omega);have a9:=R c0;have e4:=R b8;clear c0 h2 h3 b8 c2;generalize b6:s.I.length=b at*;have k:=R b6;clear b6;go_enter func126,ntmps126;go_wp2;generalize M:w.alloc (.cells #[.slice a5 b Q,.int .i64 s.now,c9,e1,e0] 162)=h at*;generalize T:w.heap.size=u at*;have b3:h.heap[u]?=some (.cells #[.slice a5 b Q,.int .i64 s.now,c9,e1,e0] 162):=by rw[←M];exact ah T
 have b2:Hid (∀G,J h G→G.cell? ⟨u,0,none⟩=some (.slice a5 b Q)):=R (fun G h6=>h6.cell (aE b3 rfl));have P:Hid (J w h):=by rw[←M];exact R ((J.refl w).alloc _)
 have c3:Array.replicate b (Value.bool false)=fV (List.replicate b false):=by simp[fV]
 rw[c3];have c5:h.heap.size=u+1:=by rw[←M];simp[T]
 generalize g4:u+1=i at*;generalize a4:h.alloc (.cells (fV (List.replicate b false)) 4)=e2 at*;have b4:e2.heap[i]?=some (.cells (fV (List.replicate b false)) 4):=by rw[←a4];exact ah c5
 have e6:=R b4;have e5:Hid (J h e2):=by rw[←a4];exact R ((J.refl h).alloc _)
 have a7:Hid (h.heap.size≤i):=R (by omega);clear M T b3 c3 a4 b4 g4 h0 c5;go_loopw[4](fun i0 wr=>∃(d:Int)(a:List Bool),i0=.int .i64 d∧-1≤d∧d<b∧Hid (a.length=b)∧Hid (wr.heap[i]?=some (.cells (fV a) 4))∧Hid (ep s.I (gX a+1) d a=ep s.I (b+1) s.now (List.replicate b false))∧Hid (J h wr))(fun _ G=>rm G.heap[i]?);case atStart=>exact⟨s.now,List.replicate b false,rfl,h1,h4,R (by simp),e6,R (by rw[Jt]),e5⟩
 case round=>
  obtain⟨d,a,rfl,j3,j4,x,n,H,y⟩:=hrel;have e3:=(U b2) _ (U y);by_cases E:d=-1
  ·subst E;have c1:ep s.I (b+1) s.now (List.replicate b false)=some a:=by rw[←U H];unfold ep;rfl
   have b0:=R c1;have h8:=bJ e3;simp only at h8;clear c1;go_wp2;go_loopw[51](fun a6 i2=>∃c:Nat,c≤b∧a6=.int .i64 c∧Hid (∀f,f<c→(a.getD f false||decide ((s.I.getD f Fb.zero).caller=-1))=true)∧Hid (J wr i2))(fun a6 _=>b-(intOf a6).toNat);case atStart=>exact⟨0,Nat.zero_le _,rfl,(fun f Z=>by omega),J.refl _⟩
   case round=>
    obtain⟨c,j0,rfl,O,z⟩:=hrel;have C:=aw (U z) (U n);by_cases a2:c<b
    ·have a0:c<s.I.length:=by rw[U k];exact a2
     obtain⟨g0,h9,i1,S,k0,F,Y⟩:=(U a9) c _ (aD s.I c Fb.zero a0);obtain⟨j9,i5,rfl,-,-⟩:=Y;subst S;have l:=((U P).trans (U y)).trans (U z);have l0:=l.cell k0;have N:=l.cell F;have a1:=bJ l0;have g9:=lt_of_block C;have K:=aE C (qq (B:=a) (i:=c) (by rw[U x];exact a2));simp only at a1;have i4:=R a0;have I:=R l;generalize D:(s.I.getD c Fb.zero).caller=j at*;generalize b7:a.getD c false=b5 at*;have q:=R D;have a8:=R b7;clear l k0 F a0 D b7 C;have j2:(0:Int)≤(c:Int):=by omega
     have j1:(c:Int)<(b:Int):=by omega
     by_cases W:b5=true
     ·subst W;go_wp2_with(go_at_call 156;refine(fJ _ _ _ _ (by simp)).mono ?_;rintro g o⟨rfl,rfl⟩);go_roundw;case rel=>
       refine⟨c+1,by omega,by go_num,?_,R (((U z).alloc _).alloc _)⟩;intro f Z;by_cases g:f=c;·subst g;rw[U a8];rfl
       ·exact(U O) f (by omega)
      case measure=>simp[intOf];omega
     ·have g5:b5=false:=by simpa using W
      subst g5;by_cases L:j=-1
      ·subst L;go_wp2_with(go_at_call 156;refine(fJ _ _ _ _ (by simp)).mono ?_;rintro g o⟨rfl,rfl⟩);go_roundw;case rel=>
        refine⟨c+1,by omega,by go_num,?_,R (((U z).alloc _).alloc _)⟩;intro f Z;by_cases g:f=c;·subst g;rw[U q];simp
        ·exact(U O) f (by omega)
       case measure=>simp[intOf];omega
      ·have i7:(j==-1)=false:=by rw[beq_eq_false_iff_ne];exact L
       have m:gG s=none:=by unfold gG;rw[U k,U b0];simp only;rw[if_neg];intro g2;have:=gM.1 g2 c a2;rw[U a8,U q,decide_eq_false L]at this;cases this
       have A:=R m;clear m L W;go_wp2_with(go_at_call 156;refine(gB _ _ _ _ (by simp)).mono ?_;rintro g o⟨rfl,rfl⟩;dsimp only[left]);exact⟨rfl,((U I).alloc _).alloc _,by rw[U A];rfl⟩
    ·have c7:gG s=some a:=by unfold gG;rw[U k,U b0];simp only;rw[if_pos];exact gM.2 (fun f Z=>(U O) f (by omega))
     have e9:=R c7;have e7:=R C;clear c7 C;go_wp2;go_ret;refine⟨((U P).trans (U y)).trans (U z),?_⟩;rw[U e9];exact⟨i,by rw[U k];rfl,by rw[U x,U k],U e7⟩
  ·have j5:(d !=-1)=true:=by rw[bne_iff_ne];exact E
   have a3:d.toNat<s.I.length:=by have:=U k;omega
   obtain⟨g0,h9,i1,S,k0,F,Y⟩:=(U a9) d.toNat _ (aD s.I d.toNat Fb.zero a3);have X:=(U e4) _ (List.mem_of_getElem? (aD s.I d.toNat Fb.zero a3));subst S;have l:=(U P).trans (U y);have N:=l.cell F;have V:d.toNat<a.length:=by have:=U x;omega
   have K:=aE (U n) (qq V);have g1:=an (U n) d.toNat;have b9:(s.I.getD d.toNat Fb.zero).caller=bw s.I d:=rfl;rw[b9]at N X;have I:=R l;obtain⟨e,h5⟩:∃e:Nat,d=e:=⟨d.toNat,by omega⟩;have j6:(0:Int)≤d:=by omega
   generalize D:bw s.I d=j at*;have q:=R D;have i3:=R V;clear l k0 F b9 Y D V;have g8:=bJ e3;have a1:=bJ N;have g9:=lt_of_block (U n);have j7:¬i=u:=by have:=bJ ((U b2) h (J.refl _));have:=U a7;simp only at*;omega
   simp only at g8 a1;subst h5;simp only[Int.toNat_natCast]at K g1 a3 N;by_cases r:a.getD e false=true
   ·have m:gG s=none:=by
     have:ep s.I (b+1) s.now (List.replicate b false)=none:=by rw[←U H];exact uO E (.inl (by rw[Int.toNat_natCast];exact r))
     unfold gG;rw[U k,this]
    have A:=R m;rw[r]at K;clear m r;go_wp2_with(go_at_call 156;refine(jQ _ _ _ ((j==-1)==((e:Int)==0)) _ (by simp) (by simp)).mono ?_;rintro g o⟨rfl,rfl⟩;dsimp only[left]);exact⟨rfl,(U I).alloc _,by rw[U A];rfl⟩
   ·have B:a.getD e false=false:=by simpa using r
    rw[B]at K;by_cases t:decide (j=-1)=decide ((e:Int)=0)
    ·have c4:ep s.I (gX a+1) (e:Int) a=ep s.I (gX a) j (a.set e true):=by have:=Da (fs:=s.I) (k:=gX a) (n:=(e:Int)) (B:=a) E (by rw[Int.toNat_natCast];exact B) (by rw[U q];exact t);rw[U q,Int.toNat_natCast]at this;exact this
     have c6:=xq a e (by have:=U x;omega) B;have e8:=R c4;have b1:=R c6;have i6:(j==-1)=((e:Int)==0):=t;clear c4 c6 r B t;go_wp2_with(go_at_call 156;refine(nA _ _ _ _ (by simp) (by simp)).mono ?_;rintro g o⟨rfl,rfl⟩);go_roundw;case rel=>
      refine⟨j,a.set e true,rfl,X.1,X.2,R (by rw[List.length_set];exact U x),R ?_,R ?_,R (((U y).setCell (p:=⟨i,e,none⟩) (U a7) _).alloc _)⟩;·rw[←tX];exact au (ay (U n) e _) _
      ·rw[U b1,←U e8];exact U H
     case measure=>
      have h7:∀c8:Obj,((wr.setCell ⟨i,e,none⟩ (.bool true)).alloc c8).heap[i]?=some (.cells (fV (a.set e true)) 4):=fun c8=>by rw[←tX];exact au (ay (U n) e _) _
      rw[h7,U n,vr,vr];have:=U b1;omega
    ·have m:gG s=none:=by
      have:ep s.I (b+1) s.now (List.replicate b false)=none:=by rw[←U H];exact uO E (.inr (by rw[U q];exact t))
      unfold gG;rw[U k,this]
     have A:=R m;have g6:¬(j==-1)=((e:Int)==0):=t;clear m r B t;go_wp2_with(go_at_call 156;refine(nz _ _ _ true _ (by simp) (by simp;exact g6)).mono ?_;rintro g o⟨rfl,rfl⟩;dsimp only[left]);exact⟨rfl,(U I).alloc _,by rw[U A];rfl⟩
theorem mI(p:List Fn):∀b:List Fr,de p b=true↔∀a,a+1<b.length→cH p (b.getD a Fr.zero) (11,(b.getD (a+1) Fr.zero).fn)=true
 |[]=>by simp[de]
 |[h]=>by simp[de]
 |h::i::g=>by
  have f:=mI p (i::g);simp only[de,Bool.and_eq_true,f];constructor
  ·rintro⟨e,h2⟩a c;cases a with
   |zero=>simpa using e
   |succ a=>simpa using h2 a (by simpa using c)
  ·intro d;exact⟨by simpa using d 0 (by simp),fun a c=>by simpa using d (a+1) (by simpa using c)⟩
def jy(p:List Fn)(t:Fr)(a b:Bool):Bool:=if a=true then decide ((t.stack.length:Int)=aZ p t)else if b=true then cH p t (14,0)else cH p t (15,0)
theorem uM{p:List Fn}{s:St}{n:Nat}{a:Bool}{b:Fb}(c:s.I.getD n Fb.zero=b)(e:0<b.U.length):fN p s n a=((a||!decide (n=0))&&((!a&&dH p b)||(de p b.U&&jy p (b.U.getD (b.U.length-1) Fr.zero) (decide ((n:Int)=s.now)) a))):=by
 have d:b.U.getLast?=some (b.U.getD (b.U.length-1) Fr.zero):=by rw[List.getLast?_eq_getElem?];exact aD _ _ _ (by omega)
 unfold fN jy;rw[c,d];simp only[decide_eq_true_eq]
def nh(w:World)(v:Value)(p:List Fn):Prop:=∀(e:Value)(c:Fr)(b a1:Int)(a:World),J w a→fU a e c→fE p c→(cH p c (b,a1)=true→Calls prog 161 #[v,e,.agg #[.int .i64 b,.int .i64 a1]] a fun d f=>d=.returned (.tuple #[])∧J a f)∧(cH p c (b,a1)=false→Calls prog 161 #[v,e,.agg #[.int .i64 b,.int .i64 a1]] a fun d f=>d=left 1∧J a f)
theorem sQ{p:List Fn}{s:St}{v:Value}{w:World}(f:fo w v p s)(g:iN p)(d:∀b c,b<p.length→-1000≤(bd p b).getD c 0∧(bd p b).getD c 0≤1000):nh w v p:=by
 intro k l j a1 m i h e;have:=yl p s v k l j a1 m (f.kept i) h g e d;constructor;·intro a;rw[a]at this;exact this
 ·intro a;rw[a]at this;exact this
theorem nh.kept{w w':World}(b:J w w'){v:Value}{p:List Fn}(a:nh w v p):nh w' v p:=fun e f d a1 g c=>a e f d a1 g (b.trans c)
theorem yf(a N h i:Nat)(f m:Option Addr)(n p o:Value)(l:Int)(e g:Nat)(c:Bool)(w:World)(q:a<N)(k0:w.cell? ⟨e,g+a*2,none⟩=some (.slice m 0 i))(j:f=some ⟨e,g,none⟩):Calls prog 127 #[.agg #[.slice f N h,.int .i64 l,n,p,o],.int .i64 a,.bool c] w fun b d=>b=eZ 1 (!c)∧J w d:=by
 subst j;have s:(a:Int)<(N:Int):=by omega
 have r:(0:Int)≤(a:Int):=by omega
 have k:=bJ k0;simp only at k;cases c with
 |true=>go_enter func127,ntmps127;go_wp2_with(go_at_call 156;refine(gB _ _ _ _ (by simp)).mono ?_;rintro b d⟨rfl,rfl⟩;dsimp only[left]);exact⟨rfl,rfl,((J.refl w).alloc _).alloc _⟩
 |false=>
  go_enter func127,ntmps127;go_wp2_with(go_at_call 156;refine(fJ _ _ _ _ (by simp)).mono ?_;rintro b d⟨rfl,rfl⟩);first|go_end0|refine bodyPost_ret (results_none rfl _ _ _) rfl ?_
  exact⟨rfl,((J.refl w).alloc _).alloc _⟩
