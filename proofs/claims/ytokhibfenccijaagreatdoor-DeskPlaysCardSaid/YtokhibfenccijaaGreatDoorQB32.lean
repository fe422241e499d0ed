import Derived.Test.YtokhibfenccijaaGreatDoorQB31
set_option maxRecDepth 100000
set_option maxHeartbeats 8000000
namespace Go.Proofs.YtokhibfenccijaaGreatDoor
open Go.Proofs.Tryz
open Go.RowKit
def sH(base d:Nat)(g:St)(f:Value)(V:Key→Value)(i:Nat)(w:World)(e:Ending)(w':World):Prop:=e=.returned f∧∃a,ag base w' d a g∧Below base w w'∧a (.U i)=V (.U i)∧(∀c,(a c).ownBlock=(V c).ownBlock)∧∀b,(V (.U i)).ownBlock≠some b→w'.heap[b]?=w.heap[b]?
theorem jb(base g:Nat)(V:Key→Value)(s:St)(i:Nat)(w:World)(n:ag base w g V s)(B:s.now=i)(j:i<s.I.length)(b4:0<(aa s i).U.length)(b5:(aa s i).U.length≤1000)(c5:(ae s i ((aa s i).U.length-1)).stack.length≤1000)(b7:0<(ae s i ((aa s i).U.length-1)).stack.length):Calls prog 146 #[.pointer (some ⟨g,0,none⟩)] w fun e c0=>sH base g (af s) (.int .i64 (aq s)) V i w e c0:=by
 obtain⟨A,a3,a5,S⟩:=fm n j b4 b5;have N:aq s=(ae s i ((aa s i).U.length-1)).stack.getD ((ae s i ((aa s i).U.length-1)).stack.length-1) 0:=by unfold aq St.top St.JL;rw[B,Int.toNat_natCast,show s.I.getD i Fb.zero=aa s i from rfl,na,List.getLast?_eq_getElem?];rfl
 have P:af s=cd s i ((aa s i).U.length-1) {ae s i ((aa s i).U.length-1)with stack:=(ae s i ((aa s i).U.length-1)).stack.dropLast}:=by unfold af;rw[B,gj]
 rw[P];generalize b8:aq s=e3 at*;clear P b8;generalize c4:(aa s i).U.length-1=b at*;have p:b<(aa s i).U.length:=by omega
 obtain⟨_,a2,_,_⟩:=n.cells;rw[B]at a2;have a0:=R S;have X:=R n;have u:=R a5;clear S n;go_enter func146,ntmps146;go_wp2_with fail;refine(U a0).mono ?_;rintro e k⟨rfl,T,rfl⟩;generalize t:w.drewN T=k;have q:ag base k g V s:=(U X).same (by rw[←t];rfl);have H:Below base w k:=by rw[←t];exact Go.below_drewN (Below.refl _ w) T
 have Y:Hid (k.heap=w.heap):=by rw[←t];exact R rfl
 obtain⟨a9,a4,y,_,a6,a7,a8,l,G,c2⟩:=q.own.fr j p;rw[U u]at y;obtain⟨⟨rfl⟩,-,rfl⟩:=(by simpa using y:(A=a9)∧True∧a3=a4);have r:=q.own.JN j p;obtain⟨m,h,z,c3,I,_,_⟩:=gH r b7;have L:=G (b*4+3);have E:=R q;have C:=R H;rw[z]at l r;have c1:=R r;have v:=R z;have b2:(ae s i b).stack.length-1<(ae s i b).stack.length:=by omega
 have o:=I ((ae s i b).stack.length-1) (.int .i64 ((ae s i b).stack.getD ((ae s i b).stack.length-1) 0)) (ints_at (aD _ _ 0 b2));generalize M:(ae s i b).stack=c at*;have D:=R M;obtain⟨a,Q⟩:∃a,c.length=a+1:=⟨c.length-1,by omega⟩;rw[←N]at o;rw[Q]at l o;simp only[Nat.add_sub_cancel]at o;have e0:IntKind.i64.wrap ((a:Int)+1-1)=(a:Int):=by rw[IntKind.wrap_i64];omega
 have c9:(a:Int)+1-1=(a:Int):=by omega
 have c7:(a:Int)<(a:Int)+1:=by omega
 have c6:(0:Int)≤(a:Int):=by omega
 have c8:(a:Int)≤(h:Int):=by omega
 have x:=R Q;clear t H q z M r a6 a7 a8 G y I N;go_wp2;go_quiet(fail);go_wp2;generalize f:k.drewN nq=d;have O:ag base d g V s:=(U E).same (by rw[←f];rfl);have e1:d.cell? ⟨A,b*4+3,none⟩=some (.slice (some ⟨m,0,none⟩) (a+1) h):=by rw[←f];exact l
 have e2:d.frozen? ⟨A,b*4+3,none⟩=false:=by rw[←f];exact L
 have W:Hid (Below base w d):=by rw[←f];exact R (Go.below_drewN (U C) nq)
 have Z:Hid (d.heap=w.heap):=by rw[←f];exact R (U Y)
 have F:=R O;clear f O l L o C E;go_region;all_goals go_wp2_with fail
 go_ret;have b1:c.dropLast=c.take a:=by rw[List.dropLast_eq_take,U x,Nat.add_sub_cancel]
 have b6:d.ownsRow base 3 1 (.slice (some ⟨m,0,none⟩) a h) (c.take a).length (ints (c.take a)):=by
  have h3:=(U F).own.JN j p;rw[U v,U D]at h3;have b3:(c.take a).length=a:=by rw[List.length_take];have:=U x;omega
  rw[b3];exact wP h3 rfl a (by have:=U x;omega)
 have K:=(U F).Ko (w2:=d) j p (U u) (.slice (some ⟨m,0,none⟩) a h) (c.take a) (qE _ _) b6 (.inl (by rw[U v];rfl));unfold sH;refine⟨rfl,aC V (.stack i b) (.slice (some ⟨m,0,none⟩) a h),?_,?_,aB V _ (by simp),fun b9=>?_,fun a1 b0=>?_⟩;·rw[U D,b1];exact ag.same K.1 rfl
 ·exact Below.drew (Below.trans (U W) K.2)
 ·by_cases e:b9=.stack i b;·subst e;rw[cj,U v];rfl
  ·rw[aB V _ e]
 ·show(d.setCell _ _).heap[a1]?=_;rw[Below.heap_setCell _ _ _ _ (fun e=>b0 (by rw[U u];exact congrArg some e.symm)),U Z]
theorem oD(base a:Nat)(V:Key→Value)(s:St)(i:Nat)(w:World)(d:ag base w a V s)(g:s.now=i)(f:i<s.I.length)(h:0<(aa s i).U.length)(j:(aa s i).U.length≤1000)(k:(ae s i ((aa s i).U.length-1)).stack.length≤1000)(l:0<(ae s i ((aa s i).U.length-1)).stack.length):Calls prog 146 #[.pointer (some ⟨a,0,none⟩)] w fun c m=>mo base a (af s) (.int .i64 (aq s)) w c m:=(jb base a V s i w d g f h j k l).mono fun _ _⟨e,b,h2,h3,_⟩=>⟨e,b,h2,h3⟩
def xK(base b:Nat)(s:St)(v:Int)(w:World)(e:Ending)(w':World):Prop:=e=.returned (.int .i64 (cm s v).2)∧Below base w w'∧((cm s v).2=0→∃a,ag base w' b a (cm s v).1)
theorem wh(base a:Nat)(V:Key→Value)(s:St)(z:Int)(w:World)(c:ag base w a V s)(Z:s.out.length≤30):Calls prog 151 #[.pointer (some ⟨a,0,none⟩),.int .i64 z] w fun b P=>xK base a s z w b P:=by
 obtain⟨N,G,K,L,M⟩:=info_parts iE;obtain⟨_,_,k,p⟩:=c.cells;have f:w.ownsRow base 3 1 (V .out) s.out.length (ints s.out):=c.own.piece .out trivial;have F:=lt_of_block c.var;have Y:=c.low;have m:(V .out).ownBlock≠some a:=c.off .out trivial;have E:=p 2;obtain⟨O,D,l,I⟩:=aR f;have A:=R c;have S:=R f;have o:=R l;rw[l]at k;clear c p I;by_cases g:s.out.length=30
 ·have e:cm s z=(St.zero,2):=by unfold cm;rw[if_pos g]
  have d:=R e;rw[g]at k;clear e g;go_enter func151,ntmps151;go_wp2;go_ret;exact⟨by rw[U d];rfl,Below.refl _ _,fun b=>by rw[U d]at b;cases b⟩
 ·have e:cm s z=({s with out:=s.out++[z]},0):=by unfold cm;rw[if_neg g]
  have d:=R e;have X:((s.out.length:Int)==30)=false:=by rw[beq_eq_false_iff_ne];omega
  rw[l]at f m;have C:=R f;have H:base≤w.heap.size:=by omega
  clear e f;generalize t:s.out=i at*;have Q:=R t;clear t;go_enter func151,ntmps151;go_wp2_with(at_builtin;refine wpList_append_own_at _ rfl _ _ 30 rfl base 3 N (.int .i64 0) 1 8 underlying30 G K L M rfl (by decide) _ _ _ rfl ((U C).alloc _) ⟨w.heap.size,0,none⟩ 1 1 [.int .i64 z] rfl rfl (lq _ _ _) (kb _) (by unfold maxLen;omega) (by omega) (by simp;omega) ?_;intro a0 j n h _ q;obtain⟨u,v,rfl,-⟩:=aR n;have T:j.cell? ⟨a,2,none⟩=some (.slice O i.length D):=h.cell (((J.refl w).alloc _).cell k) (fun b=>m b.symm);have W:j.frozen? ⟨a,2,none⟩=false:=(World.frozen?_of_block (h.block a (by simp;omega) (fun b=>m b.symm))).trans ((World.frozen?_of_block (Below.heap_alloc w _ a F)).trans E);have B:=R n;have y:=R h;have x:=R q;clear n h q);go_ret;have r:=((U A).alloc (.cells #[.int .i64 z] 3)).Kn (w2:=j) (i++[z]) (.slice u (i.length+1) v) (by rw[U o];exact U y) (by rw[ke,List.length_append];exact U B) (by rw[U o];exact U x);refine⟨by rw[U d];rfl,Below.trans (Below.alloc (Below.refl _ w) H _) r.2,fun _=>⟨aC V .out (.slice u (i.length+1) v),?_⟩⟩;rw[U d];exact r.1
def dB(base c:Nat)(a:St×Int)(w:World)(e:Ending)(w':World):Prop:=e=.returned (.int .i64 a.2)∧Below base w w'∧(a.2=0→∃b,ag base w' c b a.1)
theorem JJ(base f:Nat)(V:Key→Value)(s:St)(i:Nat)(w:World)(F:ag base w f V s)(o:s.now=i)(h:aH s i)(W:0<(ae s i ((aa s i).U.length-1)).stack.length)(M:∀c:Int,(aa s i).caller=c→0≤c→∃a:Nat,c=a∧a≠i∧aH s a):Calls prog 150 #[.pointer (some ⟨f,0,none⟩)] w fun b b6=>dB base f (eI s) w b b6:=by
 have T:=oD base f V s i w F o h.lt h.fr h.JM h.st W;have k:=eG o;have O:(aa (af s) i).caller=(aa s i).caller:=by rw[k,jc _ h.lt]
 have n:(af s).I.length=s.I.length:=by rw[k];exact bj _ _ _
 have b2:(af s).now=i:=by rw[k];exact o
 have b3:∀a,a≠i→aa (af s) a=aa s a:=fun a x=>by rw[k];exact lN _ (fun b=>x b.symm)
 have X:eI s=if(aa s i).caller<0 then(St.zero,7)else(aO {(ak (af s) i {aa (af s) i with caller:=-1})with now:=(aa s i).caller} (aa s i).caller (aq s),0):=by unfold eI;simp only;rw[o,ez,fA,O]
 rw[X];generalize a9:(aa s i).caller=c at*;have N:=M c rfl;have a3:=R T;have q:=R h.lt;have A:=R b3;clear T k X M F;generalize b4:af s=e at*;generalize aq s=Y at*;have z:=R N;clear N h W b4 a9;generalize G:s.I.length=a5 at*;have B:Hid (∀a,aH s a→a≠i→aH {(ak e i {aa e i with caller:=-1})with now:=(a:Int)} a):=R (fun a d m=>by
  refine d.other ?_ ?_;·show(ak e i _).I.length=_;rw[bj,n,G]
  ·show aa (ak e i _) a=_;rw[cS _ (fun b=>m b.symm)];exact(U A) a m);clear A G;generalize g:(if c<0 then(St.zero,(7:Int))else(aO {(ak e i {aa e i with caller:=-1})with now:=c} c Y,0))=b9;have r:=R g;clear g;go_enter func150,ntmps150;go_wp2_with fail;refine(U a3).mono ?_;rintro b b7⟨rfl,t,j,H⟩;obtain⟨C,a7,_,D⟩:=j.cells;obtain⟨u,a8,l,c3,_,b5,E,c2⟩:=j.own.JL (i:=i) (by rw[n];exact U q);rw[l]at C;rw[b2]at a7;rw[O]at b5;have b1:¬u=f:=fun b=>j.off .I trivial (by rw[l,←b];rfl);have c6:¬f=u:=fun b=>b1 b.symm;have c5:(i:Int)<(a5:Int):=by have:=U q;omega
 have c4:(0:Int)≤(i:Int):=by omega
 rw[n]at C;have c0:=D 1;have c1:=E (i*2+1);have a1:=R j;have y:=R H;have a0:=R l;clear j H l D E;by_cases p:c<0;·have g:=U r;rw[if_pos p]at g;subst g;have b0:decide (c<0)=true:=decide_eq_true p;go_wp2;go_quiet(fail);go_wp2;go_ret;exact⟨rfl,Go.below_drewN (U y) _,fun b=>by cases b⟩
 ·have b0:decide (c<0)=false:=decide_eq_false p;obtain⟨a,x,m,d⟩:=(U z) (by omega);have g:=U r;rw[if_neg p]at g;subst g x;have a4:=R ((U B) a d m);clear d z B r;go_wp2;go_quiet(fail);go_wp2_with fail;have v:ag base (b7.drewN nq) f t e:=(U a1).same rfl;have P:=v.Kk (a:Int);obtain⟨Q,I⟩:=P.Kb (i:=i) (by show i<e.I.length;rw[n];exact U q) (show t .I=.slice (some ⟨u,0,none⟩) e.I.length a8 from U a0) (-1);have d:=U a4;refine(kp base f t _ a Y _ Q d.lt d.fr d.JM d.st).mono ?_;rintro b b8⟨rfl,a6,S,K⟩;have L:Below base w b8:=Below.trans (Below.trans (Below.trans (Go.below_drewN (U y) nq) (Below.setCell (Below.refl _ _) v.low _)) I) K;have Z:=R L;have a2:=R S;clear P Q I K L S v d;go_wp2;go_ret;exact⟨rfl,U Z,fun _=>⟨a6,U a2⟩⟩
def bB(s:St)(i:Nat):St:=ak (af s) i {aa (af s) i with U:=(aa (af s) i).U.dropLast}
theorem Ck{s:St}{i:Nat}(c:s.now=i)(a:i<s.I.length):ek s=if(bB s i).I.length=0∨(aa (bB s i) i).U=[]then(if(aa s i).caller<0 then cm {bB s i with now:=-1} (aq s)else(aO {(ak (bB s i) i {aa (bB s i) i with caller:=-1})with now:=(aa s i).caller} (aa s i).caller (aq s),0))else(aO (bB s i) i (aq s),0):=by
 have d:=eG c;have f:(aa (af s) i).caller=(aa s i).caller:=by rw[d,jc _ a]
 have b:(af s).I.length=s.I.length:=by rw[d];exact bj _ _ _
 have h:(bB s i).I.length=s.I.length:=by unfold bB;rw[bj,b]
 have g:(aa (bB s i) i).caller=(aa s i).caller:=by unfold bB;rw[bV _ (by rw[b];exact a)];exact f
 unfold ek;simp only;rw[c,fA];show(if((bB s i).JL (i:Int)).U=[]then if((bB s i).JL (i:Int)).caller<0 then _ else(aO {((bB s i).JO (i:Int) _)with now:=((bB s i).JL (i:Int)).caller} ((bB s i).JL (i:Int)).caller (aq s),0)else(aO (bB s i) (i:Int) (aq s),0))=_;rw[ez,fA,g];have e:¬(bB s i).I.length=0:=by omega
 simp only[e,false_or];rfl
theorem Cl(base e:Nat)(V:Key→Value)(s:St)(i:Nat)(w:World)(M:ag base w e V s)(P:s.now=i)(c:aH s i)(i7:0<(ae s i ((aa s i).U.length-1)).stack.length)(h9:s.out.length≤30)(c1:1<(aa s i).U.length→(ae s i ((aa s i).U.length-2)).stack.length≤1000)(c3:∀f:Int,(aa s i).caller=f→0≤f→∃b:Nat,f=b∧b≠i∧aH s b):Calls prog 148 #[.pointer (some ⟨e,0,none⟩)] w fun a j5=>dB base e (ek s) w a j5:=by
 have e2:=oD base e V s i w M P c.lt c.fr c.JM c.st i7;have n:=eG P;have c5:(aa (af s) i).caller=(aa s i).caller:=by rw[n,jc _ c.lt]
 have A:(af s).I.length=s.I.length:=by rw[n];exact bj _ _ _
 have c9:(af s).now=i:=by rw[n];exact P
 have i1:(af s).out=s.out:=by rw[n];rfl
 have z:(aa (af s) i).U.length=(aa s i).U.length:=by rw[n];exact gi _ c.lt i
 have C:i<(af s).I.length:=by rw[A];exact c.lt
 have e1:∀b,b≠i→aa (bB s i) b=aa s b:=fun b N=>by unfold bB;rw[cS _ (fun a=>N a.symm),n];exact lN _ (fun a=>N a.symm)
 have B:(bB s i).I.length=s.I.length:=by unfold bB;rw[bj,A]
 have a7:aa (bB s i) i={aa (af s) i with U:=(aa (af s) i).U.dropLast}:=by unfold bB;exact bV _ C
 have h6:(aa (bB s i) i).U.length=(aa s i).U.length-1:=by rw[a7];simp[z]
 have e3:1<(aa s i).U.length→aH (bB s i) i:=fun h1=>by
  refine⟨by rw[B];exact c.lt,by omega,by have:=c.JM;omega,?_⟩;have:ae (bB s i) i ((aa (bB s i) i).U.length-1)=ae s i ((aa s i).U.length-2):=by
   rw[h6];unfold ae;rw[a7];simp only;have h7:(aa s i).U.length-1-1<(aa (af s) i).U.length-1:=by omega
   rw[show(aa s i).U.length-2=(aa s i).U.length-1-1 by omega];have g8:(aa (af s) i).U.dropLast.getD ((aa s i).U.length-1-1) Fr.zero=(aa (af s) i).U.getD ((aa s i).U.length-1-1) Fr.zero:=by
    have h2:(aa s i).U.length-1-1<(aa (af s) i).U.length:=by omega
    simp[List.getD,h7,h2]
   rw[g8];have:=ic (s:=s) (i:=i) (j:=(aa s i).U.length-1) (i':=i) (j':=(aa s i).U.length-1-1) {ae s i ((aa s i).U.length-1)with stack:=(ae s i ((aa s i).U.length-1)).stack.dropLast} c.lt (by rintro⟨_,a⟩;omega);rw[←n]at this;exact this
  rw[this];exact c1 h1
 rw[Ck P c.lt];have a6:((bB s i).I.length=0∨(aa (bB s i) i).U=[])↔(aa s i).U.length=1:=by
  have:=c.fr;have:=c.lt;constructor
  ·rintro(a|a);·omega
   ·have:=congrArg List.length a;simp only[List.length_nil]at this;omega
  ·intro a;exact .inr (List.length_eq_zero_iff.1 (by omega))
 have c8:=c.lt;have i4:=c.fr;have i5:=c.JM;have H:=R e3;have I:Hid (∀b,aH s b→b≠i→aH {(ak (bB s i) i {aa (bB s i) i with caller:=-1})with now:=(b:Int)} b):=R (fun b k O=>by
  refine k.other ?_ ?_;·show(ak (bB s i) i _).I.length=_;rw[bj,B]
  ·show aa (ak (bB s i) i _) b=_;rw[cS _ (fun a=>O a.symm)];exact e1 b O);have i3:(bB s i).out.length≤30:=by have:(bB s i).out=s.out:=i1;rw[this];exact h9
 have i2:(bB s i).now=i:=c9;generalize h5:(aa s i).caller=f at*;have c4:=c3 f rfl;generalize i8:aq s=x at*;generalize g:(if(bB s i).I.length=0∨(aa (bB s i) i).U=[]then(if f<0 then cm {bB s i with now:=-1} x else(aO {(ak (bB s i) i {aa (bB s i) i with caller:=-1})with now:=f} f x,0))else(aO (bB s i) i x,0))=k2;have G:=R g;have b3:=R a6;have g2:=R e2;have F:=R c4;have g6:=R C;have b4:=R (show bB s i=ak (af s) i {aa (af s) i with U:=(aa (af s) i).U.dropLast}from rfl);obtain⟨d,e4⟩:∃d,(aa s i).U.length=d+1:=⟨_,(Nat.sub_add_cancel i4).symm⟩;rw[e4]at z i5 a6;have a0:=R e4;clear g a6 e2 n c4 c3 M c e3 e1 a7 c1 h5 i8;generalize i6:af s=j4 at*;generalize k3:s.I.length=b5 at*;clear i6;go_enter func148,ntmps148;go_wp2_with fail;refine(U g2).mono ?_;rintro a j6⟨rfl,u,r,b9⟩;obtain⟨K,a2,_,g9⟩:=r.cells;obtain⟨h,a3,L,k4,k0,b0,b8,h3⟩:=r.own.JL (i:=i) C;obtain⟨q,l,b6,h4,_⟩:=r.own.fr (i:=i) (j:=0) C (by omega);rw[L]at K;rw[c9]at a2;rw[c5]at b0;rw[A]at K;rw[b6,z]at k0;rw[z]at h4;have h8:¬h=e:=fun a=>r.off .I trivial (by rw[L,←a];rfl);have k7:¬e=h:=fun a=>h8 a.symm;have k6:(i:Int)<(b5:Int):=by omega
 have k5:(0:Int)≤(i:Int):=by omega
 have l1:IntKind.i64.wrap ((d:Int)+1-1)=(d:Int):=by rw[IntKind.wrap_i64];omega
 have l0:(d:Int)+1-1=(d:Int):=by omega
 have k8:(0:Int)≤(d:Int):=by omega
 have k9:(d:Int)≤(l:Int):=by omega
 have b7:=b8 (i*2);have a5:=r.Ki C L b6;rw[z,Nat.add_sub_cancel]at a5;have b2:=R a5;have g0:=R r;have b1:=R b9;have Y:=R L;clear r b9 a5;go_wp2;go_quiet(fail);go_wp2;generalize t:j6.drewN nq=p;have j9:p.cell? ⟨e,0,none⟩=some (.slice (some ⟨h,0,none⟩) b5 a3):=by rw[←t];exact K
 have k1:p.cell? ⟨e,1,none⟩=some (.int .i64 i):=by rw[←t];exact a2
 have i9:p.cell? ⟨h,i*2,none⟩=some (.slice (some ⟨q,0,none⟩) (d+1) l):=by rw[←t];exact k0
 have j0:p.cell? ⟨h,i*2+1,none⟩=some (.int .i64 f):=by rw[←t];exact b0
 have j1:p.frozen? ⟨h,i*2,none⟩=false:=by rw[←t];exact b7
 have X:Hid (ag base (p.setCell ⟨h,i*2,none⟩ (.slice (some ⟨q,0,none⟩) d l)) e (aC u (.U i) (.slice (some ⟨q,0,none⟩) d l)) (bB s i)∧Below base w (p.setCell ⟨h,i*2,none⟩ (.slice (some ⟨q,0,none⟩) d l))):=by rw[←t];refine R ⟨by rw[U b4];exact ag.same (U b2).1 rfl,?_⟩;exact Below.setCell (Go.below_drewN (U b1) nq) h3 _
 clear t K a2 k0 b0 b7 b2 b1 g0 g9 b8;go_region;generalize a9:(p.setCell ⟨h,i*2,none⟩ (.slice (some ⟨q,0,none⟩) d l)).drew=e7;have S:ag base e7 e (aC u (.U i) (.slice (some ⟨q,0,none⟩) d l)) (bB s i):=by rw[←a9];exact ag.same (U X).1 rfl
 have c2:Below base w e7:=by rw[←a9];exact Below.drew (U X).2
 obtain⟨j7,j8,_,e8⟩:=S.cells;obtain⟨h0,g7,a4,_,j2,j3,e5,_⟩:=S.own.JL (i:=i) (by rw[B];exact c8);rw[aB u _ (by simp),U Y]at a4;rw[cj]at j2;obtain⟨⟨rfl⟩,-,rfl⟩:=(by simpa using a4:(h=h0)∧j4.I.length=(bB s i).I.length∧a3=g7);rw[aB u _ (by simp),U Y,A]at j7;rw[i2]at j8;have c6:(aa (bB s i) i).caller=f:=by rw[U b4,bV _ (U g6)];exact c5
 rw[c6]at j3;have l2:=e8 1;have l3:=e5 (i*2+1);have y:=R S;have W:=R c2;clear a9 S c2 e8 e5 j9 k1 i9 j0 j1 X a4 c6;by_cases i0:d=0
 ·subst i0;have v:=(U b3).2 (U a0);have g:=U G;rw[if_pos v]at g;by_cases Q:f<0;·rw[if_pos Q]at g;have c7:decide (f<0)=true:=decide_eq_true Q;have g3:=R g;clear g v F H I;go_wp2_with fail;have D:=(U y).Kk (-1);refine(wh base e _ _ x _ D i3).mono ?_;rintro a e6⟨rfl,m,a8⟩;rw[U g3]at a8⊢;have e9:=R (Below.trans (Below.trans (U W) (Below.setCell (Below.refl _ _) (U y).low _)) m);have g1:=R a8;clear D m a8;go_wp2;go_ret;exact⟨rfl,U e9,U g1⟩
  ·rw[if_neg Q]at g;have c7:decide (f<0)=false:=decide_eq_false Q;obtain⟨b,N,O,k⟩:=(U F) (by omega);subst g N;have g4:=R ((U I) b k O);clear v F H I k G;go_wp2_with fail;have e0:=(U y).Kk (b:Int);obtain⟨D,c0⟩:=e0.Kb (i:=i) (by show i<(bB s i).I.length;rw[B];exact c8) (show(aC u (.U i) (.slice (some ⟨q,0,none⟩) 0 l)) .I=.slice (some ⟨h,0,none⟩) (bB s i).I.length a3 by rw[aB u _ (by simp),U Y,A,B]) (-1);have k:=U g4;refine(kp base e _ _ b x _ D k.lt k.fr k.JM k.st).mono ?_;rintro a e6⟨rfl,a1,E,m⟩;have T:=R (Below.trans (Below.trans (Below.trans (U W) (Below.setCell (Below.refl _ _) (U y).low _)) c0) m);have Z:=R E;clear e0 D c0 m E k;go_wp2;go_ret;exact⟨rfl,U T,fun _=>⟨a1,U Z⟩⟩
 ·have v:¬((bB s i).I.length=0∨(aa (bB s i) i).U=[]):=fun M=>by have:=(U b3).1 M;have:=U a0;omega
  have g:=U G;rw[if_neg v]at g;subst g;have c7:decide ((0:Int)<(d:Int))=true:=decide_eq_true (by omega);have o:=(U H) (by have:=U a0;omega);have g5:=R o;clear v F H I o G;go_wp2_with fail;have o:=U g5;refine(kp base e _ _ i x _ (U y) o.lt o.fr o.JM o.st).mono ?_;rintro a e6⟨rfl,a1,E,m⟩;have T:=R (Below.trans (U W) m);have Z:=R E;clear m E o;go_wp2;go_ret;exact⟨rfl,U T,fun _=>⟨a1,U Z⟩⟩
theorem gU{s:St}{i:Nat}(d:s.now=i)(c:i<s.I.length)(g:0<(aa s i).U.length):(af s).I.length=s.I.length∧(af s).now=i∧(af s).out=s.out∧(∀a,(aa (af s) a).caller=(aa s a).caller)∧(∀a,(aa (af s) a).U.length=(aa s a).U.length)∧(ae (af s) i ((aa s i).U.length-1)).stack=(ae s i ((aa s i).U.length-1)).stack.dropLast∧(∀a,a≠i→aa (af s) a=aa s a):=by have b:=eG d;refine⟨by rw[b];exact bj _ _ _,by rw[b];exact d,by rw[b];rfl,fun a=>by rw[b,jc _ c],fun a=>by rw[b];exact gi _ c a,?_,fun a f=>by rw[b];exact lN _ (fun e=>f e.symm)⟩;rw[b,fp _ c (by omega)]
theorem aH.pull{s:St}{i:Nat}(a:aH s i)(e:s.now=i):aH (af s) i:=by obtain⟨c,_,_,_,b,d,_⟩:=gU e a.lt a.fr;refine⟨by rw[c];exact a.lt,by rw[b];exact a.fr,by rw[b];exact a.JM,?_⟩;rw[b,d,List.length_dropLast];have:=a.st;omega
theorem oE{s:St}{i:Nat}(e:s.now=i)(d:i<s.I.length)(c:0<(aa s i).U.length)(k:Nat)(n:Int)(a:List Int):bt (af s).I k n a=bt s.I k n a:=by obtain⟨_,_,_,b,_⟩:=gU e d c;exact ld (fun n=>b n.toNat) k n a
structure Fits(s:St):Prop where
 I:s.I.length≤1000
 out:s.out.length≤30
 U:∀a,a<s.I.length→(aa s a).U.length≤1000
 locals:∀a b,a<s.I.length→b<(aa s a).U.length→(ae s a b).locals.length≤1000
 stack:∀a b,a<s.I.length→b<(aa s a).U.length→(ae s a b).stack.length≤1000
theorem Fits.small{s:St}(b:Fits s):Small s:=by
 refine⟨b.I,by have:=b.out;omega,fun k h=>?_⟩;obtain⟨a,d,rfl⟩:=List.getElem_of_mem h;have e:aa s a=s.I[a]:=by simp[aa,List.getD,d]
 refine⟨by rw[←e];exact b.U a d,fun l i=>?_⟩;obtain⟨c,f,rfl⟩:=List.getElem_of_mem i;have g:c<(aa s a).U.length:=by rw[e];exact f
 have j:ae s a c=s.I[a].U[c]:=by unfold ae;rw[e];simp[List.getD,f]
 rw[←j];exact⟨b.locals a c d g,b.stack a c d g⟩
theorem Fits.pull{s:St}{i:Nat}(d:Fits s)(l:s.now=i)(h:i<s.I.length)(n:0<(aa s i).U.length):Fits (af s):=by
 obtain⟨f,_,h3,_,g,o,p⟩:=gU l h n;have m:=eG l;have k:∀a b,(ae (af s) a b).locals=(ae s a b).locals∧(ae (af s) a b).stack.length≤(ae s a b).stack.length:=fun a b=>by
  by_cases j:i=a∧(aa s i).U.length-1=b;·obtain⟨rfl,rfl⟩:=j;rw[m,fp _ h (by omega)];exact⟨rfl,by simp⟩
  ·rw[m,ic _ h j];exact⟨rfl,Nat.le_refl _⟩
 refine⟨by rw[f];exact d.I,by rw[h3];exact d.out,fun a c=>?_,fun a b c e=>?_,fun a b c e=>?_⟩;·rw[g];rw[f]at c;exact d.U a c
 ·rw[(k a b).1];rw[f]at c;rw[g]at e;exact d.locals a b c e
 ·rw[f]at c;rw[g]at e;exact Nat.le_trans (k a b).2 (d.stack a b c e)
theorem GQ{s:St}{i:Nat}(d:s.now=i)(c:aH s i){l:List Int}(a:cB s=some l):eS s=if aX (aq (af s)) s.I.length=true then(if aq (af s)∈l∨((af (af s)).JL (aq (af s))).U=[]then(St.zero,6)else if({((af (af s)).JO (aq (af s)) fun b=>{b with caller:=(i:Int)})with now:=aq (af s)}:St).top.at_=0 then(({((af (af s)).JO (aq (af s)) fun b=>{b with caller:=(i:Int)})with now:=aq (af s)}:St).JT (aq (af s)) fun f=>{f with locals:=f.locals.set 0 (aq s)},0)else(aO {((af (af s)).JO (aq (af s)) fun b=>{b with caller:=(i:Int)})with now:=aq (af s)} (aq (af s)) (aq s),0))else(St.zero,5):=by
 obtain⟨a1,a2,_⟩:=gU d c.lt c.fr;have e:=c.pull d;obtain⟨b1,h,_⟩:=gU a2 e.lt e.fr;have j:bt s.I (s.I.length+1) s.now []=some l:=by
  unfold cB at a;cases g:bt s.I (s.I.length+1) s.now []with
  |none=>rw[g]at a;cases a
  |some k=>
   rw[g]at a;simp only at a;split at a;·cases a;rfl
   ·cases a
 unfold eS;simp only;rw[b1,a1,h,oE a2 e.lt e.fr,oE d c.lt c.fr,←d,j];rfl
theorem GR(base h:Nat)(V:Key→Value)(s:St)(i:Nat)(w:World)(l:List Int)(h9:ag base w h V s)(y:s.now=i)(g:aH s i)(p9:1<(ae s i ((aa s i).U.length-1)).stack.length)(c2:Fits s)(i8:∀o,o∈s.I→-1≤o.caller∧o.caller<s.I.length)(P:cB s=some l)(j5:(i:Int)∈l)(j9:∀a:Nat,a<s.I.length→(a:Int)∉l→0<(aa s a).U.length→(ae s a ((aa s a).U.length-1)).at_=0→0<(ae s a ((aa s a).U.length-1)).locals.length):Calls prog 149 #[.pointer (some ⟨h,0,none⟩)] w fun c e2=>dB base h (eS s) w c e2:=by
 have k6:=oD base h V s i w h9 y g.lt g.fr g.JM g.st (by omega);obtain⟨a1,a2,a3,a4,a5,a6,a7⟩:=gU y g.lt g.fr;have n:=g.pull y;obtain⟨b1,b5,n6,h1,n7,n8,h2⟩:=gU a2 n.lt n.fr;have l3:0<(ae (af s) i ((aa (af s) i).U.length-1)).stack.length:=by rw[a5,a6,List.length_dropLast];omega
 have k7:=fun(h0:Key→Value)(Z:World)(q0:ag base Z h h0 (af s))=>oD base h h0 (af s) i Z q0 a2 n.lt n.fr n.JM n.st l3;have j3:Fits (af (af s)):=(c2.pull y g.lt g.fr).pull a2 n.lt n.fr;have m:(af (af s)).I.length=s.I.length:=by rw[b1,a1]
 have i9:∀a,a<s.I.length→-1≤(aa (af (af s)) a).caller∧(aa (af (af s)) a).caller<s.I.length:=fun a A=>by rw[h1,a4];exact i8 _ (List.mem_of_getElem? (aD s.I a Fb.zero A))
 have j8:cB (af (af s))=some l:=by unfold cB at P⊢;rw[b1,a1,b5,oE a2 n.lt n.fr,oE y g.lt g.fr,←y];exact P
 have k4:∀a,a≠i→aa (af (af s)) a=aa s a:=fun a A=>by rw[h2 a A,a7 a A]
 rw[GQ y g P];generalize s7:af (af s)=b at*;generalize s9:aq s=a0 at*;generalize s4:aq (af s)=f at*;generalize d:(if aX f s.I.length=true then(if f∈l∨(b.JL f).U=[]then(St.zero,(6:Int))else if({(b.JO f fun o=>{o with caller:=(i:Int)})with now:=f}:St).top.at_=0 then(({(b.JO f fun o=>{o with caller:=(i:Int)})with now:=f}:St).JT f fun h8=>{h8 with locals:=h8.locals.set 0 a0},0)else(aO {(b.JO f fun o=>{o with caller:=(i:Int)})with now:=f} f a0,0))else(St.zero,5))=q9;have b3:=R d;have g3:=R k6;have g4:=R k7;have b0:=R j3;have e6:=R i9;have m6:=R j8;have n1:=R k4;have m8:=R j9;have m5:=R j5;have p6:=g.lt;have r6:=c2.I;have S:b.now=i:=b5;clear d k6 k7 c2 j3 i8 i9 P j8 j9 j5 h9 g n l3 p9 a3 a4 a5 a6 a7 n6 h1 n7 n8 h2 k4 b5;generalize r5:s.I.length=v at*;go_enter func149,ntmps149;go_wp2_with fail;refine(U g3).mono ?_;rintro c q3⟨rfl,n4,k1,i0⟩;have k5:=(U g4) n4 q3 k1;have g2:=R k5;have e3:=R i0;clear k5 k1 i0 g3 g4;go_wp2_with fail;refine(U g2).mono ?_;rintro c q4⟨rfl,M,T,i1⟩;obtain⟨h3,h4,n9,o7⟩:=T.cells;obtain⟨N,o2,b7,r9,_,_,o8,r8⟩:=T.own.JL (i:=i) (by rw[m];exact p6);rw[b7,m]at h3;rw[S]at h4;have L:=R T;have a9:=R (Below.trans (U e3) i1);have K:=R b7;clear T i1 b7 g2 e3;have u1:IntKind.i64.wrap ((v:Int)-1)=(v:Int)-1:=by rw[IntKind.wrap_i64];omega
 have X:=qI f v;by_cases t:aX f v=true
 ·rw[t]at X;obtain⟨a,A⟩:∃a:Nat,f=a:=⟨f.toNat,by have:=cZ.1 t;omega⟩;have O:a<v:=by have:=cZ.1 t;omega
  have d:=U b3;rw[if_pos t]at d;subst A;have c7:=(U L).own.reads (U b0).small;rw[U K,m,S]at c7;have Q:=uW b _ q4 c7 (by rw[S,m];omega) (fun o p3=>by
   obtain⟨e,k9,rfl⟩:=List.getElem_of_mem p3;have:=(U e6) e (by rw[←m];exact k9);have c:aa b e=b.I[e]:=by simp[aa,List.getD,k9]
   rw[c]at this;rw[m];exact this) (by rw[m];omega);unfold pH at Q;rw[U m6]at Q;have m7:=R Q;have b4:=R d;clear c7 Q d t e6 b3;go_wp2_with(first|(go_at_call 73;refine(bM _ _ _ _).mono ?_;rw[X];rintro c e2⟨rfl,rfl⟩)|(go_at_call 77;refine(U m7).mono ?_;rintro c q5⟨q2,r0,rfl,j7,rfl,j6⟩;have e8:=R j7;have m4:=R j6;clear j7 j6));have z:=uA l q2 a q5 (U m4);by_cases x:(a:Int)∈l;·rw[decide_eq_true x]at z;have d:=U b4;rw[if_pos (.inl x)]at d;subst d;refine z.mono ?_;rintro c l8⟨rfl,E⟩;have I:=R (Below.trans (U a9) ((U L).below ((U e8).trans E)));clear z E x;go_wp2;go_ret;exact⟨rfl,U I,fun c=>by cases c⟩
  ·rw[decide_eq_false x]at z;have e9:=R x;refine z.mono ?_;rintro c l8⟨rfl,E⟩;have c3:=(U e8).trans E;have B:=(U L).kept c3;have i2:=Below.trans (U a9) ((U L).below c3);have p5:a≠i:=fun c=>x (by rw[c];exact U m5);obtain⟨b6,h5,_,h6⟩:=B.cells;obtain⟨p1,o3,b8,_,e1,q1,l7,_⟩:=B.own.JL (i:=a) (by rw[m];exact O);rw[U K]at b8 b6;obtain⟨⟨rfl⟩,-,rfl⟩:=(by simpa using b8:(N=p1)∧True∧o2=o3);rw[m]at b6;rw[S]at h5;obtain⟨q6,l2,-⟩:=B.own.piece (.U a) (by show a<b.I.length;rw[m];exact O);obtain⟨u3,r1,o4,-⟩:=aR l2;rw[o4]at e1;have r:aa b a=aa s a:=(U n1) a p5;have p7:¬N=h:=fun c=>B.off .I trivial (by rw[U K,←c];rfl);have s3:¬h=N:=fun c=>p7 c.symm;have s0:(a:Int)<(v:Int):=by omega
   have s1:(0:Int)≤(a:Int):=by omega
   have d:=U b4;have m9:=R B;have I:=R i2;have q8:=l7 (a*2+1);have q7:=h6 1;rw[r]at e1;generalize l1:(aa s a).U.length=e at*;have p:=R l1;clear z E x c3 B i2 b8 l2 h6 l7 h3 h4 n9 o7 o8 l1 q6;by_cases l0:e=0
   ·subst l0;have j1:(b.JL (a:Int)).U=[]:=by rw[ez,r];exact List.length_eq_zero_iff.1 (U p)
    rw[if_pos (.inr j1)]at d;subst d;clear j1;go_wp2;go_ret;exact⟨rfl,U I,fun c=>by cases c⟩
   ·have s6:((e:Int)==0)=false:=by rw[beq_eq_false_iff_ne];omega
    have k0:¬((a:Int)∈l∨(b.JL (a:Int)).U=[]):=by
     rintro(c|c);·exact(U e9) c
     ·rw[ez,r]at c;have:=congrArg List.length c;rw[U p]at this;exact l0 this
    rw[if_neg k0]at d;have g5:=R d;clear d k0 b4;go_wp2;go_region;generalize e0:(l8.setCell ⟨N,a*2+1,none⟩ (.int .i64 i)).drew=a8;have D:a<b.I.length:=by rw[m];exact O
    obtain⟨k2,i3⟩:=(U m9).Kb D (U K) (i:Int);have G:ag base a8 h M (ak b a {aa b a with caller:=(i:Int)}):=by rw[←e0];exact ag.same k2 rfl
    have i7:Below base w a8:=by rw[←e0];exact Below.drew (Below.trans (U I) i3)
    obtain⟨u5,u6,_,l9⟩:=G.cells;have u7:=l9 1;have c6:=G.Kk (a:Int);have i4:Below base w (a8.setCell ⟨h,1,none⟩ (.int .i64 a)):=Below.trans i7 (Below.setCell (Below.refl _ _) G.low _);have c1:aa {(ak b a {aa b a with caller:=(i:Int)})with now:=(a:Int)} a={aa b a with caller:=(i:Int)}:=bV _ D;have k:(aa {(ak b a {aa b a with caller:=(i:Int)})with now:=(a:Int)} a).U.length=e:=by rw[c1];show(aa b a).U.length=e;rw[r];exact U p
    have c4:a<({(ak b a {aa b a with caller:=(i:Int)})with now:=(a:Int)}:St).I.length:=by show a<(ak b a _).I.length;rw[bj];exact D
    have s5:e≤1000:=by have:=(U b0).U a D;rw[r,U p]at this;exact this
    obtain⟨o9,o0,h7,l5⟩:=fm c6 (i:=a) c4 (by rw[k];omega) (by rw[k];omega);have d:=U g5;rw[fA]at d;have n2:=R G;have g0:=R c6;have e4:=R i4;have g9:=R l5;have m1:=R h7;have g6:=R d;have e7:=R c1;have m3:=R k;have b2:=R c4;clear e0 k2 i3 G i7 c6 i4 l5 d c1 l9 b6 h5 e1 q1 q8 q7 g5 h7 c4 k;go_wp2_with fail;refine(U g9).mono ?_;rintro c H⟨rfl,l6,rfl⟩;generalize c9:(a8.setCell ⟨h,1,none⟩ (.int .i64 a)).drewN l6=H;have W:ag base H h M {(ak b a {aa b a with caller:=(i:Int)})with now:=(a:Int)}:=(U g0).same (by rw[←c9];rfl);have i5:Below base w H:=by rw[←c9];exact Go.below_drewN (U e4) l6
    have k:=U m3;have l4:({(ak b a {aa b a with caller:=(i:Int)})with now:=(a:Int)}:St).top=ae {(ak b a {aa b a with caller:=(i:Int)})with now:=(a:Int)} a (e-1):=by unfold St.top;show(St.JL _ (a:Int)).top=_;rw[ez,na,k]
    have c8:ae {(ak b a {aa b a with caller:=(i:Int)})with now:=(a:Int)} a (e-1)=ae s a ((aa s a).U.length-1):=by unfold ae;rw[U e7];show(aa b a).U.getD (e-1) Fr.zero=_;rw[r,U p]
    have d:=U g6;rw[l4]at d;obtain⟨p0,o1,b9,_,_,o5,o6,r3,r4,_⟩:=W.own.fr (U b2) (j:=e-1) (by rw[k];omega);rw[U m1]at b9;obtain⟨⟨rfl⟩,-,rfl⟩:=(by simpa using b9:(o9=p0)∧True∧o0=o1);have c5:=W.own.loc (U b2) (j:=e-1) (by rw[k];omega);have u:aH {(ak b a {aa b a with caller:=(i:Int)})with now:=(a:Int)} a:=by
     refine⟨U b2,by rw[k];omega,by rw[k];omega,?_⟩;rw[k,c8];have:=(U b0).stack a (e-1) D (by rw[r,U p];omega);have c:ae b a (e-1)=ae s a ((aa s a).U.length-1):=by unfold ae;rw[r,U p]
     rw[c]at this;exact this
    have F:(ae s a ((aa s a).U.length-1)).at_=0→0<(ae s a ((aa s a).U.length-1)).locals.length:=(U m8) a O (U e9) (by rw[U p];omega);rw[←c8]at F;generalize p8:({(ak b a {aa b a with caller:=(i:Int)})with now:=(a:Int)}:St)=Y at*;have g1:=R W;have e5:=R i5;have g8:=R u;clear c9 W i5 b9 l4 c8 u g9 g0 e4 n2 e7 p8 g6;by_cases q:(ae Y a (e-1)).at_=0
    ·rw[if_pos q]at d;obtain⟨p2,r2,c0,_,j0,j2,_⟩:=gH c5 (F q);rw[q]at o5;rw[c0]at o6;have p4:∃Z,H.cell? ⟨p2,0,none⟩=some Z:=⟨_,j0 0 _ (ints_at (aD _ 0 0 (F q)))⟩;obtain⟨u0,s8⟩:=p4;have u2:=j2 0;have s2:(0:Int)<((ae Y a (e-1)).locals.length:Int):=by have:=F q;omega
     have C:=(U g1).Kh (U g8).lt (j:=e-1) (q:=0) (by rw[k];omega) c0 a0;have m2:=R C;have g7:=R d;clear d C j0 j2 c5 c0;go_wp2;go_ret;have C:=U m2;refine⟨by rw[←U g7];rfl,Below.trans (U e5) C.2,fun _=>⟨M,?_⟩⟩;rw[←U g7,gj,k];exact C.1
    ·rw[if_neg q]at d;have r7:((ae Y a (e-1)).at_==0)=false:=by rw[beq_eq_false_iff_ne];exact q
     subst d;have u:=U g8;have k8:=kp base h M Y a a0 H (U g1) u.lt u.fr u.JM u.st;have n3:=R k8;clear k8 u q c5 F;go_wp2_with(go_at_call 145;refine(U n3).mono ?_;rintro c u4⟨rfl,n5,k3,i6⟩;have n0:=R k3;have m0:=R i6;clear k3 i6);go_ret;exact⟨rfl,Below.trans (U e5) (U m0),fun _=>⟨n5,U n0⟩⟩
 ·have j4:aX f v=false:=by simpa using t
  rw[j4]at X;have d:=U b3;rw[if_neg t]at d;subst d;clear t j4;go_wp2_with(go_at_call 73;refine(bM _ _ _ _).mono ?_;rw[X];rintro c e2⟨rfl,rfl⟩);go_ret;exact⟨rfl,U a9,fun c=>by cases c⟩
def filled(l:List Int)(a lo t:Nat):List Int:=(List.range lo).map fun b=>if a-t≤b∧b<a then l.getD (l.length-a+b) 0 else 0
theorem tV(l:List Int)(a lo t:Nat):(filled l a lo t).length=lo:=by simp[filled]
theorem Bz(l:List Int)(a lo:Nat):filled l a lo 0=List.replicate lo 0:=by
 apply List.ext_getElem;·simp[filled]
 ·intro d b h2;simp[filled];intro h3 c;omega
theorem By(l:List Int){a lo t:Nat}(g:t<a)(f:a≤l.length):(filled l a lo t).set (a-1-t) (l.getD (l.length-t-1) 0)=filled l a lo (t+1):=by
 apply List.ext_getElem;·simp[filled]
 ·intro d e h2;rw[List.getElem_set];simp only[filled,List.getElem_map,List.getElem_range];split;·rename_i b;subst b;rw[if_pos (by omega)];congr 1;omega
  ·rename_i b;by_cases c:a-t≤d∧d<a;·rw[if_pos c,if_pos (by omega)]
   ·rw[if_neg c,if_neg (by omega)]
theorem Bv(l:List Int){a lo:Nat}(e:a≤lo)(g:a≤l.length):filled l a lo a=l.drop (l.length-a)++List.replicate (lo-(l.drop (l.length-a)).length) 0:=by
 have c:(l.drop (l.length-a)).length=a:=by simp;omega
 rw[c];apply List.ext_getElem;·simp[filled];omega
 ·intro b d h2;simp only[filled,List.getElem_map,List.getElem_range];by_cases f:b<a
  ·rw[if_pos (by omega),List.getElem_append_left (by omega),List.getElem_drop];have:l.length-a+b<l.length:=by omega
   simp[List.getD,this]
  ·rw[if_neg (by omega),List.getElem_append_right (by omega)];simp
theorem CQ{l:List Int}{i:Nat}{z:Int}(a:l[i]?=some z):(ints l).toArray[i]?=some (.int .i64 z):=by rw[List.getElem?_toArray];exact ints_at a
theorem ag.JW{base d:Nat}{w:World}{V:Key→Value}{s:St}(c:ag base w d V s){b j:Nat}(e:Own.off V s b)(f:d≠b)(u:Value):ag base (w.setCell ⟨b,j,none⟩ u) d V s:=⟨by rw[Below.heap_setCell _ _ _ _ f];exact c.var,c.own.JW (a:=⟨b,j,none⟩) e u,c.off,c.low⟩
theorem yE{w:World}{b i B j:Nat}{v:Value}(a:w.cell? ⟨b,i,none⟩=some v)(c:b≠B)(u:Value):(w.setCell ⟨B,j,none⟩ u).cell? ⟨b,i,none⟩=some v:=by
 rw[World.cell?_of_block (w:=w)];·exact a
 ·exact Below.heap_setCell w _ _ _ c
theorem BQ(base g:Nat)(V:Key→Value)(s:St)(i gF capF BL lo:Nat)(w:World)(h:ag base w g V s)(m:i<s.I.length)(r:V .I=.slice (some ⟨gF,0,none⟩) s.I.length capF)(u:(aa s i).U.length≤1000)(f:Fr)(C:f.stack=[])(v:f.locals.length=lo)(x:lo≤1000)(q:w.heap[BL]?=some (.cells (ints f.locals).toArray 3))(A:Own.off V s BL)(y:base≤BL)(t:g≠BL):∃c b,(Builtin.append_ #[93,93] 93 #[V (.U i),.slice (some ⟨w.heap.size,0,none⟩) 1 1]).run prog (w.alloc (.cells #[.int .i64 f.fn,.int .i64 f.at_,.slice (some ⟨BL,0,none⟩) lo lo,.slice none 0 0] 92)).drew=.ok c b∧(∃D n,c=.slice D ((aa s i).U.length+1) n)∧(∃e,ag base (b.setCell ⟨gF,i*2,none⟩ c) g e (ak s i {aa s i with U:=(aa s i).U++[f]}))∧Below base w b∧(∀a,a<w.heap.size→(V (.U i)).ownBlock≠some a→b.heap[a]?=w.heap[a]?):=by subst v;have d:J w (w.alloc (.cells #[.int .i64 f.fn,.int .i64 f.at_,.slice (some ⟨BL,0,none⟩) f.locals.length f.locals.length,.slice none 0 0] 92)).drew:=((J.refl w).alloc _).drew;have j:=h.kept d;obtain⟨c,b,e,p,h2,h3,k,_⟩:=uo j m r u f C x (aW (au q _)) A y t (aW (ah rfl));exact⟨c,b,p,h2,⟨e,h3⟩,Below.grown (h.below d) k (by have:=h.low;have:=lt_of_block j.var;omega) (fun E B=>((j.own.piece (.U i) m).block E B).1),fun a l z=>(k.block a (Nat.lt_of_lt_of_le l d.size) (fun o=>z o.symm)).trans (d.block a l)⟩
theorem yz(base h:Nat)(V:Key→Value)(s:St)(i k n l3 b3 e7 a lo:Nat)(w:World)(I:ag base w h V s)(e2:s.now=i)(n3:aH s i)(e5:∀c,Below base w c→c.cell? ⟨b3,e7+k*3,none⟩=some (.int .i64 a)∧c.cell? ⟨b3,e7+k*3+1,none⟩=some (.int .i64 lo))(p1:k<n)(m0:a≤lo)(m7:lo≤1000)(j0:a≤(ae s i ((aa s i).U.length-1)).stack.length)(p0:(aa s i).U.length≤6)(g9:St×Int)(B:(if(aa s i).U.length=6 then(St.zero,(2:Int))else(ak (bY s i a) i {aa (bY s i a) i with U:=(aa (bY s i a) i).U++[⟨k,0,(ae s i ((aa s i).U.length-1)).stack.drop ((ae s i ((aa s i).U.length-1)).stack.length-a)++List.replicate (lo-((ae s i ((aa s i).U.length-1)).stack.drop ((ae s i ((aa s i).U.length-1)).stack.length-a)).length) 0,[]⟩]},0))=g9):Calls prog 147 #[.slice (some ⟨b3,e7,none⟩) n l3,.pointer (some ⟨h,0,none⟩),.int .i64 k] w fun f n7=>dB base h g9 w f n7:=by
 have p8:=jB lo (by omega);have o6:=lt_of_block I.var;have p7:=I.low;obtain⟨j3,n6⟩:=e5 w (Below.refl _ _);have i3:=bJ j3;simp only at i3;have M:=R I;have k9:=R B;have t:=R n3;have o0:=R e5;have o9:(k:Int)<(n:Int):=by omega
 have o8:(0:Int)≤(k:Int):=by omega
 have q0:IntKind.i64.wrap ((a:Int)-1)=(a:Int)-1:=by rw[IntKind.wrap_i64];omega
 clear I B e5;go_enter func147,ntmps147;go_wp2;have i9:Array.replicate lo (Value.int .i64 0)=(ints (filled (ae s i ((aa s i).U.length-1)).stack a lo 0)).toArray:=by rw[Bz];simp[ints]
 rw[i9];generalize Y:(w.alloc (.cells (ints (filled (ae s i ((aa s i).U.length-1)).stack a lo 0)).toArray 3)).alloc (.cells #[.int .i64 k,.int .i64 0,.slice (some ⟨w.heap.size,0,none⟩) lo lo,.slice none 0 0] 92)=a9 at*;generalize a5:w.heap.size=e at*;generalize c2:e+1=d at*;have g7:a9.heap[e]?=some (.cells (ints (filled (ae s i ((aa s i).U.length-1)).stack a lo 0)).toArray 3):=by rw[←Y];exact au (ah a5) _
 have g8:a9.heap[d]?=some (.cells #[.int .i64 k,.int .i64 0,.slice (some ⟨e,0,none⟩) lo lo,.slice none 0 0] 92):=by rw[←Y];exact ah (by simp[a5,c2])
 have i5:ag base a9 h V s:=by rw[←Y];exact((U M).alloc _).alloc _
 have h9:Below base w a9:=by rw[←Y];exact Below.alloc (Below.alloc (Below.refl _ w) (by omega) _) (by simp;omega) _
 have i6:Own.off V s e:=(U M).own.JU (.inl (by omega));have g3:=R i6;have k4:=R g7;have k5:=R g8;have k6:=R i5;have j7:=R h9;have u:Hid (w.heap.size=e∧d=e+1):=R ⟨a5,c2.symm⟩;generalize j1:(ae s i ((aa s i).U.length-1)).stack=p at*;have O:=R j1;clear Y g7 g8 i5 h9 i6 i9 a5 c2 j1 j3 n6 i3;go_loopw[8](fun e8 wr=>∃(b:Nat)(b2:Key→Value),b≤a∧e8=.int .i64 ((a:Int)-1-b)∧Hid (ag base wr h b2 (bY s i b))∧Hid (b2 (.U i)=V (.U i))∧Hid (∀m,(b2 m).ownBlock=(V m).ownBlock)∧Hid (wr.heap[e]?=some (.cells (ints (filled p a lo b)).toArray 3))∧Hid (wr.heap[d]?=some (.cells #[.int .i64 k,.int .i64 0,.slice (some ⟨e,0,none⟩) lo lo,.slice none 0 0] 92))∧Hid (Below base w wr))(fun e8 _=>(intOf e8+1).toNat);case atStart=>exact⟨0,V,Nat.zero_le _,by simp,R (by rw[IN (U t)];exact U k6),rfl,R (fun _=>rfl),k4,k5,j7⟩
 case round=>
  obtain⟨b,E,p9,rfl,N,g5,a1,g2,b1,b0⟩:=hrel;obtain⟨A,o3,b9,_⟩:=(U M).own.fr (i:=i) (j:=0) (U t).lt (U t).fr;have c8:A<w.heap.size:=(((U M).own.piece (.U i) (U t).lt).block A (by rw[b9];rfl)).2;have i1:A≠e∧A≠d:=by have:=U u;omega
  have h8:(E (.U i)).ownBlock=some A:=by rw[U g5,b9];rfl
  have g1:=R i1;have a2:=R h8;obtain⟨h4,c1,l4,H,h5,q⟩:=pj (U t) b;clear i1 h8 b9 c8;by_cases m8:b<a
  ·obtain⟨m,c9⟩:∃m:Nat,(a:Int)-1-b=m:=⟨a-1-b,by omega⟩;have e0:m=a-1-b:=by omega
   have m6:m<lo:=by omega
   obtain⟨i8,i4⟩:=Gx e2 (U t) (t:=b) (by rw[U O];omega);have e6:=fun(c:World)(y:c.heap=wr.heap)=>jb base h E (bY s i b) i c ((U N).same y) (by rw[c1];exact e2) q.lt q.fr q.JM q.st (by rw[H,h5,List.length_take,U O];omega);rw[i8,i4,U O]at e6;have k8:=R e6;have Z:wr.cell? ⟨d,2,none⟩=some (.slice (some ⟨e,0,none⟩) lo lo):=aE (U b1) rfl;have l1:=R Z;have p5:(m:Int)<(lo:Int):=by omega
   have p6:(0:Int)≤(m:Int):=by omega
   have q1:IntKind.i64.wrap ((m:Int)-1)=(m:Int)-1:=by rw[IntKind.wrap_i64];omega
   have c5:=By p (a:=a) (lo:=lo) (t:=b) m8 (by rw[←U O];rw[U O];exact j0);rw[←e0]at c5;have k1:=R c5;generalize n5:p.getD (p.length-b-1) 0=n8 at*;rw[c9];have n9:=R e0;have k3:=R c9;clear e6 i8 i4 Z c5 h4 c1 l4 H h5 q n5 e0 c9;go_wp2_with fail;go_region_held3(fun c=>c.cell? ⟨d,2,none⟩=some (.slice (some ⟨e,0,none⟩) lo lo))(first|exact(yE (aE c4 rfl) (by have:=U u;omega) _)|exact aE c4 rfl|exact U l1)(first|(go_at_call 146;refine((U k8) wr.drew rfl).mono ?_;rintro f e9⟨rfl,h0,m9,m2,n4,j2,i2⟩;have c4:e9.heap[d]?=_:=(i2 d (by rw[U a2];intro f;exact(U g1).2 (by cases f;rfl))).trans (U b1);have c3:e9.heap[e]?=_:=(i2 e (by rw[U a2];intro f;exact(U g1).1 (by cases f;rfl))).trans (U g2);have q5:e9.cell? ⟨e,m,none⟩=some (.int .i64 ((filled p a lo b).getD m 0)):=aE c3 (CQ (aD _ _ 0 (by rw[tV];exact m6)));have q6:=an c3 m));all_goals go_wp2_with fail
   have n0:Own.off h0 (bY s i (b+1)) e:=fun C e1 f=>by rw[j2,U a1]at f;exact(U g3) C ((fy _ (U t).lt C).1 e1) f
   have m4:h≠e:=by have:=U u;omega
   refine⟨⟨b+1,h0,by omega,by have:=U k3;congr 1;omega,R (m9.JW n0 m4 _),R (n4.trans (U g5)),R (fun C=>(j2 C).trans ((U a1) C)),R ?_,R ?_,R ?_⟩,?_⟩;·have:=ay c3 m (.int .i64 n8);rw[this,←U k1];simp[ints,List.map_set]
   ·rw[Below.heap_setCell _ _ _ _ (by have:=U u;simp only;omega)];exact c4
   ·exact Below.setCell (Below.trans (U b0) (Below.trans (Below.drew (Below.refl _ wr)) m2)) (by have:=U u;simp only;omega) _
   ·simp only[intOf];omega
  ·obtain rfl:b=a:=by omega
   obtain⟨b4,b5,_,o4⟩:=(U N).cells;obtain⟨l,G,b8,_,k0,q2,l5,m3⟩:=(U N).own.JL (i:=i) q.lt;obtain⟨r,Q,c0,o7,_⟩:=(U N).own.fr (i:=i) (j:=0) q.lt q.fr;rw[b8,h4]at b4;rw[c1,e2]at b5;rw[c0,H]at k0;have p4:(i:Int)<(s.I.length:Int):=by have:=(U t).lt;omega
   have p3:(0:Int)≤(i:Int):=by omega
   have p2:decide ((0:Int)≤(b:Int)-1-(b:Int))=false:=decide_eq_false (by omega);have B:=U k9;generalize n2:(aa s i).U.length=F at*;have o1:=R n2;by_cases h6:F=6;·subst h6;rw[if_pos rfl]at B;subst B;go_wp2;go_quiet(fail);go_wp2;go_ret;exact⟨rfl,Go.below_drewN (U b0) _,fun f=>by cases f⟩
   ·rw[if_neg h6]at B;have o5:((F:Int)==6)=false:=by rw[beq_eq_false_iff_ne];omega
    have g4:=R B;clear B;go_wp2;go_quiet(fail);go_wp2;generalize L:wr.drewN nq=g;have X:g.heap=wr.heap:=by rw[←L];rfl
    have e3:ag base g h E (bY s i b):=(U N).same X;have m1:Below base w g:=by rw[←L];exact Go.below_drewN (U b0) nq
    have b6:g.cell? ⟨h,0,none⟩=some (.slice (some ⟨l,0,none⟩) s.I.length G):=by rw[←L];exact b4
    have h1:g.cell? ⟨h,1,none⟩=some (.int .i64 i):=by rw[←L];exact b5
    have b7:g.cell? ⟨l,i*2,none⟩=some (.slice (some ⟨r,0,none⟩) F Q):=by rw[←L];exact k0
    have P:g.heap[d]?=some (.cells #[.int .i64 k,.int .i64 0,.slice (some ⟨e,0,none⟩) lo lo,.slice none 0 0] 92):=by rw[X];exact U b1
    have g0:g.cell? ⟨d,0,none⟩=some (.int .i64 k):=aE P rfl;have j5:g.cell? ⟨d,1,none⟩=some (.int .i64 0):=aE P rfl;have Z:g.cell? ⟨d,2,none⟩=some (.slice (some ⟨e,0,none⟩) lo lo):=aE P rfl;have j6:g.cell? ⟨d,3,none⟩=some (.slice none 0 0):=aE P rfl;clear L b4 b5 k0 P;have g6:Hid (∀c,J g c→c.cell? ⟨h,0,none⟩=some (.slice (some ⟨l,0,none⟩) s.I.length G)∧c.cell? ⟨h,1,none⟩=some (.int .i64 i)∧c.cell? ⟨d,0,none⟩=some (.int .i64 k)∧c.cell? ⟨d,1,none⟩=some (.int .i64 0)∧c.cell? ⟨d,2,none⟩=some (.slice (some ⟨e,0,none⟩) lo lo)∧c.cell? ⟨d,3,none⟩=some (.slice none 0 0)∧c.cell? ⟨l,i*2,none⟩=some (.slice (some ⟨r,0,none⟩) F Q)):=R (fun c y=>⟨y.cell b6,y.cell h1,y.cell g0,y.cell j5,y.cell Z,y.cell j6,y.cell b7⟩);have i7:Own.off E (bY s i b) e:=fun C e1 f=>by rw[U a1]at f;exact(U g3) C ((fy _ (U t).lt C).1 e1) f
    have h7:E .I=.slice (some ⟨l,0,none⟩) (bY s i b).I.length G:=b8;have T:(E (.U i)).ownBlock=some r:=by rw[c0];rfl
    have c6:r≠h:=fun f=>e3.off (.U i) q.lt (by rw[T,f]);have c7:r≠l:=fun f=>by have:=e3.own.apart (.U i) .I l q.lt trivial (by rw[T,f]) (by rw[b8];rfl);cases this
    have c8:A<e:=by have:=(((U M).own.piece (.U i) (U t).lt).block A (by rw[←U a1];exact U a2)).2;have:=U u;omega
    have m5:r=A:=by have:=U a2;rw[T]at this;exact Option.some.inj this
    have S:r≠d:=by have:=U u;omega
    have a7:=bJ b6;have K:=bJ g0;have a8:=bJ b7;simp only at a7 K a8;obtain⟨q4,z,W,⟨q3,o2,rfl⟩,e4,i0,a6⟩:=BQ base h E (bY s i b) i l G e lo g e3 q.lt h7 (by rw[H];omega) ⟨k,0,filled p b lo b,[]⟩ rfl (tV _ _ _ _) m7 (by rw[X];exact U g2) i7 (by have:=U u;omega) (by have:=U u;omega);rw[T]at a6;rw[H]at e4 W;rw[c0,H]at W;dsimp only at W;have l0:=R W;have k7:=R e4;have j8:=R (Below.trans m1 i0);have D:∀{a3 j:Nat}{j4:Value},a3<g.heap.size→r≠a3→g.cell? ⟨a3,j,none⟩=some j4→z.cell? ⟨a3,j,none⟩=some j4:=fun l7 h2 h3=>(World.cell?_of_block (w:=g) (a6 _ l7 (fun f=>h2 (Option.some.inj f)))).trans h3;have a0:Hid (z.cell? ⟨h,0,none⟩=some (.slice (some ⟨l,0,none⟩) s.I.length G)∧z.cell? ⟨h,1,none⟩=some (.int .i64 i)∧z.cell? ⟨d,0,none⟩=some (.int .i64 k)∧z.cell? ⟨d,1,none⟩=some (.int .i64 0)∧z.cell? ⟨d,2,none⟩=some (.slice (some ⟨e,0,none⟩) lo lo)∧z.cell? ⟨d,3,none⟩=some (.slice none 0 0)∧z.cell? ⟨l,i*2,none⟩=some (.slice (some ⟨r,0,none⟩) F Q)):=R ⟨D a7 c6 b6,D a7 c6 h1,D K S g0,D K S j5,D K S Z,D K S j6,D a8 c7 b7⟩;have a4:z.frozen? ⟨l,i*2,none⟩=false:=(World.frozen?_of_block (w:=g) (a6 l a8 (fun f=>c7 (Option.some.inj f)))).trans ((World.frozen?_of_block (w:=wr) (a:=⟨l,i*2,none⟩) (by rw[X])).trans (l5 _));have k2:=R a4;have j9:Hid (filled p b lo b=p.drop (p.length-b)++List.replicate (lo-(p.drop (p.length-b)).length) 0):=R (Bv p m0 j0);clear X;clear W e4 i0 a6 D a4 i7 h7 T c6 c7 S c8 m5 a7 K a8;refine iJ 24 (fun c=>c.cell? ⟨h,0,none⟩=some (.slice (some ⟨l,0,none⟩) s.I.length G)∧c.cell? ⟨h,1,none⟩=some (.int .i64 i)∧c.cell? ⟨d,0,none⟩=some (.int .i64 k)∧c.cell? ⟨d,1,none⟩=some (.int .i64 0)∧c.cell? ⟨d,2,none⟩=some (.slice (some ⟨e,0,none⟩) lo lo)∧c.cell? ⟨d,3,none⟩=some (.slice none 0 0)∧c.cell? ⟨l,i*2,none⟩=some (.slice (some ⟨r,0,none⟩) F Q)) (by kernel_rfl) ?_;have l8:=(U g6) _ (J.refl g).drew;refine gT [0,1,2,3,4,5,6,7,8,9,10,11,12,13,14,15,16,17,18,19] ?_;repeat
     refine cN (v:=?_) l8 (fun c l9=>?_) ?_;rotate_left;·((try dsimp only at l9);go_simp)<;>with_reducible rfl
     try simp only[PS]
    refine dc ?_;refine az (i:=20) rfl (by kernel_rfl) (fun x o=>?_);go_simp;refine o.out _ _ (fun _=>(U g6) _ (((J.refl g).alloc _).drew)) ?_;clear o x;try simp only[PS]
    refine az (i:=21) rfl (by kernel_rfl) (fun x o=>?_);rw[if_pos (by rfl)];refine eb (v:=.slice (some ⟨r,0,none⟩) F Q) _ _ _ 93 rfl rfl rfl (U l0) ?_;refine o.out _ _ (fun _=>U a0) ?_;clear o x;try simp only[PS]
    refine az (i:=22) rfl (by kernel_rfl) (fun x o=>?_);go_simp;refine o.out _ _ (fun _=>U a0) ?_;clear o x;try simp only[PS]
    refine az (i:=23) rfl (by kernel_rfl) (fun x o=>?_);go_simp;refine o.out _ _ (fun _=>U a0) ?_;clear o x;try simp only[PS]
    have l6:=(U a0).2.2.2.2.2.2;have a4:=U k2;refine az (i:=24) rfl (by kernel_rfl) (fun x o=>?_);go_simp;refine o.out _ _ (fun I=>absurd rfl I) ?_;clear o x;refine df (by kernel_rfl) ?_ _;clear l6 a4;go_wp2;go_ret;obtain⟨l2,n1⟩:=U k7;refine⟨?_,?_,fun _=>⟨l2,?_⟩⟩;·rw[←U g4];rfl
    ·exact Below.setCell (U j8) m3 _
    ·rw[←U g4,←U j9];exact n1
theorem xo(b:Bool)(w:World):Calls prog 187 #[.bool b] w fun a c=>a=.returned (.int .i64 (kG b))∧w=c:=by
 cases b with
 |true=>go_enter func187,ntmps187;go_wp2;go_ret;exact⟨rfl,rfl⟩
 |false=>go_enter func187,ntmps187;go_wp2;go_ret;exact⟨rfl,rfl⟩
theorem GB(c a b:Int)(w:World):Calls prog 152 #[.int .i64 c,.int .i64 a,.int .i64 b] w fun h i=>h=.returned (.int .i64 (dq c a b))∧w=i:=by
 unfold dq;by_cases d:c=4;·subst d;rw[if_pos rfl,←lT];go_enter func152,ntmps152;go_wp2;go_ret;exact⟨rfl,rfl⟩
 rw[if_neg d];have j:(c==4)=false:=by rw[beq_eq_false_iff_ne];exact d
 clear d;by_cases e:c=5;·subst e;rw[if_pos rfl,←lT];go_enter func152,ntmps152;go_wp2;go_ret;exact⟨rfl,rfl⟩
 rw[if_neg e];have k:(c==5)=false:=by rw[beq_eq_false_iff_ne];exact e
 clear e;by_cases f:c=6;·subst f;rw[if_pos rfl,←lT];go_enter func152,ntmps152;go_wp2;go_ret;exact⟨rfl,rfl⟩
 rw[if_neg f];have l:(c==6)=false:=by rw[beq_eq_false_iff_ne];exact f
 clear f;by_cases g:c=7;·subst g;rw[if_pos rfl];go_enter func152,ntmps152;go_wp2_with(go_at_call 187;refine(xo _ _).mono ?_;rintro h i⟨rfl,rfl⟩);go_ret;exact⟨rfl,rfl⟩
 rw[if_neg g];have m:(c==7)=false:=by rw[beq_eq_false_iff_ne];exact g
 clear g;go_enter func152,ntmps152;go_wp2_with(go_at_call 187;refine(xo _ _).mono ?_;rintro h i⟨rfl,rfl⟩);go_ret;exact⟨rfl,rfl⟩
