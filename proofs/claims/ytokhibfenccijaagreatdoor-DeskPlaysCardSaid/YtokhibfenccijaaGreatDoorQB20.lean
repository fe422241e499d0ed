import Derived.Test.YtokhibfenccijaaGreatDoorQB19
set_option maxRecDepth 100000
set_option maxHeartbeats 8000000
namespace Go.Proofs.YtokhibfenccijaaGreatDoor
open Go.Proofs.Tryz
open Go.RowKit
def left(e:Int):Ending:=.panicked [{v:=.iface 22 (.int .i64 e),recovered:=false}]
def ni(w:World)(b o:Nat)(l:List Bool):Prop:=∀a c,l[a]?=some c→w.cell? ⟨b,o+a,none⟩=some (.bool c)
theorem sR(e:Int)(l:List Bool)(b o n cap:Nat)(w:World)(r:n=l.length)(v:l.length≤1000)(g:ni w b o l)(f:∀j,j∈l→j=true):Calls prog 156 #[.int .i64 e,.slice (some ⟨b,o,none⟩) n cap] w fun p t=>p=.returned (.tuple #[])∧w=t:=by
 subst r;have m:=R g;have k:=R f;clear g f;go_enter func156,ntmps156;go_wp2;go_loopw[8](fun c wr=>∃a:Nat,a≤l.length∧c=.int .i64 a∧Hid (w=wr))(fun c _=>l.length-(intOf c).toNat);case atStart=>exact⟨0,Nat.zero_le _,rfl,rfl⟩
 case round=>
  obtain⟨a,u,rfl,d⟩:=hrel;have s:=U d;subst s;clear d;by_cases h:a<l.length
  ·have q:=(U m) a _ (aD l a false h);have i:l.getD a false=true:=(U k) _ (List.mem_of_getElem? (aD l a false h));rw[i]at q;clear i;go_wp2;go_roundw;case rel=>exact⟨a+1,by omega,by go_num,trivial⟩
   case measure=>simp[intOf];omega
  ·go_wp2;go_end0;exact⟨rfl,rfl⟩
theorem pS(e:Int)(l:List Bool)(b o n cap:Nat)(w:World)(y:n=l.length)(D:l.length≤1000)(p:ni w b o l)(k:∃h,h∈l∧h=false):Calls prog 156 #[.int .i64 e,.slice (some ⟨b,o,none⟩) n cap] w fun v B=>v=left e∧w=B:=by
 subst y;have t:=R p;have s:=R k;clear p k;go_enter func156,ntmps156;go_wp2;go_loopw[8](fun g wr=>∃a:Nat,a≤l.length∧g=.int .i64 a∧Hid (∀c,c<a→l.getD c false=true)∧Hid (w=wr))(fun g _=>l.length-(intOf g).toNat);case atStart=>exact⟨0,Nat.zero_le _,rfl,(fun c f=>by omega),rfl⟩
 case round=>
  obtain⟨a,C,rfl,i,j⟩:=hrel;have z:=U j;subst z;clear j;by_cases x:a<l.length
  ·have m:=(U t) a _ (aD l a false x);by_cases d:l.getD a false=true
   ·rw[d]at m;have u:=R d;clear d;go_wp2;go_roundw;case rel=>
     refine⟨a+1,by omega,by go_num,?_,trivial⟩;intro c f;by_cases e:c=a;·subst e;exact U u
     ·exact(U i) c (by omega)
    case measure=>simp[intOf];omega
   ·have q:l.getD a false=false:=by simpa using d
    rw[q]at m;clear d q;go_wp2;first|exact⟨rfl,rfl⟩|(refine bodyPost_panic ?_;exact⟨rfl,rfl⟩)|(simp[bodyPost,left];done)
  ·obtain⟨h,A,r⟩:=U s;obtain⟨c,f,rfl⟩:=List.getElem_of_mem A;have:=(U i) c (by omega);simp[List.getD,f]at this;rw[this]at r;cases r
theorem tW{w:World}{b:Nat}{z:Bool}(d:w.cell? ⟨b,0,none⟩=some (.bool z)):ni w b 0 [z]:=fun c e a=>by
 cases c with
 |zero=>simp at a;subst a;exact d
 |succ c=>simp at a
theorem qs{w:World}{b:Nat}{z y:Bool}(c:w.cell? ⟨b,0,none⟩=some (.bool z))(d:w.cell? ⟨b,1,none⟩=some (.bool y)):ni w b 0 [z,y]:=fun e f a=>by match e,a with|0,a=>simp at a;subst a;exact c|1,a=>simp at a;subst a;exact d
theorem fJ(e:Int)(b cap:Nat)(w:World)(c:w.cell? ⟨b,0,none⟩=some (.bool true)):Calls prog 156 #[.int .i64 e,.slice (some ⟨b,0,none⟩) 1 cap] w fun a d=>a=.returned (.tuple #[])∧w=d:=sR e [true] b 0 1 cap w rfl (by decide) (tW c) (by simp)
theorem gB(e:Int)(b cap:Nat)(w:World)(c:w.cell? ⟨b,0,none⟩=some (.bool false)):Calls prog 156 #[.int .i64 e,.slice (some ⟨b,0,none⟩) 1 cap] w fun a d=>a=left e∧w=d:=pS e [false] b 0 1 cap w rfl (by decide) (tW c) ⟨false,by simp,rfl⟩
theorem nA(e:Int)(b cap:Nat)(w:World)(c:w.cell? ⟨b,0,none⟩=some (.bool true))(d:w.cell? ⟨b,1,none⟩=some (.bool true)):Calls prog 156 #[.int .i64 e,.slice (some ⟨b,0,none⟩) 2 cap] w fun a f=>a=.returned (.tuple #[])∧w=f:=sR e [true,true] b 0 2 cap w rfl (by decide) (qs c d) (by simp)
theorem jQ(e:Int)(b cap:Nat)(y:Bool)(w:World)(c:w.cell? ⟨b,0,none⟩=some (.bool false))(d:w.cell? ⟨b,1,none⟩=some (.bool y)):Calls prog 156 #[.int .i64 e,.slice (some ⟨b,0,none⟩) 2 cap] w fun a f=>a=left e∧w=f:=pS e [false,y] b 0 2 cap w rfl (by simp) (qs c d) ⟨false,by simp,rfl⟩
theorem nz(e:Int)(b cap:Nat)(y:Bool)(w:World)(c:w.cell? ⟨b,0,none⟩=some (.bool y))(d:w.cell? ⟨b,1,none⟩=some (.bool false)):Calls prog 156 #[.int .i64 e,.slice (some ⟨b,0,none⟩) 2 cap] w fun a f=>a=left e∧w=f:=pS e [y,false] b 0 2 cap w rfl (by simp) (qs c d) ⟨false,by simp,rfl⟩
def eZ(e:Int)(a:Bool):Ending:=if a=true then .returned (.tuple #[])else left e
theorem ku(i n:Int)(w:World):Calls prog 158 #[.int .i64 i,.int .i64 n] w fun d e=>d=.returned (.bool (aX i n))∧w=e:=by
 by_cases b:0≤i
 ·by_cases h2:i<n;·rw[dV b h2];go_enter func158,ntmps158;go_wp2;go_ret;exact⟨rfl,rfl⟩
  ·rw[gQ (fun a=>h2 a.2)];have c:decide (i<n)=false:=decide_eq_false h2;go_enter func158,ntmps158;go_wp2;go_ret;exact⟨by rw[←c];rfl,rfl⟩
 ·rw[gQ (fun a=>b a.1)];have c:decide (0≤i)=false:=decide_eq_false b;go_enter func158,ntmps158;go_wp2;go_ret;exact⟨rfl,rfl⟩
def nr(w:World)(v:Value)(p:List Fn):Prop:=∃b c e,v=.slice (some ⟨b,c,none⟩) p.length e∧∀a,a<p.length→∃d,w.cell? ⟨b,c+a,none⟩=some d∧bN w d (bd p a)
theorem nr.kept{w w':World}(a:J w w'){v:Value}{p:List Fn}(h:nr w v p):nr w' v p:=by obtain⟨b,j,c,d,f⟩:=h;refine⟨b,j,c,d,fun i g=>?_⟩;obtain⟨k,e,h2⟩:=f i g;exact⟨k,a.cell e,h2.kept a⟩
def fo(w:World)(v:Value)(p:List Fn)(s:St):Prop:=∃a b d c,v=.agg #[a,.int .i64 s.now,b,d,c]∧iw w a s.I∧bC w b s.out∧aK w d p∧nr w c p
theorem fo.kept{w w':World}(a:J w w'){v:Value}{p:List Fn}{s:St}(e:fo w v p s):fo w' v p s:=by obtain⟨f,g,i,h,b,c,h2,h3,d⟩:=e;exact⟨f,g,i,h,b,c.kept a,h2.kept a,h3.kept a,d.kept a⟩
def fu(n:Int)(a:Nat):Bool:=decide (n=-1)||aX n a
theorem vn(n:Int)(a:Nat):fu n a=ax n (-1) ((a:Int)-1):=by rw[Bool.eq_iff_iff,iX];simp only[fu,Bool.or_eq_true,decide_eq_true_eq,cZ];omega
theorem DY(p:List Fn)(s:St)(v:Value)(n:Int)(w:World)(e:fo w v p s):Calls prog 157 #[v,.int .i64 n] w fun b c=>b=.returned (.bool (fu n s.I.length))∧J w c:=by
 obtain⟨k,l,o,m,rfl,d,_,_,_⟩:=e;obtain⟨j,f,rfl,h,_⟩:=d;unfold fu;generalize s.I.length=i at*;by_cases a:n=-1;·subst a;go_enter func157,ntmps157;go_wp2;go_ret;exact⟨rfl,(J.refl w).alloc _⟩
 ·have g:(n==-1)=false:=by rw[beq_eq_false_iff_ne];exact a
  rw[decide_eq_false a,Bool.false_or];clear a;go_enter func157,ntmps157;go_wp2_with(go_at_call 158;refine(ku _ _ _).mono ?_;rintro b c⟨rfl,rfl⟩);go_ret;exact⟨rfl,(J.refl w).alloc _⟩
theorem nM(p:List Fn)(s:St)(v u:Value)(x:Fr)(w:World)(n:fo w v p s)(t:fU w u x)(o:iN p)(m:fE p x):Calls prog 159 #[v,u] w fun i A=>i=.returned (.int .i64 (aZ p x))∧J w A:=by
 obtain⟨a5,a6,a9,a7,rfl,j,h2,h3,k⟩:=n;obtain⟨X,E,rfl,_,_⟩:=j;obtain⟨a2,G,rfl,_,_⟩:=h2;obtain⟨a3,H,rfl,P,_⟩:=h3;obtain⟨B,W,D,rfl,d⟩:=k;obtain⟨a8,b0,rfl,_,_⟩:=t;obtain⟨I,K,a0,a1⟩:=m;obtain⟨a,e⟩:∃a:Nat,x.fn=a:=⟨x.fn.toNat,by omega⟩;obtain⟨b,l⟩:∃b:Nat,x.at_=b:=⟨x.at_.toNat,by omega⟩;have f:a<p.length:=by omega
 rw[e,Int.toNat_natCast]at a1;have q:=o a f;obtain⟨a4,g,r⟩:=d a f;obtain⟨Y,F,rfl,_,c⟩:=r;obtain⟨C,Z,rfl,h⟩:=c b _ (aD (bd p a) b 0 (by omega));unfold aZ;rw[e,l,Int.toNat_natCast,Int.toNat_natCast];generalize y:(bd p a).getD b 0=b1 at*;have O:(a:Int)<(p.length:Int):=by omega
 have N:(0:Int)≤(a:Int):=by omega
 have M:(b:Int)<((bd p a).length:Int):=by omega
 have L:(0:Int)≤(b:Int):=by omega
 generalize(bd p a).length=Q at*;generalize p.length=S at*;generalize s.I.length=T at*;generalize s.out.length=V at*;have l0:=bJ g;have z:=bJ h;simp only at l0 z;clear d c q y;go_enter func159,ntmps159;go_wp2;go_quiet(fail);go_wp2;go_ret;exact⟨rfl,(((J.refl w).alloc _).alloc _).drewN _⟩
def cE(base b:Nat)(V:Key→Value)(s:St)(a:St×Int)(w:World)(e:Ending)(w':World):Prop:=(a.2=0∧e=.returned (.tuple #[])∧∃c,aF base b V s w c a.1 w')∨(a.2≠0∧e=left a.2∧ew b V s w w')
theorem qC(base a:Nat)(V:Key→Value)(s:St)(i n e:Nat)(j:Option Addr)(w:World)(m:ag base w a V s)(L:s.now=i)(o:i<s.I.length):Calls prog 195 #[aT a (.slice j n e)] w (dN base a V s {ak s i {aa s i with caller:=-1}with now:=(aa s i).caller} (.tuple #[]) w):=by
 obtain⟨c,G,I,A⟩:=oZ m L o j n e;have u:=R A;have b:=R m;have d:=R I;clear A m;generalize x:(aa s i).caller=F at*;have D:=R x;clear x;go_enter func195,ntmps195;go_wp2_with fail;generalize t:w.alloc (.cells #[.pointer (some ⟨a,0,none⟩),.slice j n e] 170)=k;have p:J w k:=by rw[←t];exact(J.refl w).alloc _
 have lB:k.heap[w.heap.size]?=some (.cells #[.pointer (some ⟨a,0,none⟩),.slice j n e] 170):=by rw[←t];exact ah rfl
 have r:ag base k a V s:=(U b).kept p;refine((U u) k r).mono ?_;rintro f O⟨rfl,g⟩;have h:=r.kept g;have y:=p.trans g;have C:=aw g lB;have b0:O.cell? ⟨w.heap.size,0,none⟩=some (.pointer (some ⟨a,0,none⟩)):=ab C 0;obtain⟨K,H,l,_,k0,N,B,_⟩:=h.own.JL o;rw[U d]at l;obtain⟨⟨rfl⟩,-,rfl⟩:=(by simpa using l:(c=K)∧True∧G=H);rw[U D]at N;obtain⟨_,P,_,v⟩:=h.cells;have X:=B (i*2+1);have Q:=v 1;have q:=aF.Kk h F;have z:=aF.Kb q.own o (U d) (-1);have E:=R ((aF.JQ (U b) y).trans (q.trans z));have M:a≠c:=fun f=>(U b).off .I trivial (by rw[U d,f];rfl);have W:c≠a:=fun f=>M f.symm;have S:a≠w.heap.size:=by have:=lt_of_block (U b).var;omega
 have T:c≠w.heap.size:=by have:=(((U b).own.piece .I trivial).block c (by rw[U d];rfl)).2;omega
 clear t r y g h l B v p lB C k0 u q z;go_upto_region 2 with fail;go_region;go_wp2;go_end0;exact⟨rfl,V,(U E).drew⟩
theorem we(base a:Nat)(V:Key→Value)(s:St)(n v:Nat)(D:Option Addr)(z:Int)(w:World)(c:ag base w a V s)(b1:s.out.length≤30):Calls prog 178 #[aT a (.slice D n v),.int .i64 z] w (cE base a V s (cm s z) w):=by
 obtain⟨W,O,Q,S,T⟩:=uD;obtain⟨_,_,m,F⟩:=c.cells;have C:w.ownsRow base 3 1 (V .out) s.out.length (ints s.out):=c.own.piece .out trivial;have a7:=lt_of_block c.var;have a8:=c.low;obtain⟨u,o,g,_⟩:=aR C;have x:∀d,(w.alloc d).cell? ⟨a,2,none⟩=some (.slice u s.out.length o):=fun d=>by rw[←g];exact((J.refl w).alloc d).cell m
 have a0:=R c;have Y:=R g;rw[g]at m;have a9:∀(e:Int),(Instr.makeInterface 22 (.int .i64 e)).run prog w=.ok (.iface 22 (.int .i64 e)) w:=fun _=>rfl;by_cases h:s.out.length=30
 ·have k:cm s z=(St.zero,2):=by unfold cm;rw[if_pos h]
  rw[k];rw[h]at x;clear c k h C m F;go_enter func178,ntmps178;go_wp2;exact⟨rfl,Or.inr ⟨by decide,rfl,ew.JQ ((J.refl w).alloc _)⟩⟩
 ·have k:cm s z=({s with out:=s.out++[z]},0):=by unfold cm;rw[if_neg h]
  rw[k];have a6:((s.out.length:Int)==30)=false:=by rw[beq_eq_false_iff_ne];omega
  generalize f:s.out=t at*;have Z:=R f;generalize l:w.alloc (.cells #[.pointer (some ⟨a,0,none⟩),.slice D n v] 170)=b;have p:J w b:=by rw[←l];exact(J.refl w).alloc _
  have lB:b.heap[w.heap.size]?=some (.cells #[.pointer (some ⟨a,0,none⟩),.slice D n v] 170):=by rw[←l];exact ah rfl
  have A:ag base b a V s:=c.kept p;have q:J b ((b.alloc (.cells #[.int .i64 z] 3)).drew):=((J.refl b).alloc _).drew;have j:=A.kept q;have I:((b.alloc (.cells #[.int .i64 z] 3)).drew).ownsRow base 3 1 (V .out) s.out.length (ints s.out):=j.own.piece .out trivial;obtain⟨X,E,r,B,i,_,G⟩:=run_append_own_at (P:=prog) _ base 30 30 3 W (.int .i64 0) 1 8 underlying30 O Q S T rfl (by decide) _ _ _ I ⟨b.heap.size,0,none⟩ 1 1 [.int .i64 z] rfl (lq b _ _) (kb _) (by unfold maxLen;rw[f];omega) (by rw[f];omega) (by have:=p.size;simp;omega);have y:=aF.Kn j (t++[z]) X i (by rw[ke,List.length_append,←f];exact B) G;obtain⟨b2,b3,rfl,-⟩:=aR B;have H:(V .out).ownBlock≠some a:=c.off .out trivial;have a4:E.cell? ⟨a,2,none⟩=some (.slice u t.length o):=by have:=j.cells.2.2.1;rw[g]at this;exact i.cell this (fun e=>H e.symm)
  have a5:E.frozen? ⟨a,2,none⟩=false:=(World.frozen?_of_block (i.block a (by have:=p.size;simp;omega) (fun e=>H e.symm))).trans (j.cells.2.2.2 2);rw[g]at r;rw[f]at r;have L:=R r;rw[f]at y;have K:=R (((aF.JQ c p).trans (aF.JQ A q)).trans y);have b0:b.cell? ⟨w.heap.size,0,none⟩=some (.pointer (some ⟨a,0,none⟩)):=ab lB 0;have N:b.cell? ⟨a,2,none⟩=some (.slice u t.length o):=by rw[←l];exact x _
  have a3:∀d,(b.alloc d).cell? ⟨a,2,none⟩=some (.slice u t.length o):=fun d=>((J.refl b).alloc d).cell N;have a2:∀d,(b.alloc d).cell? ⟨w.heap.size,0,none⟩=some (.pointer (some ⟨a,0,none⟩)):=fun d=>((J.refl b).alloc d).cell b0;have a1:E.cell? ⟨w.heap.size,0,none⟩=some (.pointer (some ⟨a,0,none⟩)):=i.cell (q.cell b0) (fun e=>c.own.JU (.inl (Nat.le_refl _)) .out trivial e.symm);have M:=R l;clear c k h C m F x l lB A j I B i G y r q f;go_enter func178,ntmps178;go_upto_region 1 with fail;rw[U M];go_upto_region 3 with fail;go_region_law((refine IA _ (by rfl) _ _ 30 (by rfl) (by rfl) (by rfl) (U L) ?_));all_goals go_wp2
  all_goals go_end0
  all_goals exact Or.inl ⟨rfl,rfl,_,U K⟩
theorem JH(base a:Nat)(V:Key→Value)(s:St)(i n d:Nat)(e:Option Addr)(z:Int)(w:World)(t:ag base w a V s)(L:s.now=i)(u:i<s.I.length)(X:(aa s i).caller≠-1→∃f:Nat,(aa s i).caller=f∧f≠i∧aH s f):Calls prog 177 #[aT a (.slice e n d),.int .i64 z] w (cE base a V s (iL s i z) w):=by
 obtain⟨T,S,b9,a3⟩:=oZ t L u e n d;have F:=R a3;have B:=R t;have Q:=R b9;have c4:base≤w.heap.size:=by have:=t.low;have:=lt_of_block t.var;omega
 have b5:=R (fun c j(y:ag base c a j s)=>qC base a j s i n d e c y L u);generalize Y:(aa s i).caller=b8 at*;have o:=R Y;have P:=R X;clear a3 t X Y;by_cases v:b8=-1
 ·have x:iL s i z=(St.zero,7):=by unfold iL;rw[if_pos (by rw[U o];exact v)]
  rw[x];subst v;clear x;go_enter func177,ntmps177;go_wp2_with fail;generalize r:w.alloc (.cells #[.pointer (some ⟨a,0,none⟩),.slice e n d] 170)=h;have l:J w h:=by rw[←r];exact(J.refl w).alloc _
  have m:ag base h a V s:=(U B).kept l;refine((U F) h m).mono ?_;rintro H A⟨rfl,g⟩;have q:=m.kept g;obtain⟨I,G,k,_,k0,C,M,_⟩:=q.own.JL u;rw[U Q]at k;obtain⟨⟨rfl⟩,-,rfl⟩:=(by simpa using k:(T=I)∧True∧S=G);rw[U o]at C;have a4:Hid (ew a V s w A):=R (ew.JQ (l.trans g));clear r m l g q M k0 k;go_wp2;exact⟨rfl,Or.inr ⟨by decide,rfl,U a4⟩⟩
 ·obtain⟨f,Z,c1,a2⟩:=(U P) v;have x:iL s i z=(aO (dp s i) f z,0):=by unfold iL;rw[if_neg (by rw[U o];exact v),U o,Z]
  rw[x];subst Z;have c3:((f:Int)==-1)=false:=by rw[beq_eq_false_iff_ne];omega
  have b4:=R (xx c1 a2);have a9:Hid ((dp s i).now=f):=R (by show(aa s i).caller=_;rw[U o]);have b3:Hid (∀p c,ag base c a p (dp s i)→Calls prog 163 #[aT a (.slice e n d),.slice (some ⟨c.heap.size,0,none⟩) 1 1] (c.alloc (.cells #[.int .i64 z] 3)) (dN base a p (dp s i) (aO (dp s i) f z) (.tuple #[]) (c.alloc (.cells #[.int .i64 z] 3)))):=R (fun p c y=>js base a p (dp s i) f n d c.heap.size e z _ (y.alloc _) (U a9) (U b4) (ab (ah rfl) 0));have b6:Hid (∀c j,ag base c a j s→Calls prog 195 #[aT a (.slice e n d)] c (dN base a j s (dp s i) (.tuple #[]) c)):=R (fun c j y=>by have:=qC base a j s i n d e c y L u;exact this);clear x v P b5 a2;generalize c2:dp s i=c7 at*;clear c2;go_enter func177,ntmps177;go_wp2_with fail;generalize r:w.alloc (.cells #[.pointer (some ⟨a,0,none⟩),.slice e n d] 170)=h;have l:J w h:=by rw[←r];exact(J.refl w).alloc _
  have lB:h.heap[w.heap.size]?=some (.cells #[.pointer (some ⟨a,0,none⟩),.slice e n d] 170):=by rw[←r];exact ah rfl
  have m:ag base h a V s:=(U B).kept l;refine((U F) h m).mono ?_;rintro H A⟨rfl,g⟩;have q:=m.kept g;have a0:=l.trans g;have D:=aw g lB;have b0:A.cell? ⟨w.heap.size,0,none⟩=some (.pointer (some ⟨a,0,none⟩)):=ab D 0;have b1:A.cell? ⟨w.heap.size,1,none⟩=some (.slice e n d):=ab D 1;obtain⟨I,G,k,_,k0,C,M,_⟩:=q.own.JL u;rw[U Q]at k;obtain⟨⟨rfl⟩,-,rfl⟩:=(by simpa using k:(T=I)∧True∧S=G);rw[U o]at C;obtain⟨c0,W⟩:=(U B).new (b:=w.heap.size) (by omega);have a7:=R (aF.JQ (U B) a0);have b2:=R q;have a6:=R D;have a5:=R W;clear r m l g q M k0 k a0 lB D W F;go_wp2_with fail;refine((U b6) A V (U b2)).mono ?_;rintro H O⟨rfl,p,K⟩;have N:=K.JP (U a6) c0 (U a5);have c5:O.cell? ⟨w.heap.size,0,none⟩=some (.pointer (some ⟨a,0,none⟩)):=ab N 0;have c6:O.cell? ⟨w.heap.size,1,none⟩=some (.slice e n d):=ab N 1;have E:=R ((U a7).trans K);clear K N b0 b1 C;go_wp2_with fail;refine((U b3) p O (U E).own).mono ?_;rintro H c8⟨rfl,b7,a1⟩;have a8:=R ((U E).trans (a1.pre (U E).own ((J.refl _).alloc _)));clear a1;go_wp2;go_end0;exact Or.inl ⟨rfl,rfl,b7,U a8⟩
theorem cE.pre{base a:Nat}{V c:Key→Value}{s g:St}{f:St×Int}{w w1:World}{e:Ending}{w':World}(i:cE base a c g f w1 e w')(_:ag base w a V s)(d:aF base a V s w c g w1):cE base a V s f w e w':=by
 rcases i with⟨b,h2,h,h3⟩|⟨b,h2,h3⟩;·exact .inl ⟨b,h2,h,d.trans h3⟩
 ·exact .inr ⟨b,h2,d.past h3⟩
theorem Cj(base c:Nat)(V:Key→Value)(s:St)(i n f:Nat)(g:Option Addr)(z:Int)(w:World)(G:ag base w c V s)(M:s.now=i)(B:aH s i)(i7:s.out.length≤30)(e0:(aa s i).U.length=1→(aa s i).caller≠-1→∃e:Nat,(aa s i).caller=e∧e≠i∧aH s e)(e1:(aa s i).U.length≠1→aH (dropped s i) i):Calls prog 174 #[aT c (.slice g n f),.int .i64 z] w (cE base c V s (gD s i z) w):=by
 have l:=B.lt;obtain⟨u,a2,a3,e8⟩:=oZ G M l g n f;obtain⟨t,o,a6,i9,_⟩:=G.own.fr l (j:=0) B.fr;have c4:Hid (∀a,ag base a c V s→aF base c V s a (aC V (.U i) (.slice (some ⟨t,0,none⟩) ((aa s i).U.length-1) o)) (dropped s i) (a.setCell ⟨u,i*2,none⟩ (.slice (some ⟨t,0,none⟩) ((aa s i).U.length-1) o))):=R (fun a k=>aF.Ki k l a3 a6);have k4:=B.fr;have k5:=B.JM;have e5:(dp (dropped s i) i).out.length≤30:=i7;have b2:=qm l;have N:(dropped s i).now=i:=M;have e3:i<(dropped s i).I.length:=by rw[mu];exact l
 have h9:Hid (∀a d,ag base a c d (dropped s i)→Calls prog 195 #[aT c (.slice g n f)] a (dN base c d (dropped s i) (dp (dropped s i) i) (.tuple #[]) a)):=R (fun a d k=>qC base c d (dropped s i) i n f g a k N e3);have h5:Hid (∀a d,ag base a c d (dp (dropped s i) i)→Calls prog 178 #[aT c (.slice g n f),.int .i64 z] a (cE base c d (dp (dropped s i) i) (cm (dp (dropped s i) i) z) a)):=R (fun a d k=>we base c d _ n f g z a k e5);have h4:Hid ((aa s i).U.length≠1→∀a d,ag base a c d (dropped s i)→Calls prog 163 #[aT c (.slice g n f),.slice (some ⟨a.heap.size,0,none⟩) 1 1] (a.alloc (.cells #[.int .i64 z] 3)) (dN base c d (dropped s i) (aO (dropped s i) i z) (.tuple #[]) (a.alloc (.cells #[.int .i64 z] 3)))):=R (fun m a d k=>js base c d _ i n f a.heap.size g z _ (k.alloc _) N (e1 m) (ab (ah rfl) 0));have h6:Hid ((aa s i).U.length=1→∀e:Nat,(aa s i).caller=e→e≠i→aH s e→∀a d,ag base a c d (dp (dropped s i) i)→Calls prog 163 #[aT c (.slice g n f),.slice (some ⟨a.heap.size,0,none⟩) 1 1] (a.alloc (.cells #[.int .i64 z] 3)) (dN base c d (dp (dropped s i) i) (aO (dp (dropped s i) i) e z) (.tuple #[]) (a.alloc (.cells #[.int .i64 z] 3)))):=R (fun m e i6 L P a d k=>js base c d _ e n f a.heap.size g z _ (k.alloc _) (by show(aa (dropped s i) i).caller=e;rw[b2];exact i6) (xx L (P.other (mu s i) (cS _ (fun p=>L p.symm)))) (ab (ah rfl) 0));have h3:Hid ((dp (dropped s i) i).now=(aa s i).caller):=R (by show(aa (dropped s i) i).caller=_;rw[b2]);have T:Hid (((aa s i).U.length=1→(aa s i).caller=-1→gD s i z=cm (dp (dropped s i) i) z)∧(∀e:Nat,(aa s i).U.length=1→(aa s i).caller=e→gD s i z=(aO (dp (dropped s i) i) e z,0))∧((aa s i).U.length≠1→gD s i z=(aO (dropped s i) i z,0))):=R ⟨fun v h2=>by unfold gD;rw[if_pos v,if_pos h2],fun e v h2=>by unfold gD;rw[if_pos v,if_neg (by omega),h2],fun v=>by unfold gD;rw[if_neg v]⟩;have g8:=R e0;generalize e7:(aa s i).U.length=g4 at*;have j8:=R e7;obtain⟨h,rfl⟩:∃h,g4=h+1:=⟨g4-1,by omega⟩;have k8:IntKind.i64.wrap ((h:Int)+1-1)=(h:Int):=by rw[IntKind.wrap_i64];omega
 have b6:IntKind.i64.wrap (h:Int)=(h:Int):=by rw[IntKind.wrap_i64];omega
 have k6:(0:Int)≤(h:Int):=by omega
 have k7:(h:Int)≤(o:Int):=by omega
 have c5:=R e8;have D:=R G;have c1:=R a3;have g9:=R a6;have h1:Hid ((dropped s i).now=i):=R N;generalize e2:(aa s i).caller=i0 at*;generalize i5:gD s i z=j9 at*;have j6:=R e2;have j7:=R M;generalize e9:dropped s i=g5 at*;generalize j0:dp g5 i=l1 at*;rw[Nat.add_sub_cancel]at c4;generalize a8:aC V (.U i) (.slice (some ⟨t,0,none⟩) h o)=F at*;have c8:F .I=.slice (some ⟨u,0,none⟩) s.I.length a2:=by rw[←a8,aB V _ (by simp)];exact U c1
 have c9:F (.U i)=.slice (some ⟨t,0,none⟩) h o:=by rw[←a8,cj]
 have h7:=R c8;have h8:=R c9;have c2:Hid (g5.I.length=s.I.length):=by rw[←e9];exact R (mu s i)
 clear e8 G a3 a6 e7 e2 M N i5 e9 j0 a8 c8 c9 b2 e0 e1 B e5 e3 i9;go_enter func174,ntmps174;go_wp2_with fail;generalize b7:w.alloc (.cells #[.pointer (some ⟨c,0,none⟩),.slice g n f] 170)=S;have b3:J w S:=by rw[←b7];exact(J.refl w).alloc _
 have lB:S.heap[w.heap.size]?=some (.cells #[.pointer (some ⟨c,0,none⟩),.slice g n f] 170):=by rw[←b7];exact ah rfl
 have b5:ag base S c V s:=(U D).kept b3;refine((U c5) S b5).mono ?_;rintro p g6⟨rfl,H⟩;have b4:=b5.kept H;have e4:=b3.trans H;have b8:=aw H lB;obtain⟨i3,i1,a4,_,k0,j2,g1,_⟩:=b4.own.JL l;rw[U c1]at a4;obtain⟨⟨rfl⟩,-,rfl⟩:=(by simpa using a4:(u=i3)∧True∧a2=i1);rw[U g9]at k0;have j3:=g1 (i*2);obtain⟨c7,a7⟩:=(U D).new (b:=w.heap.size) (by omega);have K:=(U c4) g6 b4;have g2:=K.JP b8 c7 a7;have c0:=R (K.off _ (Array.getElem?_eq_some_iff.1 b8).1 a7);have W:=R (((aF.JQ (U D) e4).trans K).drew);have h0:=R g2;clear b7 b5 b3 H b4 g1 j2 a4 e4 lB b8 a7 c5 K g2;go_upto_region 2 with fail;go_region;go_upto_region 3 with fail;generalize b6:(g6.setCell ⟨u,i*2,none⟩ (.slice (some ⟨t,0,none⟩) h o)).drew=C at*;have O:=(U W).own;obtain⟨i4,i2,a5,_,g0,j1,_,_⟩:=O.own.JL (i:=i) (by rw[U c2];exact l);rw[U h7,U c2]at a5;obtain⟨⟨rfl⟩,-,rfl⟩:=(by simpa using a5:(u=i4)∧True∧a2=i2);rw[U h8]at g0;obtain⟨_,g3,_,_⟩:=O.cells;rw[U h1]at g3;have E:C.heap[w.heap.size]?=some (.cells #[.pointer (some ⟨c,0,none⟩),.slice g n f] 170):=by rw[←b6];exact aW (U h0)
 have b0:C.cell? ⟨w.heap.size,0,none⟩=some (.pointer (some ⟨c,0,none⟩)):=ab E 0;have b1:C.cell? ⟨w.heap.size,1,none⟩=some (.slice g n f):=ab E 1;have c3:=R E;have Y:=R O;clear b6 O a5 E k0 j3 j1;by_cases i8:h=0
 ·subst i8;clear g3;have m:0+1=1:=rfl;go_wp2_with fail;refine((U h9) C F (U Y)).mono ?_;rintro p Q⟨rfl,c6,x⟩;have b9:=x.JP (U c3) c7 (U c0);have j5:=R (x.off _ (Array.getElem?_eq_some_iff.1 (U c3)).1 (U c0));have k9:Q.cell? ⟨w.heap.size,0,none⟩=some (.pointer (some ⟨c,0,none⟩)):=ab b9 0;have l0:Q.cell? ⟨w.heap.size,1,none⟩=some (.slice g n f):=ab b9 1;obtain⟨_,j4,_,_⟩:=x.own.cells;rw[U h3]at j4;have q:=R ((U W).trans x);clear x b9 b0 b1 g0;by_cases I:i0=-1
  ·have r:=R ((U T).1 m I);subst I;go_wp2_with fail;refine((U h5) Q c6 (U q).own).mono ?_;intro p g7 e6;have A:=e6.pre (U D) (U q);rw[←U r]at A;rcases e6 with⟨_,rfl,_⟩|⟨_,rfl,_⟩;·have Z:=R A;clear A;go_wp2;go_end0;exact U Z
   ·have Z:=R A;clear A;dsimp only[left];go_wp2;exact⟨rfl,U Z⟩
  ·obtain⟨e,a9,L,P⟩:=(U g8) m I;have r:=R ((U T).2.1 e m a9);have k2:((e:Int)==-1)=false:=by rw[beq_eq_false_iff_ne];omega
   have a0:=R ((U h6) m e a9 L P);subst a9;clear P I;go_wp2_with fail;refine((U a0) Q c6 (U q).own).mono ?_;rintro p g7⟨rfl,a1,y⟩;have X:=R ((U q).trans (y.pre (U q).own ((J.refl _).alloc _)));clear y;go_wp2;go_end0;rw[U r];exact Or.inl ⟨rfl,rfl,a1,U X⟩
 ·have k1:((h:Int)==0)=false:=by rw[beq_eq_false_iff_ne];omega
  have k3:((i:Int)==-1)=false:=by rw[beq_eq_false_iff_ne];omega
  have r:=R ((U T).2.2 (by omega));have a0:=R ((U h4) (by omega));go_wp2_with fail;refine((U a0) C F (U Y)).mono ?_;rintro p g7⟨rfl,a1,y⟩;have X:=R ((U W).trans (y.pre (U Y) ((J.refl _).alloc _)));clear y;go_wp2;go_end0;rw[U r];exact Or.inl ⟨rfl,rfl,a1,U X⟩
theorem qL:(prog.info? 92).map (fun a=>(a.zero,a.size,a.bytes))=some (some (.agg #[.int .i64 0,.int .i64 0,.slice none 0 0,.slice none 0 0]),4,64):=by kernel_rfl
theorem qK:(prog.info? 95).map (fun a=>(a.zero,a.size,a.bytes))=some (some (.agg #[.slice none 0 0,.int .i64 0]),2,32):=by kernel_rfl
theorem sS(B j:Nat):(⟨B,0,none⟩:Addr).add j=⟨B,j,none⟩:=by unfold Addr.add;split<;>simp_all
theorem wN{w:World}{base B:Nat}{l:List Int}(b:base≤B)(a:w.heap[B]?=some (.cells (ints l).toArray 3))(c:l.length≤1000):w.ownsRow base 3 1 (.slice (some ⟨B,0,none⟩) l.length l.length) l.length (ints l):=⟨by simp[ij],.inr ⟨B,l.length,(ints l).toArray,rfl,b,a,Nat.le_refl _,by unfold maxLen;omega,by simp[ij],List.take_of_length_le (by simp[ij])⟩⟩
theorem uo{base l:Nat}{V:Key→Value}{s:St}{u:World}(g:ag base u l V s){i gF capF BL B:Nat}(m:i<s.I.length)(F:V .I=.slice (some ⟨gF,0,none⟩) s.I.length capF)(b5:(aa s i).U.length≤1000)(f:Fr)(a6:f.stack=[])(a2:f.locals.length≤1000)(E:u.heap[BL]?=some (.cells (ints f.locals).toArray 3))(K:Own.off V s BL)(a4:base≤BL)(W:l≠BL)(O:u.heap[B]?=some (.cells #[.int .i64 f.fn,.int .i64 f.at_,.slice (some ⟨BL,0,none⟩) f.locals.length f.locals.length,.slice none 0 0] 92)):∃k o C,(Builtin.append_ #[93,93] 93 #[V (.U i),.slice (some ⟨B,0,none⟩) 1 1]).run prog u=.ok k o∧(∃A v,k=.slice A ((aa s i).U.length+1) v)∧ag base (o.setCell ⟨gF,i*2,none⟩ k) l C (ak s i {aa s i with U:=(aa s i).U++[f]})∧u.grownBy o (V (.U i)).ownBlock∧∀b d,live (ak s i {aa s i with U:=(aa s i).U++[f]}) b→(C b).ownBlock=some d→(∃j,live s j∧(V j).ownBlock=some d)∨d=BL∨d=u.heap.size:=by
 obtain⟨b1,Z,a8,a9,b0⟩:=info_parts qL;have X:l<u.heap.size:=lt_of_block g.var;have b4:base≤u.heap.size:=by have:=g.low;omega
 have I:BL<u.heap.size:=(Array.getElem?_eq_some_iff.1 E).1;obtain⟨b3,M,_⟩:=g.own.piece (.U i) m;obtain⟨k,o,a5,L,t,_,G⟩:=run_append_own_at (P:=prog) u base 93 93 92 b1 _ 4 64 underlying93 Z a8 a9 b0 rfl (by decide) _ _ b3 M ⟨B,0,none⟩ 1 1 [.int .i64 f.fn,.int .i64 f.at_,.slice (some ⟨BL,0,none⟩) f.locals.length f.locals.length,.slice none 0 0] rfl (fun b6 b2 a0=>by rw[sS,ab O];simpa using a0) (by intro b2 N;simp only[List.mem_cons,List.not_mem_nil,or_false]at N;rcases N with rfl|rfl|rfl|rfl<;>rfl) (by unfold maxLen;omega) (by omega) (by omega);have Q:(V .I).ownBlock=some gF:=by rw[F];rfl
 have a3:o.ownsRow base 3 1 (.slice (some ⟨BL,0,none⟩) f.locals.length f.locals.length) f.locals.length (ints f.locals):=wN a4 ((t.block BL I (fun a=>K (.U i) m a.symm)).trans E) a2;have S:=g.own.KH m F f (.slice (some ⟨BL,0,none⟩) f.locals.length f.locals.length) k a6 (gl:=BL) (.inr rfl) K I a3 (fun d T z=>t.block d T (fun a=>z a.symm)) (fun b7 a7=>by rw[rO a7 M];exact L) G;have H:∀b d,live (ak s i {aa s i with U:=(aa s i).U++[f]}) b→(aC (aC (aC V (.U i) k) (.locals i (aa s i).U.length) (.slice (some ⟨BL,0,none⟩) f.locals.length f.locals.length)) (.stack i (aa s i).U.length) (.slice none 0 0) b).ownBlock=some d→(∃j,live s j∧(V j).ownBlock=some d)∨d=BL∨d=u.heap.size:=by
  intro b d e a;by_cases w:b=.stack i (aa s i).U.length;·rw[w,cj]at a;cases a
  rw[aB _ _ w]at a;by_cases x:b=.locals i (aa s i).U.length;·rw[x,cj]at a;exact .inr (.inl (Option.some.inj a).symm)
  rw[aB _ _ x]at a;by_cases D:b=.U i
  ·rw[D,cj]at a;rcases G with q|q;·rw[q]at a;exact .inl ⟨.U i,m,a⟩
   ·rw[q]at a;exact .inr (.inr (Option.some.inj a).symm)
  rw[aB _ _ D]at a;refine .inl ⟨b,?_,a⟩;have y:=bj s i {aa s i with U:=(aa s i).U++[f]};have Y:aa (ak s i {aa s i with U:=(aa s i).U++[f]}) i={aa s i with U:=(aa s i).U++[f]}:=bV _ m;have n:∀c h,h≠(aa s i).U.length∨c≠i→c<s.I.length→h<(aa (ak s i {aa s i with U:=(aa s i).U++[f]}) c).U.length→h<(aa s c).U.length:=fun c h z _ n=>by
   by_cases a:i=c;·subst a;rw[Y]at n;simp only[List.length_append,List.length_cons,List.length_nil]at n;rcases z with q|q<;>omega
   ·rwa[cS _ a]at n
  cases b using Key.by with
  |fibers=>trivial
  |out=>trivial
  |frames c=>simpa only[live,y]using e
  |locals c h=>
   simp only[live,y]at e;refine⟨e.1,n c h ?_ e.1 e.2⟩;by_cases p:c=i;·subst p;exact .inl fun a=>x (by rw[a])
   ·exact .inr p
  |stack c h=>
   simp only[live,y]at e;refine⟨e.1,n c h ?_ e.1 e.2⟩;by_cases p:c=i;·subst p;exact .inl fun a=>w (by rw[a])
   ·exact .inr p
 refine⟨k,o,_,a5,?_,g.JO S ?_ ?_ ?_ rfl ?_,t,H⟩;·obtain⟨A,v,a,_⟩:=aR L;exact⟨A,v,a⟩
 ·rw[Below.heap_setCell _ _ _ _ (fun a=>g.off .I trivial (by rw[Q,a]))];exact t.block l X (fun a=>g.off (.U i) m a.symm)
 ·rw[aB _ _ (by simp),aB _ _ (by simp),aB _ _ (by simp)]
 ·rw[aB _ _ (by simp),aB _ _ (by simp),aB _ _ (by simp)]
 ·intro b e a;rcases H b l e a with⟨j,a1,r⟩|r|r;·exact g.off j a1 r
  ·exact W r
  ·omega
theorem tS{base j:Nat}{V:Key→Value}{s:St}{u:World}(m:ag base u j V s){BL e B:Nat}(c4:s.I.length≤1000)(f:Fr)(c:Int)(b4:f.stack=[])(a8:f.locals.length≤1000)(F:u.heap[BL]?=some (.cells (ints f.locals).toArray 3))(L:Own.off V s BL)(b0:base≤BL)(a0:j≠BL)(E:u.heap[e]?=some (.cells #[.int .i64 f.fn,.int .i64 f.at_,.slice (some ⟨BL,0,none⟩) f.locals.length f.locals.length,.slice none 0 0] 92))(N:Own.off V s e)(b1:base≤e)(Z:j≠e)(y:BL≠e)(W:u.heap[B]?=some (.cells #[.slice (some ⟨e,0,none⟩) 1 1,.int .i64 c] 95)):∃k n A,(Builtin.append_ #[42,42] 42 #[V .I,.slice (some ⟨B,0,none⟩) 1 1]).run prog u=.ok k n∧(∃z i,k=.slice z (s.I.length+1) i)∧ag base (n.setCell ⟨j,0,none⟩ k) j A {s with I:=s.I++[⟨[f],c⟩]}∧u.grownBy n (V .I).ownBlock∧∀h g,live {s with I:=s.I++[⟨[f],c⟩]} h→(A h).ownBlock=some g→(∃q,live s q∧(V q).ownBlock=some g)∨g=BL∨g=e∨g=u.heap.size:=by
 obtain⟨c0,a5,b7,b8,b9⟩:=info_parts qK;have a1:j<u.heap.size:=lt_of_block m.var;have c3:base≤u.heap.size:=by have:=m.low;omega
 have I:BL<u.heap.size:=(Array.getElem?_eq_some_iff.1 F).1;have K:e<u.heap.size:=(Array.getElem?_eq_some_iff.1 E).1;obtain⟨c2,Q,_⟩:=m.own.piece .I trivial;obtain⟨k,n,b3,O,t,_,G⟩:=run_append_own_at (P:=prog) u base 42 42 95 c0 _ 2 32 underlying42 a5 b7 b8 b9 rfl (by decide) _ _ c2 Q ⟨B,0,none⟩ 1 1 [.slice (some ⟨e,0,none⟩) 1 1,.int .i64 c] rfl (fun c5 c1 a6=>by rw[sS,ab W];simpa using a6) (by intro c1 T;simp only[List.mem_cons,List.not_mem_nil,or_false]at T;rcases T with rfl|rfl<;>rfl) (by unfold maxLen;omega) (by omega) (by omega);have a9:n.ownsRow base 3 1 (.slice (some ⟨BL,0,none⟩) f.locals.length f.locals.length) f.locals.length (ints f.locals):=wN b0 ((t.block BL I (fun b=>L .I trivial b.symm)).trans F) a8;have a4:n.ownsRow base 92 4 (.slice (some ⟨e,0,none⟩) 1 1) 1 [.int .i64 f.fn,.int .i64 f.at_,.slice (some ⟨BL,0,none⟩) f.locals.length f.locals.length,.slice none 0 0]:=⟨rfl,.inr ⟨e,1,#[.int .i64 f.fn,.int .i64 f.at_,.slice (some ⟨BL,0,none⟩) f.locals.length f.locals.length,.slice none 0 0],rfl,b1,(t.block e K (fun b=>N .I trivial b.symm)).trans E,by omega,by decide,rfl,rfl⟩⟩;have X:=m.own.KE f c (.slice (some ⟨BL,0,none⟩) f.locals.length f.locals.length) (.slice (some ⟨e,0,none⟩) 1 1) k b4 (gl:=BL) (gf:=e) (.inr rfl) rfl y L N I K a9 a4 (fun g Y y=>t.block g Y (fun b=>y b.symm)) (fun c6 b6=>by rw[rO b6 Q];exact O) G;have H:∀h g,live {s with I:=s.I++[⟨[f],c⟩]} h→(aC (aC (aC (aC V .I k) (.U s.I.length) (.slice (some ⟨e,0,none⟩) 1 1)) (.locals s.I.length 0) (.slice (some ⟨BL,0,none⟩) f.locals.length f.locals.length)) (.stack s.I.length 0) (.slice none 0 0) h).ownBlock=some g→(∃q,live s q∧(V q).ownBlock=some g)∨g=BL∨g=e∨g=u.heap.size:=by
  intro h g l b;by_cases v:h=.stack s.I.length 0;·rw[v,cj]at b;cases b
  rw[aB _ _ v]at b;by_cases w:h=.locals s.I.length 0;·rw[w,cj]at b;exact .inr (.inl (Option.some.inj b).symm)
  rw[aB _ _ w]at b;by_cases x:h=.U s.I.length;·rw[x,cj]at b;exact .inr (.inr (.inl (Option.some.inj b).symm))
  rw[aB _ _ x]at b;by_cases C:h=.I
  ·rw[C,cj]at b;rcases G with o|o;·rw[o]at b;exact .inl ⟨.I,trivial,b⟩
   ·rw[o]at b;exact .inr (.inr (.inr (Option.some.inj b).symm))
  rw[aB _ _ C]at b;refine .inl ⟨h,?_,b⟩;have a3:∀d,d<s.I.length→aa {s with I:=s.I++[⟨[f],c⟩]} d=aa s d:=fun d S=>kX _ _ _ _ S;have a2:aa {s with I:=s.I++[⟨[f],c⟩]} s.I.length=⟨[f],c⟩:=mF _ _ _;have p:∀d i,¬(d=s.I.length∧i=0)→d<s.I.length+1→i<(aa {s with I:=s.I++[⟨[f],c⟩]} d).U.length→d<s.I.length∧i<(aa s d).U.length:=fun d i b2 S p=>by
   by_cases D:d=s.I.length;·rw[D,a2]at p;simp only[List.length_cons,List.length_nil]at p;exact absurd ⟨D,by omega⟩ b2
   ·rw[a3 d (by omega)]at p;exact⟨by omega,p⟩
  cases h using Key.by with
  |fibers=>trivial
  |out=>trivial
  |frames d=>simp only[live,List.length_append,List.length_cons,List.length_nil]at l⊢;have:d≠s.I.length:=fun b=>x (by rw[b]);omega
  |locals d i=>simp only[live,List.length_append,List.length_cons,List.length_nil]at l⊢;exact p d i (fun⟨o,h2⟩=>w (by rw[o,h2])) l.1 l.2
  |stack d i=>simp only[live,List.length_append,List.length_cons,List.length_nil]at l⊢;exact p d i (fun⟨o,h2⟩=>v (by rw[o,h2])) l.1 l.2
 have M:Own.off (aC (aC (aC (aC V .I k) (.U s.I.length) (.slice (some ⟨e,0,none⟩) 1 1)) (.locals s.I.length 0) (.slice (some ⟨BL,0,none⟩) f.locals.length f.locals.length)) (.stack s.I.length 0) (.slice none 0 0)) {s with I:=s.I++[⟨[f],c⟩]} j:=by
  intro h l b;rcases H h j l b with⟨q,a7,r⟩|r|r|r;·exact m.off q a7 r
  ·exact a0 r
  ·exact Z r
  ·omega
 have b5:n.heap[j]?=some (.cells #[V .I,.int .i64 s.now,V .out] 44):=(t.block j a1 (fun b=>m.off .I trivial b.symm)).trans m.var;refine⟨k,n,_,b3,?_,⟨?_,X.JW (a:=⟨j,0,none⟩) M k,M,m.low⟩,t,H⟩;·obtain⟨z,i,b,_⟩:=aR O;exact⟨z,i,b⟩
 ·rw[ay b5 0 k,aB _ _ (by simp),aB _ _ (by simp),aB _ _ (by simp),cj,aB _ _ (by simp),aB _ _ (by simp),aB _ _ (by simp),aB _ _ (by simp)];rfl
theorem aF.La{base m:Nat}{V l:Key→Value}{s n:St}{o u w2:World}(a:J o u){K:Key}(r:live s K)(f:u.grownBy w2 (V K).ownBlock){g i:Nat}{v:Value}(q:ag base (w2.setCell ⟨g,i,none⟩ v) m l n)(e:g=m∨∃c,live s c∧(V c).ownBlock=some g)(x:∀c b,live n c→(l c).ownBlock=some b→b<o.heap.size→∃k,live s k∧(V k).ownBlock=some b):aF base m V s o l n (w2.setCell ⟨g,i,none⟩ v):=by
 refine⟨q,f.os.trans a.os,f.tape.trans a.tape,f.output.trans a.output,Nat.le_trans a.size (by simpa[World.setCell]using f.size),fun b h w j=>?_,fun b h j c a d=>?_⟩
 ·rw[Below.heap_setCell _ _ _ _ (fun d=>?_)];·exact(f.block b (Nat.lt_of_lt_of_le h a.size) (fun d=>j K r d.symm)).trans (a.block b h)
  ·have d:b=g:=d;rcases e with e|⟨c,a,e⟩;·exact w (d.trans e)
   ·exact j c a (by rw[e,d])
 ·obtain⟨k,t,p⟩:=x c b a d h;exact j k t p
theorem yy{base u:Nat}{V:Key→Value}{s:St}{w c:World}(d:ag base w u V s)(O:J w c){i gF capF g q cap BL:Nat}(h:i<s.I.length)(r:V .I=.slice (some ⟨gF,0,none⟩) s.I.length capF)(y:V (.U i)=.slice (some ⟨g,0,none⟩) q cap)(B:(aa s i).U.length=q)(a2:q≤1000)(f:Fr)(W:f.stack=[])(Q:f.locals.length≤1000)(H:c.heap[BL]?=some (.cells (ints f.locals).toArray 3))(G:w.heap.size≤BL):∃m k b n,(Builtin.append_ #[93,93] 93 #[.slice (some ⟨g,0,none⟩) q cap,.slice (some ⟨c.heap.size,0,none⟩) 1 1]).run prog (c.alloc (.cells #[.int .i64 f.fn,.int .i64 f.at_,.slice (some ⟨BL,0,none⟩) f.locals.length f.locals.length,.slice none 0 0] 92))=.ok (.slice m (q+1) k) b∧b.cell? ⟨gF,i*2,none⟩=some (.slice (some ⟨g,0,none⟩) q cap)∧b.frozen? ⟨gF,i*2,none⟩=false∧(∀{p:Addr}{x:Value},c.cell? p=some x→(V (.U i)).ownBlock≠some p.block→b.cell? p=some x)∧Below base w b∧aF base u V s w n (ak s i {aa s i with U:=(aa s i).U++[f]}) (b.setCell ⟨gF,i*2,none⟩ (.slice m (q+1) k)):=by
 have j:J w (c.alloc (.cells #[.int .i64 f.fn,.int .i64 f.at_,.slice (some ⟨BL,0,none⟩) f.locals.length f.locals.length,.slice none 0 0] 92)):=O.alloc _;have l:=d.kept j;obtain⟨L,M⟩:=d.new G;have a3:=d.low;have a1:=lt_of_block d.var;obtain⟨a4,b,n,C,⟨m,k,rfl⟩,A,e,I⟩:=uo l h r (by omega) f W Q (au H _) M (by omega) (fun a=>L a.symm) (ah rfl);have t:(V .I).ownBlock=some gF:=by rw[r];rfl
 have z:(V (.U i)).ownBlock≠some gF:=fun a=>by have:=d.own.apart (.U i) .I gF h trivial a t;cases this
 obtain⟨F,E,v,_,k0,_,Y,_⟩:=l.own.JL h;rw[r]at v;obtain⟨⟨rfl⟩,-,rfl⟩:=(by simpa using v:(gF=F)∧True∧capF=E);rw[y,B]at C;rw[B]at A;refine⟨m,k,b,n,C,?_,?_,fun{p x}N S=>e.cell (((J.refl c).alloc _).cell N) (fun a=>S a.symm),Below.grown (d.below j) e (by have:=j.size;omega) (fun Z T=>((l.own.piece (.U i) h).block Z T).1),?_⟩;·have:=e.cell k0 (fun a=>z a.symm);rw[y]at this;exact this
 ·exact(World.frozen?_of_block (e.block gF (((l.own.piece .I trivial).block gF t).2) (fun a=>z a.symm))).trans (Y _)
 ·refine .La j (K:=.U i) h e A (.inr ⟨.I,trivial,t⟩) (fun X D P a a0=>?_);rcases I X D P a with o|o|o;·exact o
  ·omega
  ·have:=j.size;omega
theorem yx(base d:Nat)(V:Key→Value)(s:St)(i n o h k f a lo:Nat)(w:World)(P:ag base w d V s)(e5:s.now=i)(a2:aH s i)(j5:(aa s i).U.length≤6)(i2:f<n)(i4:lo≤1000)(j6:a≤lo)(h8:a≤(ae s i ((aa s i).U.length-1)).stack.length)(e7:∀c,Below base w c→c.cell? ⟨h,k+f*3,none⟩=some (.int .i64 a)∧c.cell? ⟨h,k+f*3+1,none⟩=some (.int .i64 lo)):Calls prog 173 #[aT d (.slice (some ⟨h,k,none⟩) n o),.int .i64 f] w (cE base d V s (jS s i f a lo) w):=by
 have I:=a2.lt;obtain⟨r,T,c8,a7⟩:=oZ P e5 I (some ⟨h,k,none⟩) n o;obtain⟨E,D,X,k2,_⟩:=P.own.fr I (j:=0) a2.fr;have b2:=R a7;have C:=R P;have a5:=R c8;have a9:=R X;have a6:=R e7;have j8:(0:Int)≤(f:Int):=by omega
 have j9:(f:Int)<(n:Int):=by omega
 clear a7 P e7;by_cases c1:(aa s i).U.length=6
 ·have a0:jS s i f a lo=(St.zero,2):=by unfold jS;rw[if_pos c1]
  rw[a0];rw[c1]at X;have g5:=R X;clear a0 X;go_enter func173,ntmps173;go_wp2_with fail;generalize Q:w.alloc (.cells #[.pointer (some ⟨d,0,none⟩),.slice (some ⟨h,k,none⟩) n o] 170)=H;have K:J w H:=by rw[←Q];exact(J.refl w).alloc _
  have M:ag base H d V s:=(U C).kept K;refine((U b2) H M).mono ?_;rintro O a4⟨rfl,F⟩;have a1:=M.kept F;obtain⟨Z,W,x,_,k0,i9,j0,_⟩:=a1.own.JL I;rw[U a5]at x;obtain⟨⟨rfl⟩,-,rfl⟩:=(by simpa using x:(r=Z)∧True∧T=W);rw[U g5]at k0;have g2:Hid (ew d V s w a4):=R (ew.JQ (K.trans F));clear Q M K F a1 j0 i9 x;go_wp2;exact⟨rfl,Or.inr ⟨by decide,rfl,U g2⟩⟩
 ·have j7:(((aa s i).U.length:Int)==6)=false:=by rw[beq_eq_false_iff_ne];omega
  have a0:jS s i f a lo=(ak (bY s i a) i {aa (bY s i a) i with U:=(aa (bY s i a) i).U++[dh f lo ((ae s i ((aa s i).U.length-1)).stack.drop ((ae s i ((aa s i).U.length-1)).stack.length-a))]},0):=by unfold jS;rw[if_neg c1]
  rw[a0];obtain⟨Y,h0,h1,c9,h2,h3⟩:=pj a2 a;have c3:((ae s i ((aa s i).U.length-1)).stack.drop ((ae s i ((aa s i).U.length-1)).stack.length-a)).length=a:=by rw[List.length_drop];omega
  have g9:Hid (∀c N,ag base c d N s→Calls prog 192 #[aT d (.slice (some ⟨h,k,none⟩) n o),.int .i64 a] c (fun O c5=>∃v q e,O=.returned (.slice v a q)∧bC c5 (.slice v a q) ((ae s i ((aa s i).U.length-1)).stack.drop ((ae s i ((aa s i).U.length-1)).stack.length-a))∧aF base d N s c e (bY s i a) c5∧e (.U i)=N (.U i)∧e .I=N .I)):=R (fun c N a3=>(xg base d N s i a n o (some ⟨h,k,none⟩) c a3 e5 a2 h8).mono (by rintro O c5⟨g0,e,rfl,c2,i5,e1⟩;obtain⟨v,q,rfl,b9,i0⟩:=c2;refine⟨v,q,e,by rw[c3],⟨v,q,by rw[c3],b9,i0⟩,i5,e1 _ (by simp),e1 _ (by simp)⟩));generalize(ae s i ((aa s i).U.length-1)).stack.drop ((ae s i ((aa s i).U.length-1)).stack.length-a)=A at*;generalize i7:bY s i a=z at*;generalize k1:(aa s i).U.length=y at*;have e3:(dh f lo A).locals.length=lo:=by unfold dh;simp[c3];omega
  have g3:Hid (∀c v q,Below base w c→bC c (.slice v a q) A→Calls prog 194 #[aT d (.slice (some ⟨h,k,none⟩) n o),.int .i64 f,.slice v a q] c (pB f lo (dh f lo A).locals c)):=R (fun c v q b9 c2=>sX d f lo n o h k _ A c i2 i4 c2 (by omega) ((U a6) c b9).2);have g4:Hid (∀l e G B,ag base l d e z→J l G→e .I=V .I→e (.U i)=V (.U i)→G.heap[B]?=some (.cells (ints (dh f lo A).locals).toArray 3)→l.heap.size≤B→∃e9 c7 p b3,(Builtin.append_ #[93,93] 93 #[.slice (some ⟨E,0,none⟩) y D,.slice (some ⟨G.heap.size,0,none⟩) 1 1]).run prog (G.alloc (.cells #[.int .i64 f,.int .i64 0,.slice (some ⟨B,0,none⟩) lo lo,.slice none 0 0] 92))=.ok (.slice e9 (y+1) c7) p∧p.cell? ⟨r,i*2,none⟩=some (.slice (some ⟨E,0,none⟩) y D)∧p.frozen? ⟨r,i*2,none⟩=false∧(∀{c4:Addr}{g1:Value},G.cell? c4=some g1→(e (.U i)).ownBlock≠some c4.block→p.cell? c4=some g1)∧Below base l p∧aF base d e z l b3 (ak z i {aa z i with U:=(aa z i).U++[dh f lo A]}) (p.setCell ⟨r,i*2,none⟩ (.slice e9 (y+1) c7))):=R (fun l e G B a3 i3 b6 b7 b4 h4=>by have:=yy a3 i3 (i:=i) (gF:=r) (capF:=T) (g:=E) (q:=y) (cap:=D) (BL:=B) (by rw[Y];exact I) (by rw[b6,Y];exact U a5) (by rw[b7];exact U a9) c9 (by omega) (dh f lo A) rfl (by omega) b4 h4;rw[e3]at this;exact this);have g8:Hid (∀(l:World)(e:Key→Value),ag base l d e z→e .I=V .I→e (.U i)=V (.U i)→l.cell? ⟨r,i*2,none⟩=some (.slice (some ⟨E,0,none⟩) y D)):=R (fun l e a3 b6 b7=>by obtain⟨Z,W,x,_,k0,_⟩:=a3.own.JL (i:=i) (by rw[Y];exact I);rw[b6,Y,U a5]at x;obtain⟨⟨rfl⟩,-,rfl⟩:=(by simpa using x:(r=Z)∧True∧T=W);rw[b7,U a9]at k0;exact k0);generalize ak z i {aa z i with U:=(aa z i).U++[dh f lo A]}=k6 at*;generalize(dh f lo A).locals=j3 at*;clear a0 Y h0 h1 c9 h2 h3 i7 e3 a2 X c8;go_enter func173,ntmps173;go_wp2_with fail;generalize Q:w.alloc (.cells #[.pointer (some ⟨d,0,none⟩),.slice (some ⟨h,k,none⟩) n o] 170)=H;have K:J w H:=by rw[←Q];exact(J.refl w).alloc _
  have lB:H.heap[w.heap.size]?=some (.cells #[.pointer (some ⟨d,0,none⟩),.slice (some ⟨h,k,none⟩) n o] 170):=by rw[←Q];exact ah rfl
  have M:ag base H d V s:=(U C).kept K;refine((U b2) H M).mono ?_;rintro O a4⟨rfl,F⟩;have a1:=M.kept F;have c0:=K.trans F;have a8:=aw F lB;have b0:a4.cell? ⟨w.heap.size,0,none⟩=some (.pointer (some ⟨d,0,none⟩)):=ab a8 0;have b1:a4.cell? ⟨w.heap.size,1,none⟩=some (.slice (some ⟨h,k,none⟩) n o):=ab a8 1;obtain⟨Z,W,x,_,k0,_,_,_⟩:=a1.own.JL I;rw[U a5]at x;obtain⟨⟨rfl⟩,-,rfl⟩:=(by simpa using x:(r=Z)∧True∧T=W);rw[U a9]at k0;obtain⟨h5,e0⟩:=(U C).new (b:=w.heap.size) (by omega);obtain⟨j2,k5⟩:=(U a6) a4 ((U C).below c0);have S:=R ((aF.JQ (U C) c0).drew);have g6:=R (aW a8);have c6:=R e0;clear Q M K F a1 x c0 lB a8 e0 b2;go_upto_region 4 with fail;refine eW 20 [0,1,2,3,4,5,6,7,8,9,10,11,12,13] (fun c=>c.cell? ⟨r,i*2,none⟩=some (.slice (some ⟨E,0,none⟩) y D)∧c.cell? ⟨w.heap.size,0,none⟩=some (.pointer (some ⟨d,0,none⟩))∧c.cell? ⟨w.heap.size,1,none⟩=some (.slice (some ⟨h,k,none⟩) n o)∧c.cell? ⟨h,k+f*3,none⟩=some (.int .i64 a)) (by kernel_rfl) ?_;have h6:=And.intro k0 (And.intro b0 (And.intro b1 j2));repeat
   refine cN (v:=?_) h6 (fun c h7=>?_) ?_;rotate_left;·((try dsimp only at h7);go_simp)<;>with_reducible rfl
   simp only[PS]
  refine dc ?_;refine az (i:=14) rfl (by kernel_rfl) (fun m g=>?_);go_simp;refine((U g9) _ V (U S).own).mono ?_;rintro O l⟨v,q,e,rfl,i8,L,b8,e2⟩;have e8:=L.JP (U g6) h5 (U c6);have t:=And.intro ((U g8) l e L.own e2 b8) (And.intro (show l.cell? ⟨w.heap.size,0,none⟩=some (.pointer (some ⟨d,0,none⟩))from ab e8 0) (And.intro (show l.cell? ⟨w.heap.size,1,none⟩=some (.slice (some ⟨h,k,none⟩) n o)from ab e8 1) ((U a6) l (((U S).trans L).below (U C))).1));refine g.out _ _ (fun _=>t) ?_;clear g m;try simp only[PS]
  refine az (i:=15) rfl (by kernel_rfl) (fun m g=>?_);go_simp;refine((U g3) _ v q (((U S).trans L).below (U C)) i8).mono ?_;rintro O G⟨B,rfl,j1,b4,u⟩;obtain⟨k4,j4,p,b3,a7,i1,k3,e4,h9,i6⟩:=(U g4) l e G B L.own u e2 b8 j1 b4;have g7:=R (((U S).trans L).trans i6);refine g.out _ _ (fun _=>⟨u.cell t.1,u.cell t.2.1,u.cell t.2.2.1,u.cell t.2.2.2⟩) ?_;clear g m;try simp only[PS]
  refine az (i:=16) rfl (by kernel_rfl) (fun m g=>?_);go_simp;refine g.out _ _ (fun _=>⟨(u.alloc _).cell t.1,(u.alloc _).cell t.2.1,(u.alloc _).cell t.2.2.1,(u.alloc _).cell t.2.2.2⟩) ?_;clear g m;try simp only[PS]
  have b5:p.cell? ⟨r,i*2,none⟩=some (.slice (some ⟨E,0,none⟩) y D)∧p.cell? ⟨w.heap.size,0,none⟩=some (.pointer (some ⟨d,0,none⟩))∧p.cell? ⟨w.heap.size,1,none⟩=some (.slice (some ⟨h,k,none⟩) n o)∧p.cell? ⟨h,k+f*3,none⟩=some (.int .i64 a):=by
   have e6:(e (.U i)).ownBlock≠some w.heap.size:=by rw[b8];exact(U c6) (.U i) I
   exact⟨i1,e4 (u.cell t.2.1) e6,e4 (u.cell t.2.2.1) e6,((U a6) p (Below.trans (((U S).trans L).below (U C)) h9)).1⟩
  refine az (i:=17) rfl (by kernel_rfl) (fun m g=>?_);rw[if_pos (by rfl)];refine eb (v:=.slice (some ⟨E,0,none⟩) y D) _ _ _ 93 rfl rfl rfl a7 ?_;refine g.out _ _ (fun _=>b5) ?_;clear g m;try simp only[PS]
  refine az (i:=18) rfl (by kernel_rfl) (fun m g=>?_);go_simp;refine g.out _ _ (fun _=>b5) ?_;clear g m;try simp only[PS]
  refine az (i:=19) rfl (by kernel_rfl) (fun m g=>?_);go_simp;refine g.out _ _ (fun _=>b5) ?_;clear g m;try simp only[PS]
  refine az (i:=20) rfl (by kernel_rfl) (fun m g=>?_);go_simp;refine g.out _ _ (fun P=>absurd rfl P) ?_;clear g m;refine df (by kernel_rfl) ?_ _;go_wp2;go_end0;exact Or.inl ⟨rfl,rfl,b3,U g7⟩
