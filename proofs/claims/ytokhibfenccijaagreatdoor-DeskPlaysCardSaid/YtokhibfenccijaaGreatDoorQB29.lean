import Derived.Test.YtokhibfenccijaaGreatDoorQB28
set_option maxRecDepth 100000
set_option maxHeartbeats 8000000
namespace Go.Proofs.YtokhibfenccijaaGreatDoor
open Go.Proofs.Tryz
open Go.RowKit
def dx(p:List Fn)(s:St):List Int:=if ba p s=0 then(cB s).getD []else[]
theorem oJ{p:List Fn}{s:St}(b:ba p s=0):cB s=some (dx p s)∧bt s.I (s.I.length+1) s.now []=some (dx p s):=by
 obtain⟨e,a,_⟩:=oH b;have c:dx p s=e:=by unfold dx;rw[if_pos b,a];rfl
 rw[c];refine⟨a,?_⟩;unfold cB at a;split at a;·cases a
 ·rename_i f d;split at a;·rw[d,Option.some.inj a]
  ·cases a
theorem uV{fs:List Fb}{k:Nat}{n:Int}{b l:List Int}(a:bt fs (k+1) n b=some l)(d:0≤n):n∉b∧bt fs k (bw fs n) (b++[n])=some l:=by
 unfold bt at a;rw[if_neg (by omega)]at a;split at a;·cases a
 ·rename_i c;exact⟨c,a⟩
theorem qZ{fs:List Fb}{k:Nat}{n:Int}{b l:List Int}(a:bt fs (k+1) n b=some l)(c:n<0):b=l:=by unfold bt at a;rw[if_pos c]at a;exact Option.some.inj a
def kL(p:List Fn)(s:St)(w:World)(e:Ending)(w':World):Prop:=∃a,e=.returned (.tuple #[a,.int .i64 (ba p s)])∧bN w' a (dx p s)∧J w w'
theorem yK(p:List Fn)(s:St)(c v:Value)(w:World)(i:aK w c p)(j:cy w v s)(f:bm w)(k:ba p s≠0)(m:Hid (∀b,aK b c p→cy b v s→bm b→Calls prog 59 #[c,v] b fun d e=>d=.returned (.int .i64 (ba p s))∧J b e)):Calls prog 139 #[c,v] w fun d e=>kL p s w d e:=by
 have h:dx p s=[]:=by unfold dx;rw[if_neg k]
 unfold kL;rw[h];have D:(ba p s !=0)=true:=by rw[bne_iff_ne];exact k
 generalize ba p s=G at*;have o:=R i;have n:=R f;have q:=R j;obtain⟨H,I,rfl,t,u⟩:=j;obtain⟨x,z,rfl,C,_⟩:=t;obtain⟨y,A,rfl,_,_⟩:=u;obtain⟨F,B,rfl,_,_⟩:=i;clear f h;go_enter func139,ntmps139;go_wp2_with fail;have a:J w (w.alloc (.cells #[.slice x s.I.length z,.int .i64 s.now,.slice y s.out.length A] 44)):=(J.refl w).alloc _;refine((U m) _ ((U o).kept a) ((U q).kept a) ((U n).kept a)).mono ?_;rintro _ K⟨rfl,g⟩;have l:=R (a.trans g);clear g a;go_wp2;go_ret2;exact⟨_,rfl,⟨none,0,rfl,by simp,fun E L r=>by simp at r⟩,U l⟩
theorem yL(p:List Fn)(s:St)(n v:Value)(w:World)(a2:aK w n p)(a4:cy w v s)(W:bm w)(a:ba p s=0)(A:Hid (∀k,aK k n p→cy k v s→bm k→Calls prog 59 #[n,v] k fun h x=>h=.returned (.int .i64 (ba p s))∧J k x)):Calls prog 139 #[n,v] w fun h x=>kL p s w h x:=by
 obtain⟨_,X⟩:=oJ a;obtain⟨_,Y,_⟩:=im a;obtain⟨h4,_,_,_,⟨e0,e1⟩,O⟩:=ik Y;obtain⟨e6,c6,e3,e4,e5⟩:=info_parts iE;unfold kL;rw[a]at A⊢;generalize dx p s=e7 at*;have b5:=R a2;have g:=R W;have b6:=R a4;obtain⟨i4,i6,rfl,c2,c3⟩:=a4;obtain⟨a7,a8,rfl,h6,L⟩:=c2;obtain⟨g2,g3,rfl,_,_⟩:=c3;obtain⟨i1,h2,rfl,_,_⟩:=a2;have y:=R L;have z:=R O;have b2:=R X;clear W L O X Y a;go_enter func139,ntmps139;go_wp2_with fail;have i:J w (w.alloc (.cells #[.slice a7 s.I.length a8,.int .i64 s.now,.slice g2 s.out.length g3] 44)):=(J.refl w).alloc _;refine((U A) _ ((U b5).kept i) ((U b6).kept i) ((U g).kept i)).mono ?_;rintro _ f⟨rfl,l⟩;have C:=R (i.trans l);have K:f.cell? ⟨w.heap.size,0,none⟩=some (.slice a7 s.I.length a8):=l.cell (by simp);have b8:f.cell? ⟨w.heap.size,1,none⟩=some (.int .i64 s.now):=l.cell (by simp);have a9:=R K;clear l i;generalize M:s.I.length=e at*;have b3:=R M;clear M;go_wp2;clear K b8;go_loopw[7,8](fun u g4 wr=>∃(b:Int)(c:List Int)(j:Nat),g4=.int .i64 b∧-1≤b∧b<e∧j+c.length=e+1∧Hid (wr.ownsRow f.heap.size 3 1 u c.length (ints c))∧Hid (c.Nodup)∧Hid (∀d,d∈c→0≤d∧d<e)∧Hid (bt s.I j b c=some e7)∧Hid (J f wr))(fun u _ _=>e+1-pc u);case atStart=>exact⟨s.now,[],e+1,rfl,e0,e1,by simp,World.ownsRow_nil _ _ _ _,List.nodup_nil,(fun d a=>by cases a),U b2,J.refl _⟩
 case round=>
  obtain⟨b,c,j,rfl,h9,c8,h8,F,E,B,D,g⟩:=hrel;have S:=ju (U E) (U B);have h7:c.length≤e:=S;have c7:∃r,j=r+1:=⟨j-1,by omega⟩;obtain⟨r,rfl⟩:=c7;obtain⟨g1,o,rfl,a3⟩:=aR (U F);have H:=R a3;clear a3 S;by_cases e2:0≤b
  ·have c9:(b !=-1)=true:=by rw[bne_iff_ne];omega
   obtain⟨Z,a5⟩:=uV (U D) e2;have a0:b.toNat<s.I.length:=by have:=U b3;omega
   obtain⟨g8,i2,i5,b9,k0,t,_⟩:=(U y) b.toNat _ (aD s.I b.toNat Fb.zero a0);have Q:=(U z) _ (List.mem_of_getElem? (aD s.I b.toNat Fb.zero a0));have P:(s.I.getD b.toNat Fb.zero).caller=bw s.I b:=rfl;rw[P]at t Q;generalize bw s.I b=e8 at*;have b7:=R a5;have b4:=R Z;have I:=R t;obtain⟨e9,g0⟩:=Q;clear a5 Z k0 t P H z y;subst b9;have q:=U F;have h5:=(U g).size;go_wp2_with(at_builtin;refine wpList_append_own _ rfl _ _ 30 rfl f.heap.size 3 e6 (.int .i64 0) 1 8 underlying30 c6 e3 e4 e5 rfl (by decide) _ _ _ rfl (q.alloc _) ⟨wr.heap.size,0,none⟩ 1 1 [.int .i64 b] rfl rfl (lq _ _ _) (kb _) (by unfold maxLen;omega) (by omega) (by simp;omega) ?_;intro i3 g5 a1 T _;have m:J f g5:=Below.grown ((U g).alloc _) T (by simp;omega) (wQ q);have b1:=R m;have G:=R a1;have h0:=m.cell (U a9);have h1:=m.cell ((U C).cell (U I));clear m a1 T q I);go_roundw;case rel=>
    refine⟨e8,c++[b],r,rfl,e9,g0,by simp;omega,?_,?_,?_,?_,b1⟩;·show World.ownsRow _ _ _ _ _ _ _;rw[ke,List.length_append];exact U G
    ·show List.Nodup _;rw[List.nodup_append];refine⟨U E,by simp,?_⟩;intro g6 c4 g7 N h;simp at N;subst N h;exact(U b4) c4
    ·intro d a;rcases List.mem_append.1 a with a|a;·exact(U B) d a
     ·simp at a;subst a;exact⟨by omega,c8⟩
    ·exact U b7
   case measure=>obtain⟨i0,g9,c0,_⟩:=aR (U G);subst c0;simp[pc];omega
  ·obtain rfl:b=-1:=by omega
   obtain rfl:=qZ (U D) (by omega);have c9:((-1:Int)!=-1)=false:=rfl;have V:bN wr (.slice g1 c.length o) c:=by
    rcases U H with⟨rfl,h3⟩|⟨c1,rfl,c5⟩;·exact⟨_,o,rfl,by omega,fun a6 d a=>by have:=(List.getElem?_eq_some_iff.1 a).1;omega⟩
    ·exact⟨_,o,rfl,by omega,fun a6 d a=>⟨c1,0,rfl,by rw[Nat.zero_add];exact c5 a6 _ (mH a)⟩⟩
   have b0:=R V;clear V;go_wp2;go_ret2;exact⟨_,rfl,U b0,(U C).trans (U g)⟩
theorem tf(p:List Fn)(s:St)(a v:Value)(w:World)(g:aK w a p)(h:cy w v s)(f:bm w)(e:Hid (∀b,aK b a p→cy b v s→bm b→Calls prog 59 #[a,v] b fun c d=>c=.returned (.int .i64 (ba p s))∧J b d)):Calls prog 139 #[a,v] w fun c d=>kL p s w c d:=by
 by_cases i:ba p s=0;·exact yL p s a v w g h f i e
 ·exact yK p s a v w g h f i e
theorem CK(l:List Int)(v:Value)(n:Int)(w:World)(x:bN w v l):Calls prog 197 #[v,.int .i64 n] w fun f A=>∃r:Int,f=.returned (.int .i64 r)∧decide (0≤r)=decide (n∈l)∧J w A:=by
 obtain⟨G,B,rfl,E,q⟩:=x;have s:=R q;clear q;go_enter func197,ntmps197;go_wp2;go_loopw[8](fun h wr=>∃a:Nat,a≤l.length∧h=.int .i64 a∧Hid (∀b,b<a→l.getD b 0≠n)∧Hid (J w wr))(fun h _=>l.length-(intOf h).toNat);case atStart=>exact⟨0,Nat.zero_le _,rfl,(fun b g=>by omega),J.refl _⟩
 case round=>
  obtain⟨a,D,rfl,j,d⟩:=hrel;by_cases o:a<l.length
  ·obtain⟨b1,F,t,m⟩:=(U s) a _ (aD l a 0 o);have C:=(U d).cell m;generalize p:l.getD a 0=i at*;have k:=R p;subst t;clear m p;by_cases c:n=i
   ·have z:(n==i)=true:=by rw[beq_iff_eq];exact c
    have e:=R c;clear c;go_wp2;go_ret;refine⟨a,rfl,?_,U d⟩;rw[decide_eq_true (by omega),decide_eq_true];rw[U e,←U k];exact List.mem_of_getElem? (aD l a 0 o)
   ·have z:(n==i)=false:=by rw[beq_eq_false_iff_ne];exact c
    have e:=R c;clear c;go_wp2;go_roundw;case rel=>
     refine⟨a+1,by omega,by go_num,?_,d⟩;intro b g;by_cases f:b=a;·subst f;rw[U k];exact fun u=>(U e) u.symm
     ·exact(U j) b (by omega)
    case measure=>simp[intOf];omega
  ·go_wp2;go_ret;refine⟨-1,rfl,?_,U d⟩;rw[decide_eq_false (by omega),decide_eq_false];intro y;obtain⟨b,g,rfl⟩:=List.getElem_of_mem y;exact(U j) b (by omega) (by simp[List.getD,g])
theorem zr(l:List Int)(v:Value)(n:Int)(w:World)(a:bN w v l):Calls prog 180 #[v,.int .i64 n] w fun e h=>e=.returned (.bool (decide (n∈l)))∧J w h:=by have c:=R (CK l v n w a);obtain⟨m,i,rfl,k,g⟩:=a;clear g;generalize f:decide (n∈l)=o at*;clear f;go_enter func180,ntmps180;go_wp2_with fail;refine(U c).mono ?_;rintro _ p⟨q,rfl,j,b⟩;have d:=R b;clear b;go_wp2;go_ret;exact⟨rfl,U d⟩
def eP(p:List Fn)(s:St)(k:Nat):Int:=if(aa s k).U.length=0 then 0 else if(k:Int)=s.now then 1 else if(k:Int)∈dx p s then 2 else if(ae s k 0).at_=0 then 3 else 4
def jx(p:List Fn)(s:St)(n:Int):Int×Int:=if ba p s=0 then(if 0≤n∧n<s.I.length then(eP p s n.toNat,0)else(0,5))else(0,ba p s)
theorem BU{p:List Fn}{s:St}(i:ba p s=0){k:Nat}(t:k<s.I.length)(q:(aa s k).U.length≠0)(f:(k:Int)≠s.now)(j:(k:Int)∉dx p s):dH p (aa s k)=decide ((ae s k 0).at_=0):=by
 obtain⟨w,u,r⟩:=oH i;have v:w=dx p s:=Option.some.inj (u.symm.trans (oJ i).1);rw[←v]at j;have b:=r k t;unfold eA at b;unfold ae;generalize aa s k=n at*;obtain⟨o,h⟩:=n;match o,q,b with
  |[c],_,b=>
   simp only[List.getLast?_singleton,Bool.and_eq_true]at b;obtain⟨_,d⟩:=b;rw[if_neg (by simpa using f),if_neg (by simpa using j)]at d;simp only[Bool.and_eq_true,Bool.or_eq_true]at d;show dH p ⟨[c],h⟩=decide (c.at_=0);rcases d.2 with a|a;·rw[a];unfold dH at a;simp only[Bool.and_eq_true]at a;exact a.1.1.symm
   ·unfold eU at a;simp only[Bool.and_eq_true,Bool.not_eq_true',decide_eq_false_iff_not]at a;rw[decide_eq_false a.1.1];unfold dH;simp[a.1.1]
  |c::m::l,_,b=>
   have e:iD p (c::m::l)=true:=by
    split at b;·rename_i f;simp at f
    ·exact(Bool.and_eq_true _ _▸b).1
   unfold iD at e;simp only[Bool.and_eq_true]at e;have g:=e.1.2.2;unfold eU at g;simp only[Bool.and_eq_true,Bool.not_eq_true',decide_eq_false_iff_not]at g;show dH p ⟨c::m::l,h⟩=decide (c.at_=0);rw[decide_eq_false g.1.1];rfl
theorem yJ(p:List Fn)(s:St)(n:Int)(A v:Value)(w:World)(a1:aK w A p)(a2:cy w v s)(Z:bm w)(a8:Hid (∀f,aK f A p→cy f v s→bm f→Calls prog 59 #[A,v] f fun C L=>C=.returned (.int .i64 (ba p s))∧J f L)):Calls prog 140 #[A,v,.int .i64 n] w fun C L=>C=.returned (.tuple #[.int .i64 (jx p s n).1,.int .i64 (jx p s n).2])∧J w L:=by
 generalize a:jx p s n=a6;obtain⟨t,u⟩:=a6;have c:=R a;have b1:=R a1;have b0:=R Z;have b2:=R a2;obtain⟨g8,g9,rfl,b6,b7⟩:=a2;obtain⟨a4,a5,rfl,e7,X⟩:=b6;obtain⟨c6,c8,rfl,_,_⟩:=b7;obtain⟨g5,e6,rfl,_,_⟩:=a1;have P:=R X;clear Z X a;go_enter func140,ntmps140;go_wp2_with fail;have r:J w (w.alloc (.cells #[.slice a4 s.I.length a5,.int .i64 s.now,.slice c6 s.out.length c8] 44)):=(J.refl w).alloc _;refine(tf p s _ _ _ ((U b1).kept r) ((U b2).kept r) ((U b0).kept r) a8).mono ?_;unfold kL;rintro _ M⟨c9,rfl,F,z⟩;have e:=R (r.trans z);obtain⟨g3,e4,rfl,_,_⟩:=id F;have a9:=R F;have c4:M.cell? ⟨w.heap.size,0,none⟩=some (.slice a4 s.I.length a5):=z.cell (by simp);have c5:M.cell? ⟨w.heap.size,1,none⟩=some (.int .i64 s.now):=z.cell (by simp);generalize w.heap.size=e1 at c4 c5⊢;clear F z r;have O:∀(i B:Int)(f:World)(N:Ending),(t,u)=(i,B)→N=.returned (.tuple #[.int .i64 i,.int .i64 B])→J w f→N=.returned (.tuple #[.int .i64 t,.int .i64 u])∧J w f:=by intro i B f N W h2 h3;rw[(Prod.mk.inj W).1,(Prod.mk.inj W).2];exact⟨h2,h3⟩
 have h:=R O;clear O;by_cases q:ba p s=0
 ·rw[q];have S:=R q;clear q;by_cases k:0≤n∧n<s.I.length
  ·have a:(t,u)=(eP p s n.toNat,0):=by rw[←U c];unfold jx;rw[if_pos (U S),if_pos k]
   obtain⟨b,rfl⟩:=Int.eq_ofNat_of_zero_le k.1;rw[Int.toNat_natCast]at a;have a0:b<s.I.length:=by omega
   obtain⟨e2,g2,g7,D,I,_,g6,e5,b5,⟨b8,_⟩,E⟩:=(U P) b _ (aD s.I b Fb.zero a0);subst D b5;have Y:s.I.getD b Fb.zero=aa s b:=rfl;rw[Y]at I E b8;have c3:=(U e).cell I;have Q:=R E;have T:decide ((b:Int)<0)=false:=by simp
   have b4:decide ((s.I.length:Int)≤(b:Int))=false:=by simpa using a0
   clear k I E Y c P;by_cases G:(aa s b).U.length=0
   ·have d:eP p s b=0:=by unfold eP;rw[if_pos G]
    rw[d]at a;rw[G]at c3;have c:=R a;clear a d;generalize s.I.length=K at*;go_wp2;go_ret2;exact(U h) _ _ _ _ (U c) rfl (U e)
   ·have e9:(((aa s b).U.length:Int)==0)=false:=beq_eq_false_iff_ne.2 (by omega);have d:eP p s b=if(b:Int)=s.now then 1 else if(b:Int)∈dx p s then 2 else if(ae s b 0).at_=0 then 3 else 4:=by unfold eP;rw[if_neg G]
    obtain⟨e3,g4,c9,h0,D,k0,H,c1,c2,_,_⟩:=(U Q) 0 _ (aD (aa s b).U 0 Fr.zero (by omega));subst D;have a3:(aa s b).U.getD 0 Fr.zero=ae s b 0:=rfl;rw[a3]at H;have a7:=(U e).cell H;have y:=R (zr (dx p s) _ (b:Int) M (U a9));clear k0 H c1 c2 a3 Q;generalize(aa s b).U.length=c7 at*;have e8:0<c7:=by omega
    generalize s.I.length=K at*;generalize(ae s b 0).at_=i at*;generalize(dx p s).length=g1 at*;by_cases o:(b:Int)=s.now
    ·have c0:((b:Int)==s.now)=true:=by rw[beq_iff_eq];exact o
     rw[if_pos o]at d;rw[d]at a;have c:=R a;clear a d o;generalize s.now=b3 at*;go_wp2;go_ret2;exact(U h) _ _ _ _ (U c) rfl (U e)
    ·have c0:((b:Int)==s.now)=false:=by rw[beq_eq_false_iff_ne];exact o
     rw[if_neg o]at d;generalize s.now=b3 at*;clear o;by_cases l:(b:Int)∈dx p s;·rw[if_pos l]at d;rw[d]at a;rw[decide_eq_true l]at y;have c:=R a;clear a d l;go_wp2_with fail;refine(U y).mono ?_;rintro _ e0⟨rfl,m⟩;have x:=R ((U e).trans m);clear m;go_wp2;go_ret2;exact(U h) _ _ _ _ (U c) rfl (U x)
     ·rw[if_neg l]at d;rw[decide_eq_false l]at y;rw[d]at a;have c:=R a;clear d l a;go_wp2_with fail;refine(U y).mono ?_;rintro _ e0⟨rfl,m⟩;have x:=R ((U e).trans m);have h1:=m.cell a7;clear m a7;by_cases j:i=0
      ·have b9:(i==0)=true:=by rw[beq_iff_eq];exact j
       have a:=U c;rw[if_pos j]at a;have g:=R a;clear j a;go_wp2;go_ret2;exact(U h) _ _ _ _ (U g) rfl (U x)
      ·have b9:(i==0)=false:=by rw[beq_eq_false_iff_ne];exact j
       have a:=U c;rw[if_neg j]at a;have g:=R a;clear j a;go_wp2;go_ret2;exact(U h) _ _ _ _ (U g) rfl (U x)
  ·have a:(t,u)=(0,5):=by rw[←U c];unfold jx;rw[if_pos (U S),if_neg k]
   have g:=R a;generalize s.I.length=K at*;by_cases V:n<0;·have T:decide (n<0)=true:=decide_eq_true V;clear k a;go_wp2;go_ret2;exact(U h) _ _ _ _ (U g) rfl (U e)
   ·have T:decide (n<0)=false:=decide_eq_false V;have b4:decide ((K:Int)≤n)=true:=decide_eq_true (by omega);clear k a;go_wp2;go_ret2;exact(U h) _ _ _ _ (U g) rfl (U e)
 ·have g0:(ba p s !=0)=true:=by rw[bne_iff_ne];exact q
  have a:(t,u)=(0,ba p s):=by rw[←U c];unfold jx;rw[if_neg q]
  have g:=R a;generalize ba p s=a6 at*;clear a q;go_wp2;go_ret2;exact(U h) _ _ _ _ (U g) rfl (U e)
def pG(l:List Int)(w:World)(e:Ending)(w':World):Prop:=∃a,e=.returned a∧bN w' a l∧J w w'
theorem wD(p:List Fn)(s:St)(v:Value)(w:World)(i:cy w v s)(c:ba p s=0):Calls prog 50 #[v] w fun o A=>pG (dx p s) w o A:=by obtain⟨g,_⟩:=oJ c;obtain⟨_,f,_⟩:=im c;obtain⟨D,_,_,_,h,d⟩:=ik f;generalize dx p s=F at*;unfold pG;have m:=R (fun j(t:J w j)=>uW s v j (i.kept t) h d (by omega));have n:=R g;obtain⟨H,K,rfl,q,r⟩:=i;obtain⟨u,y,rfl,E,_⟩:=q;obtain⟨x,z,rfl,_,_⟩:=r;clear g d h f c;go_enter func50,ntmps50;go_wp2_with fail;have a:J w (w.alloc (.cells #[.slice u s.I.length y,.int .i64 s.now,.slice x s.out.length z] 44)):=(J.refl w).alloc _;refine((U m) _ a).mono ?_;unfold pH;rw[U n];rintro _ L⟨I,B,rfl,e,rfl,b⟩;have k:=R (a.trans e);obtain⟨G,C,rfl,_,_⟩:=id b;have l:=R b;clear e a b;go_wp2;go_ret;exact⟨_,rfl,U l,U k⟩
theorem Di(p:List Fn)(s:St)(k:Nat)(W v:Value)(w:World)(O:aK w W p)(P:cy w v s)(S:ba p s=0)(x:k<s.I.length):Calls prog 51 #[W,v,.int .i64 k] w fun a9 c3=>a9=.returned (.int .i64 (eP p s k))∧J w c3:=by
 have a5:=R O;have a6:=R P;have n:=R S;obtain⟨g0,g2,rfl,b2,b3⟩:=P;obtain⟨e8,V,rfl,e0,I⟩:=b2;obtain⟨c0,c2,rfl,_,_⟩:=b3;obtain⟨e7,c8,rfl,_,_⟩:=O;obtain⟨o,D,e9,b0,i,z,g⟩:=I k _ (aD s.I k Fb.zero x);obtain⟨T,H,b1,⟨b4,_⟩,_⟩:=id g;subst b0 b1;have L:s.I.getD k Fb.zero=aa s k:=rfl;rw[L]at i z g b4;have Z:Hid (ma w (.agg #[.slice T (aa s k).U.length H,.int .i64 (aa s k).caller]) (aa s k)):=R ⟨_,rfl,g⟩;have a3:Hid (∀j,j∈(aa s k).U→0≤j.fn∧j.fn<p.length):=R (fun j b8=>by obtain⟨e2,M,rfl⟩:=List.getElem_of_mem b8;have:=(iC (wH (U n) x M).1).1;simpa[ae,List.getD,M]using this);clear I S L g;generalize a:eP p s k=c9;have l:=R a;unfold eP at a;have Q:∀C:Obj,(w.alloc C).cell? ⟨o,D+k*2,none⟩=some (.slice T (aa s k).U.length H):=fun C=>((J.refl w).alloc C).cell i;have a7:=R z;have a8:=R i;clear z i;by_cases h:(aa s k).U.length=0;·rw[if_pos h]at a;subst a;rw[h]at Q;clear l;go_enter func51,ntmps51;go_wp2;go_ret;exact⟨rfl,(J.refl w).alloc _⟩
 ·rw[if_neg h]at a;have e1:(((aa s k).U.length:Int)==0)=false:=beq_eq_false_iff_ne.2 (by omega);by_cases c:(k:Int)=s.now
  ·have b6:((k:Int)==s.now)=true:=by rw[beq_iff_eq];exact c
   rw[if_pos c]at a;subst a;clear l c;generalize s.now=G at*;generalize(aa s k).U.length=c1 at*;generalize s.I.length=A at*;go_enter func51,ntmps51;go_wp2;go_ret;exact⟨rfl,(J.refl w).alloc _⟩
  ·have b6:((k:Int)==s.now)=false:=by rw[beq_eq_false_iff_ne];exact c
   rw[if_neg c]at a;have Y:=R (fun b5=>BU (U n) x h c b5);have a4:=R (fun f(y:J w f)=>wD p s _ f ((U a6).kept y) (U n));have a1:=R (fun v f(y:bN f v (dx p s))=>uA (dx p s) v (k:Int) f y);generalize dx p s=b9 at*;have m:=R a;clear a c l;generalize s.now=G at*;generalize b7:(aa s k).U.length=c1 at*;clear b7;generalize s.I.length=A at*;go_enter func51,ntmps51;go_wp2_with fail;have q:J w (w.alloc (.cells #[.slice (some ⟨o,D,none⟩) A V,.int .i64 G,.slice c0 s.out.length c2] 44)):=(J.refl w).alloc _;refine((U a4) _ q).mono ?_;unfold pG;rintro _ c4⟨g1,rfl,r,t⟩;have X:=R (q.trans t);have B:c4.cell? ⟨w.heap.size,0,none⟩=some (.slice (some ⟨o,D,none⟩) A V):=t.cell (by simp);obtain⟨e6,c7,rfl,_,_⟩:=id r;have a2:=R ((U a1) _ _ r);generalize w.heap.size=c6 at B⊢;clear t q r Q;go_wp2_with fail;refine(U a2).mono ?_;rintro _ c5⟨rfl,u⟩;have d:=R ((U X).trans u);have e3:=u.cell B;clear u B;have a:=U m;by_cases b:(k:Int)∈b9;·rw[if_pos b]at a;subst a;rw[decide_eq_true b];clear b m;go_wp2;go_ret;exact⟨rfl,U d⟩
   ·rw[if_neg b]at a;rw[decide_eq_false b];have K:=(U Y) b;have e4:=(U d).cell (U a8);have e5:=(U d).cell (U a7);have F:=R (BT p _ _ _ c5 ((U a5).kept (U d)) ((U Z).kept (U d)) (U a3));rw[K]at F;have a0:=R a;clear b m a K;go_wp2_with fail;refine(U F).mono ?_;rintro _ g3⟨rfl,N⟩;have E:=R ((U d).trans N);clear N;have a:=U a0;by_cases e:(ae s k 0).at_=0;·rw[if_pos e]at a;subst a;rw[decide_eq_true e];clear e;go_wp2;go_ret;exact⟨rfl,U E⟩
    ·rw[if_neg e]at a;subst a;rw[decide_eq_false e];clear e;go_wp2;go_ret;exact⟨rfl,U E⟩
theorem uX(fs:List Fb)(r:∀h,h∈fs→-1≤h.caller∧h.caller<fs.length):∀(k:Nat)(n:Int)(a l:List Int),bt fs k n a=some l→-1≤n→n<fs.length→a.Nodup→(∀c,c∈a→0≤c∧c<fs.length)→(∀b,b+1<a.length→bw fs (a.getD b 0)=a.getD (b+1) 0)→(a≠[]→bw fs (a.getD (a.length-1) 0)=n)→l.Nodup∧(∀c,c∈l→0≤c∧c<fs.length)∧(∀b,b+1<l.length→bw fs (l.getD b 0)=l.getD (b+1) 0)∧(∀b,b<a.length→l.getD b 0=a.getD b 0)∧a.length≤l.length∧(0≤n→a.length<l.length∧l.getD a.length 0=n)
 |0,_,_,_,f,_,_,_,_,_,_=>by cases f
 |k+1,n,a,l,f,H,h2,u,t,s,y=>by
  by_cases z:n<0;·have:=qZ f z;subst this;exact⟨u,t,s,fun _ _=>rfl,Nat.le_refl _,fun f=>by omega⟩
  ·obtain⟨A,w⟩:=uV f (by omega);have B:n.toNat<fs.length:=by omega
   have q:=r _ (List.mem_of_getElem? (aD fs n.toNat Fb.zero B));have j:∀b,b<a.length→(a++[n]).getD b 0=a.getD b 0:=fun b g=>by simp[List.getD,List.getElem?_append_left g]
   have m:(a++[n]).getD a.length 0=n:=by simp[List.getD]
   obtain⟨C,D,E,o,F,_⟩:=uX fs r k (bw fs n) (a++[n]) l w q.1 q.2 (by rw[List.nodup_append];refine⟨u,by simp,?_⟩;intro G x h p d;simp at p;subst p d;exact A x) (by
    intro c e;rcases List.mem_append.1 e with e|e;·exact t c e
    ·simp at e;subst e;exact⟨by omega,h2⟩) (by
    intro b g;simp only[List.length_append,List.length_cons,List.length_nil]at g;rw[j b (by omega)];by_cases d:b+1<a.length;·rw[j (b+1) d];exact s b d
    ·have i:b+1=a.length:=by omega
     rw[i,m];have v:b=a.length-1:=by omega
     rw[v];exact y (fun d=>by rw[d]at i;simp at i)) (by
    intro _;have:(a++[n]).length-1=a.length:=by simp
    rw[this,m]);simp only[List.length_append,List.length_cons,List.length_nil]at o F;refine⟨C,D,E,fun b g=>?_,by omega,fun _=>⟨by omega,?_⟩⟩;·rw[o b (by omega),j b g]
   ·rw[o a.length (by omega),m]
def below(l:List Int)(n:Nat):Nat:=(l.filter fun a=>decide (a<(n:Int))).length
theorem sZ:∀(l:List Int),l.Nodup→∀a:Nat,below l (a+1)=below l a+(if(a:Int)∈l then 1 else 0)
 |[],_,a=>rfl
 |b::l,f,a=>by
  have c:=sZ l (List.nodup_cons.1 f).2 a;have g:=(List.nodup_cons.1 f).1;unfold below at c⊢;by_cases d:b=(a:Int);·subst d;rw[if_neg g]at c;rw[if_pos (by simp)];rw[List.filter_cons_of_pos (by simp;omega),List.filter_cons_of_neg (by simp)];simp only[List.length_cons];omega
  ·have e:((a:Int)∈b::l)↔(a:Int)∈l:=by simp[Ne.symm d]
   by_cases h:b<(a:Int);·rw[List.filter_cons_of_pos (by simp;omega),List.filter_cons_of_pos (by simp;omega)];simp only[List.length_cons,e];omega
   ·rw[List.filter_cons_of_neg (by simp;omega),List.filter_cons_of_neg (by simp;omega)];simp only[e];exact c
theorem yu{l:List Int}(b:∀a,a∈l→0≤a):below l 0=0:=by unfold below;rw[List.length_eq_zero_iff,List.filter_eq_nil_iff];intro a c;have:=b a c;simp;omega
theorem yt{l:List Int}{N:Nat}(b:∀a,a∈l→a<N):below l N=l.length:=by unfold below;rw[List.filter_eq_self.2];intro a c;have:=b a c;simp;omega
structure xH(s:St)(l:List Int):Prop where
 nodup:l.Nodup
 inside:∀b,b∈l→0≤b∧b<s.I.length
 chain:∀a,a+1<l.length→bw s.I (l.getD a 0)=l.getD (a+1) 0
 none:s.now<0→l=[]
 first:0≤s.now→0<l.length∧l.getD 0 0=s.now∧l.getD (l.length-1) 0=0
theorem Dv{p:List Fn}{s:St}(c:ba p s=0):xH s (dx p s):=by
 obtain⟨b,e⟩:=oJ c;obtain⟨_,i,_⟩:=im c;obtain⟨_,_,_,_,⟨j,k⟩,g⟩:=ik i;obtain⟨m,n,o,_,_,q⟩:=uX s.I g _ _ _ _ e j k List.nodup_nil (fun t l=>by cases l) (fun r h=>by simp at h) (fun c=>absurd rfl c);refine⟨m,n,o,fun f=>(qZ e f).symm,fun f=>?_⟩;obtain⟨d,h2⟩:=q f;refine⟨d,h2,?_⟩;unfold cB at b;rw[e]at b;simp only at b;split at b
 ·rename_i a;rcases a with a|a;·rw[a]at d;simp at d
  ·rw[List.getLast?_eq_getElem?]at a;simp[List.getD,a]
 ·cases b
open Go.RowKit Go.Maps
def dD(H:List Int):Nat→DataW Unit
 |0=>.map []
 |a+1=>if 0≤H.getD a 0 then(dD H a).put (.int .i64 a) (.lit (.int .i64 (aN H a)))else dD H a
theorem qV(a:Int):WideAt.IsKeyLit (Lit.int .i64 a):=trivial
theorem uR{a b:Nat}(d:a≠b):Lit.int .i64 (a:Int)≠Lit.int .i64 (b:Int):=by intro c;simp only[Lit.int.injEq,true_and]at c;omega
theorem mQ(H:List Int):∀a,Tidy (dD H a)
 |0=>tidy_empty
 |a+1=>by
  unfold dD;split;·exact(mQ H a).put (qV _) _
  ·exact mQ H a
theorem rB(H:List Int)(j:Nat):∀a,Maps.has (dD H a) (.int .i64 j)=decide (j<a∧0≤H.getD j 0)
 |0=>by simp[dD,Maps.has]
 |a+1=>by
  have c:=rB H j a;unfold dD;by_cases d:j=a
  ·subst d;by_cases b:0≤H.getD j 0;·rw[if_pos b,has_put_same (mQ H j).isMap (qV _)];exact(decide_eq_true ⟨Nat.lt_succ_self _,b⟩).symm
   ·rw[if_neg b,c];simp only[b,and_false]
  ·have e:decide (j<a+1∧0≤H.getD j 0)=decide (j<a∧0≤H.getD j 0):=by apply decide_eq_decide.2;omega
   rw[e];split;·rw[has_put_other (uR d),c]
   ·exact c
theorem vU(H:List Int)(j:Nat)(c:0≤H.getD j 0)(z:DataW Unit):∀a,j<a→(dD H a).atKey (.int .i64 j) z=.lit (.int .i64 (aN H j))
 |0,e=>by omega
 |a+1,e=>by
  unfold dD;by_cases b:j=a;·subst b;rw[if_pos c,atKey_put_same (mQ H j).isMap (qV _)]
  ·have d:=vU H j c z a (by omega);split;·rw[atKey_put_other (uR b),d]
   ·exact d
theorem rC(H:List Int):∀a,Maps.size (dD H a)=aN H a
 |0=>rfl
 |a+1=>by
  have b:=rC H a;have c:=rB H a a;unfold dD aN;split;·rw[size_put (mQ H a),c,b];simp
  ·exact b
theorem qX:Keyed prog 3:=int_keyed underlying3
theorem xC(w:World):(zeroValue 3).run prog w=.ok (.int .i64 0) w:=by kernel_rfl
theorem DN(n:Nat)(u:World):(Instr.makeMap 239 (some (.int .i64 n))).run prog u=.ok (.map (some u.heap.size)) (u.alloc (.map #[] 0)):=by simp[Instr.makeMap,run_underlying underlying239,asInt,asIntOf,Result.andThen]
def mc(w:World)(B:Nat)(H:List Int):Prop:=w.ownsMap prog 3 (plainElem (H:=Unit) prog 3) B H.length (dD H H.length)
theorem mc.kept{w w':World}{B:Nat}{H:List Int}(d:mc w B H)(k:J w w'):mc w' B H:=by obtain⟨c,b,f,a,g,e⟩:=d;exact⟨c,b,aw k f,a,g,e⟩
theorem bN.opened{w:World}{v:Value}{l:List Int}(h:bN w v l)(i:0<l.length):∃b c d,v=.slice (some ⟨b,c,none⟩) l.length d∧∀a,a<l.length→w.cell? ⟨b,c+a,none⟩=some (.int .i64 (l.getD a 0)):=by obtain⟨n,d,rfl,_,e⟩:=h;obtain⟨b,c,rfl,_⟩:=e 0 _ (aD l 0 0 i);refine⟨b,c,d,rfl,fun a k=>?_⟩;obtain⟨f,m,g,j⟩:=e a _ (aD l a 0 k);obtain⟨rfl,rfl⟩:=(by simpa using g:b=f∧c=m);exact j
theorem FH(H:List Int)(b o m cap:Nat)(w:World)(q:m=H.length)(K:m≤24)(l:∀f,f<m→w.cell? ⟨b,o+f,none⟩=some (.int .i64 (H.getD f 0))):Calls prog 207 #[.slice (some ⟨b,o,none⟩) m cap] w fun A s=>A=.returned (.map (some w.heap.size))∧mc s w.heap.size H∧J w s:=by
 have L:=DN m;have x:=R q;have t:=R l;clear q l;go_enter func207,ntmps207;go_wp2;go_loopw[11](fun j wr=>∃a:Nat,a≤m∧j=.int .i64 a∧Hid (wr.ownsMap prog 3 (plainElem (H:=Unit) prog 3) w.heap.size a (dD H a))∧Hid (J w wr))(fun j _=>m-(intOf j).toNat);case atStart=>exact⟨0,Nat.zero_le _,rfl,World.ownsMap_made _ _ _ _,(J.refl _).alloc _⟩
 case round=>
  obtain⟨a,I,rfl,h,c⟩:=hrel;by_cases D:a<m
  ·have k:=(U c).cell ((U t) a D);by_cases e:0≤H.getD a 0
   ·have E:(Maps.size (dD H a):Int)=(aN H a:Nat):=by rw[rC]
    have C:=ja H a;have d:dD H (a+1)=(dD H a).put (.int .i64 a) (.lit (.int .i64 (aN H a))):=by
     conv=>lhs;unfold dD
     rw[if_pos e]
    have F:(Lit.int .i64 (Maps.size (dD H a):Int)).wf=true:=WalkArith.wf_i64 (by omega);have i:=U h;generalize H.getD a 0=G at k e;have g:=R d;have z:=R E;clear d C;go_wp2_with(first|(at_len;refine wpList_len_own _ rfl _ 239 rfl 3 3 underlying239 _ w.heap.size a _ rfl i ?_)|(at_mapUpdate;refine wpList_mapUpdate_own _ rfl _ _ _ 239 rfl 3 3 qX underlying239 _ w.heap.size a _ rfl i (by unfold maxLen;omega) _ _ _ rfl rfl (keyOf_int_mk underlying3 (WalkArith.wf_i64 (by omega))) _ [] (plainElem_int underlying3 F) ?_;intro M r n)|go_in);have y:=R r;have v:=R (Below.grown (U c) n (U c).size (fun f B=>by cases B;exact Nat.le_refl _));clear r n i;go_roundw;case rel=>exact⟨a+1,by omega,by go_num,by rw[U g,←U z];exact y,v⟩
    case measure=>simp[intOf];omega
   ·have d:dD H (a+1)=dD H a:=by
     conv=>lhs;unfold dD
     rw[if_neg e]
    generalize H.getD a 0=G at k e;have g:=R d;clear d;go_wp2;go_roundw;case rel=>exact⟨a+1,by omega,by go_num,by rw[U g];exact(U h).mono (Nat.le_succ _),c⟩
    case measure=>simp[intOf];omega
  ·have p:a=H.length:=by have:=U x;omega
   have u:=R p;clear p;go_wp2;go_ret;refine⟨rfl,?_,U c⟩;have:=U h;rw[U u]at this;exact this
theorem qM:(prog.info? 72).map (fun a=>(a.zero,a.size,a.bytes))=some (some (.agg #[.int .i64 0,.int .i64 0]),2,16):=by kernel_rfl
theorem px(w:World)(a b:Int)(t:TypeId)(n:Nat)(f:w.heap.size=n):∀d e,[Value.int .i64 a,Value.int .i64 b][d]?=some e→(w.alloc (.cells #[.int .i64 a,.int .i64 b] t)).cell? ((⟨n,0,none⟩:Addr).add d)=some e:=by subst f;intro d e c;match d,c with|0,c=>simp at c;subst c;exact ab (ah rfl) 0|1,c=>simp at c;subst c;exact ab (ah rfl) 1|d+2,c=>simp at c
theorem pw(a b:Int):∀c,c∈[Value.int .i64 a,Value.int .i64 b]→c.oneCell'=true:=by intro c d;simp only[List.mem_cons,List.not_mem_nil,or_false]at d;rcases d with rfl|rfl<;>rfl
theorem nd{w:World}{base:Nat}{e:TypeId}{h:Nat}{v:Value}{n:Nat}{xs:List Value}(c:w.ownsRow base e h v n xs):∀b,v.ownBlock=some b→base≤b:=by
 intro b a;obtain⟨_,d|⟨k,i,j,g,f,_⟩⟩:=c;·rw[d.1]at a;cases a
 ·rw[g]at a;cases a;exact f
theorem nJ(c:List (Int×Int))(x:Int×Int):di (c++[x])=di c++[.int .i64 x.1,.int .i64 x.2]:=by simp[di]
def dR(N:Nat)(w:World)(v:Value)(c:List (Int×Int)):Prop:=∃f g,v=.slice f c.length g∧c.length≤8796093022208∧∀b e,c[b]?=some e→∃a d,f=some ⟨a,d,none⟩∧N≤a∧w.cell? ⟨a,d+b*2,none⟩=some (.int .i64 e.1)∧w.cell? ⟨a,d+b*2+1,none⟩=some (.int .i64 e.2)
theorem dR.code{N:Nat}{w:World}{v:Value}{c:List (Int×Int)}(f:dR N w v c):ev w v c:=by obtain⟨m,b,d,i,h⟩:=f;refine⟨m,b,d,i,fun k n j=>?_⟩;obtain⟨a,l,e,_,g,h2⟩:=h k n j;exact⟨a,l,e,g,h2⟩
theorem dR.kept{N:Nat}{w w':World}{v:Value}{c:List (Int×Int)}(f:dR N w v c)(k:J w w'):dR N w' v c:=by obtain⟨o,b,d,j,i⟩:=f;refine⟨o,b,d,j,fun m p l=>?_⟩;obtain⟨a,n,e,h,g,h2⟩:=i m p l;exact⟨a,n,e,h,k.cell g,k.cell h2⟩
theorem dR.Ks{N B:Nat}{w w':World}{v:Value}{c:List (Int×Int)}(f:dR N w v c)(q:B<N)(k:aA B w w'):dR N w' v c:=by obtain⟨o,b,d,j,i⟩:=f;refine⟨o,b,d,j,fun m p l=>?_⟩;obtain⟨a,n,e,h,g,h2⟩:=i m p l;exact⟨a,n,e,h,k.cell (by simp;omega) g,k.cell (by simp;omega) h2⟩
theorem dR.mono{N a:Nat}{w:World}{v:Value}{c:List (Int×Int)}(g:dR N w v c)(q:a≤N):dR a w v c:=by obtain⟨n,d,e,j,i⟩:=g;refine⟨n,d,e,j,fun l o k=>?_⟩;obtain⟨b,m,f,p,h⟩:=i l o k;exact⟨b,m,f,by omega,h⟩
theorem tm{w:World}{base:Nat}{v:Value}{n:Nat}{c:List (Int×Int)}(i:w.ownsRow base 72 2 v n (di c))(o:n=c.length)(m:c.length≤8796093022208):dR base w v c:=by
 subst o;obtain⟨s,⟨rfl,j⟩|⟨h,g,q,rfl,k,l,_,_,t,p⟩⟩:=i;·have:c=[]:=List.length_eq_zero_iff.1 j;subst this;exact⟨none,0,rfl,by simp,fun e f a=>by simp at a⟩
 ·refine⟨_,g,rfl,m,fun e f a=>⟨h,0,rfl,k,?_,?_⟩⟩;all_goals have r:=(List.getElem?_eq_some_iff.1 a).1;obtain⟨b,d⟩:=mz c e f a;rw[←p,List.getElem?_take,if_pos (by omega)]at b d;rw[ab l]
  ·simpa using b
  ·simpa using d
theorem DH(m:Nat):(madeCells #[.int .i64 0,.int .i64 0] (m*2)).size=m*2:=by simp[madeCells]
theorem DO(m:Nat)(g:m≤1000000)(u:World):(Instr.makeSlice 67 (.int .i64 0) (.int .i64 m)).run prog u=.ok (.slice (some ⟨u.heap.size,0,none⟩) 0 m) (u.alloc (.cells (madeCells #[.int .i64 0,.int .i64 0] (m*2)) 72)):=by obtain⟨f,b,c,d,e⟩:=info_parts qM;have a:=run_make (P:=prog) u 67 72 f (.agg #[.int .i64 0,.int .i64 0]) underlying67 b c .i64 .i64 (0:Int) (m:Int) (by omega) (by omega) (by rw[e];omega) (by omega);rw[Int.toNat_natCast]at a;simpa[d,Value.cells]using a
def pO(b lo:Int)(c:List (Int×Int))(w:World)(e:Ending)(w':World):Prop:=∃a,e=.returned (.agg #[.int .i64 b,.int .i64 lo,a])∧dR w.heap.size w' a c∧J w w'
def pF(H:List Int)(c:List (Int×Int)):Prop:=∀d a,c[d]?=some a→0≤H.getD d 0→a.1=9∨a.1=10→∃b:Nat,a.2=(b:Int)∧b<c.length∧0≤H.getD b 0
theorem Jp(H:List Int)(c:List (Int×Int))(t lo:Int)(i o m C L V Z:Nat)(w:World)(c1:ev w (.slice (some ⟨i,o,none⟩) m C) c)(c3:bN w (.slice (some ⟨L,V,none⟩) m Z) H)(c9:m=c.length)(c8:m=H.length)(h9:m≤24)(N:pF H c):Calls prog 198 #[.agg #[.int .i64 t,.int .i64 lo,.slice (some ⟨i,o,none⟩) m C],.slice (some ⟨L,V,none⟩) m Z] w fun j i6=>pO t lo (dJ H c) w j i6:=by
 have c2:∀a z,c[a]?=some z→w.cell? ⟨i,o+a*2,none⟩=some (.int .i64 z.1)∧w.cell? ⟨i,o+a*2+1,none⟩=some (.int .i64 z.2):=by intro a z l;obtain⟨i2,a5,b1,_,b2⟩:=id c1;obtain⟨K,T,rfl,s,F⟩:=b2 a z l;obtain⟨⟨rfl,rfl⟩,-,-⟩:=(by simpa using b1:(i=K∧o=T)∧m=c.length∧C=a5);exact⟨s,F⟩
 have c4:∀n,n<m→w.cell? ⟨L,V+n,none⟩=some (.int .i64 (H.getD n 0)):=by intro n N;obtain⟨i2,a5,b1,_,b2⟩:=id c3;obtain⟨K,T,rfl,s⟩:=b2 n _ (aD H n 0 (by omega));obtain⟨⟨rfl,rfl⟩,-,-⟩:=(by simpa using b1:(L=K∧V=T)∧m=H.length∧Z=a5);exact s
 have j3:Maps.size (dD H H.length)≤24:=by rw[rC];have:=ja H H.length;omega
 have i0:=DO (Maps.size (dD H H.length)) (by omega);obtain⟨e5,c5,e2,e3,e4⟩:=info_parts qM;have g0:=R c2;have g2:=R c4;have a4:=R c9;have G:=R c8;have g3:=R N;clear c1 c3 c9 c8 N c2 c4;go_enter func198,ntmps198;go_wp2_with fail;refine(FH H L V m Z _ (U G) h9 (fun n N=>(((J.refl w).alloc _).alloc _).cell ((U g2) n N))).mono ?_;rintro j d⟨rfl,a2,a1⟩;have a9:=aw a1 (au (ah (b:=w.heap.size) (o:=.cells #[.int .i64 t,.int .i64 lo,.slice (some ⟨i,o,none⟩) m C] 69) rfl) (.cells #[.int .i64 0,.int .i64 0,.slice none 0 0] 69));have c0:=aw a1 (ah (b:=w.heap.size+1) (w:=w.alloc (.cells #[.int .i64 t,.int .i64 lo,.slice (some ⟨i,o,none⟩) m C] 69)) (o:=.cells #[.int .i64 0,.int .i64 0,.slice none 0 0] 69) (by simp));have c6:J w d:=(((J.refl w).alloc _).alloc _).trans a1;generalize h5:((w.alloc (Obj.cells #[Value.int IntKind.i64 t,Value.int IntKind.i64 lo,Value.slice (some {block:=i,off:=o}) m C] 69)).alloc (Obj.cells #[Value.int IntKind.i64 0,Value.int IntKind.i64 0,Value.slice none 0 0] 69)).heap.size=a3 at a2⊢;have i1:d.ownsMap prog 3 (plainElem (H:=Unit) prog 3) a3 H.length (dD H H.length):=a2;have a6:=ab a9 2;simp only[List.getElem?_toArray,List.getElem?_cons_zero,List.getElem?_cons_succ]at a6;have h3:∀b5,(d.alloc b5).cell? ⟨w.heap.size,2,none⟩=_:=fun b5=>((J.refl d).alloc b5).cell a6;have e9:=R a9;have b7:=R c0;have X:=R c6;have g4:=R a2;clear a9 c0 c6 a2 a1 h5;go_wp2_with(first|(at_len;refine wpList_len_own _ rfl _ 239 rfl 3 3 underlying239 _ a3 H.length _ rfl i1 ?_)|go_in);have E:(d.alloc (Obj.cells (madeCells #[.int .i64 0,.int .i64 0] (Maps.size (dD H H.length)*2)) 72)).ownsRow d.heap.size 72 2 (.slice (some ⟨d.heap.size,0,none⟩) 0 (Maps.size (dD H H.length))) 0 (di []):=World.ownsRow_made d _ _ (Nat.le_refl _) (by unfold maxLen;omega) (DH _);have b8:=R E;clear E;go_loopw[6,19](fun i4 b6 wr=>∃a:Nat,a≤m∧b6=.int .i64 a∧Hid (wr.ownsRow d.heap.size 72 2 i4 (aN H a) (di (pick H (fun a=>bX H (c.getD a (0,0))) a)))∧Hid (J d wr))(fun _ b6 _=>m-(intOf b6).toNat);case atStart=>exact⟨0,Nat.zero_le _,rfl,b8,(J.refl _).alloc _⟩
 case round=>
  obtain⟨a,j2,rfl,Y,e⟩:=hrel;clear a6 h3 b8 i0;by_cases h8:a<m
  ·obtain⟨⟨b,h⟩,l⟩:∃z,c[a]?=some z:=⟨_,List.getElem?_eq_getElem (by rw[←U a4];exact h8)⟩;obtain⟨s,F⟩:=(U g0) a _ l;have i8:=((U X).trans (U e)).cell s;have i9:=((U X).trans (U e)).cell F;simp only at i8 i9;have P:mc (wr.alloc (.cells #[.int .i64 b,.int .i64 h] 72)) a3 H:=(U g4).kept ((U e).alloc _);obtain⟨j7,j6,O,_⟩:=World.ownsMap.look_ok (t:=239) (e:=3) P qX underlying239 (xC _) (plainElem_int underlying3 (by decide)) (key:=.int .i64 a) (keyOf_int_mk underlying3 (WalkArith.wf_i64 (by omega)));rw[rB]at O;have a0:c.getD a (0,0)=(b,h):=by simp[List.getD,l]
   by_cases f:0≤H.getD a 0
   ·rw[decide_eq_true (⟨by have:=U G;omega,f⟩:a<H.length∧0≤H.getD a 0)]at O;have D:aN H (a+1)=aN H a+1:=jE f;have g:pick H (fun a=>bX H (c.getD a (0,0))) (a+1)=pick H (fun a=>bX H (c.getD a (0,0))) a++[bX H (b,h)]:=by
     conv=>lhs;unfold pick
     rw[if_pos f,a0]
    have j4:=ja H a;have I:=R D;by_cases x:b=9∨b=10
    ·obtain⟨r,e0,j5,e1⟩:=(U g3) a _ l f x;simp only at e0;subst e0;obtain⟨g7,h7,a8,_⟩:=World.ownsMap.lookup_int (t:=239) (e:=3) (q:=.i64) P qX underlying239 underlying3 (xC _) (key:=.int .i64 r) (keyOf_int_mk underlying3 (WalkArith.wf_i64 (by have:=U a4;omega)));rw[vU H r e1 _ H.length (by have:=U a4;have:=U G;omega)]at a8;obtain rfl:g7=(aN H r:Nat):=by simpa using a8.symm
     have Q:bX H (b,(r:Int))=(b,((aN H r:Nat):Int)):=by unfold bX;rw[if_pos x];simp
     rw[Q,]at g;have u:=congrArg di g;rw[nJ]at u;have W:=R u;have y:=(U Y);clear D g u a8 P a0 l s F Q e1 f;generalize aN H r=i3 at*;rcases x with rfl|rfl;all_goals go_wp2_with(at_builtin;refine wpList_append_own _ rfl _ _ 67 rfl d.heap.size 72 e5 (.agg #[.int .i64 0,.int .i64 0]) 2 16 underlying67 c5 e2 e3 e4 rfl (by decide) _ _ _ rfl ((y.alloc _).alloc _) ⟨wr.heap.size+1,0,none⟩ 1 1 [.int .i64 _,.int .i64 (i3:Int)] rfl rfl (px _ _ _ _ _ (by simp)) (pw _ _) (by unfold maxLen;omega) (by omega) (by have:=(U e).size;simp;omega) ?_;intro i5 i7 S M _)
     all_goals have A:=R (Below.grown (((U e).alloc _).alloc _) M (by have:=(U e).size;simp;omega) (nd y))
     all_goals have B:=R S
     all_goals clear M S y O h7
     all_goals go_roundw
     case rel=>exact⟨a+1,by omega,by go_num,by rw[U I,U W];exact B,A⟩
     case measure=>simp[intOf];omega
     case rel=>exact⟨a+1,by omega,by go_num,by rw[U I,U W];exact B,A⟩
     case measure=>simp[intOf];omega
    ·have j1:(b==9)=false:=by rw[beq_eq_false_iff_ne];intro j;exact x (.inl j)
     have j0:(b==10)=false:=by rw[beq_eq_false_iff_ne];intro j;exact x (.inr j)
     have Q:bX H (b,h)=(b,h):=by unfold bX;rw[if_neg x]
     rw[Q]at g;have u:=congrArg di g;rw[nJ]at u;have W:=R u;have y:=(U Y);clear D g u P a0 l s F Q f x;go_wp2_with(at_builtin;refine wpList_append_own _ rfl _ _ 67 rfl d.heap.size 72 e5 (.agg #[.int .i64 0,.int .i64 0]) 2 16 underlying67 c5 e2 e3 e4 rfl (by decide) _ _ _ rfl ((y.alloc _).alloc _) ⟨wr.heap.size+1,0,none⟩ 1 1 [.int .i64 b,.int .i64 h] rfl rfl (px _ _ _ _ _ (by simp)) (pw _ _) (by unfold maxLen;omega) (by omega) (by have:=(U e).size;simp;omega) ?_;intro i5 i7 S M _);have A:=R (Below.grown (((U e).alloc _).alloc _) M (by have:=(U e).size;simp;omega) (nd y));have B:=R S;clear M S y O;go_roundw;case rel=>exact⟨a+1,by omega,by go_num,by rw[U I,U W];exact B,A⟩
     case measure=>simp[intOf];omega
   ·rw[decide_eq_false (fun h4=>f h4.2)]at O;have D:aN H (a+1)=aN H a:=by
     conv=>lhs;unfold aN
     rw[if_neg f]
    have g:pick H (fun a=>bX H (c.getD a (0,0))) (a+1)=pick H (fun a=>bX H (c.getD a (0,0))) a:=by
     conv=>lhs;unfold pick
     rw[if_neg f]
    have I:=R D;have g5:=R g;have B:=R ((U Y).alloc (.cells #[.int .i64 b,.int .i64 h] 72));have A:=R ((U e).alloc (.cells #[.int .i64 b,.int .i64 h] 72));clear D g P a0 l s F f;go_wp2;go_roundw;case rel=>exact⟨a+1,by omega,by go_num,by rw[U I,U g5];exact B,A⟩
    case measure=>simp[intOf];omega
  ·have c7:a=H.length:=by have:=U G;omega
   have a7:=U Y;rw[c7]at a7;have b4:w.heap.size+1<d.heap.size:=(Array.getElem?_eq_some_iff.1 (U b7)).1;have b0:∀u0 u1 u2,dR d.heap.size (((wr.setCell ⟨w.heap.size+1,0,none⟩ u0).setCell ⟨w.heap.size+1,1,none⟩ u1).setCell ⟨w.heap.size+1,2,none⟩ u2) _ (dJ H c):=fun u0 u1 u2=>tm (c:=dJ H c) (ownsRow_setCell_below (ownsRow_setCell_below (ownsRow_setCell_below a7 b4 u0) b4 u1) b4 u2) (iq H c).symm (by rw[iq];have:=ja H H.length;have:=U G;omega);have E:=aw (U e) (U e9);have k:=aw (U e) (U b7);have h1:=ab E 0;have h2:=ab E 1;have g8:=ab k 0;have g9:=ab k 1;have h0:=ab k 2;have j8:=an k 0;have j9:=an k 1;have k1:=an k 2;simp only[List.getElem?_toArray,List.getElem?_cons_zero,List.getElem?_cons_succ]at h1 h2 g8 g9 h0;obtain⟨e8,b9,h6,_,_⟩:=b0 undef undef undef;subst h6;have g1:=R b0;have g6:=R k;clear c7 a7 b0 E k;go_wp2;have b3:=ay (ay (ay (U g6) 0 (.int .i64 t)) 1 (.int .i64 lo)) 2 (.slice e8 (dJ H c).length b9);have k0:=ab b3 0;have e6:=ab b3 1;have e7:=ab b3 2;simp only[Array.setIfInBounds,List.size_toArray,List.length_cons,List.length_nil]at k0 e6 e7;refine bodyPost_ret (v:=.agg #[.int .i64 t,.int .i64 lo,.slice e8 (dJ H c).length b9]) (by simp[results,results198,go_sem,k0,e6,e7]) rfl ?_;exact⟨_,rfl,((U g1) _ _ _).mono (U X).size,((((U X).trans (U e)).setCell (p:=⟨w.heap.size+1,0,none⟩) (Nat.le_succ _) _).setCell (p:=⟨w.heap.size+1,1,none⟩) (Nat.le_succ _) _).setCell (p:=⟨w.heap.size+1,2,none⟩) (Nat.le_succ _) _⟩
def je(p:List Fn)(f:Int):Fn×Int:=if(bH p f).2=0 then(dQ p f.toNat,0)else(Fn.zero,(bH p f).2)
def pN(g:Fn)(b:Int)(w:World)(e:Ending)(w':World):Prop:=∃a,e=.returned (.tuple #[.agg #[.int .i64 g.args,.int .i64 g.locals,a],.int .i64 b])∧dR w.heap.size w' a g.code∧J w w'
theorem dR.nil(N:Nat)(w:World):dR N w (.slice none 0 0) []:=⟨none,0,rfl,by simp,fun b c a=>by simp at a⟩
theorem Dg{p:List Fn}{g:Fn}{H:List Int}(i:Cons p g.code H)(f:∀a,a∈g.code→bu p g a=0):pF H g.code:=by
 intro h a c m d;have k:h<g.code.length:=(List.getElem?_eq_some_iff.1 c).1;obtain⟨_,_,e⟩:=ei (f a (List.mem_of_getElem? c));have l:bA a.1.toNat=3:=by rcases d with b|b<;>rw[b]<;>rfl
 rw[l]at e;have q:=cZ.1 (show aX a.2 g.code.length=true from e);have j:a.2.toNat∈bx a h:=by
  unfold bx;rcases d with b|b;·rw[if_neg (by omega),if_pos b];simp
  ·rw[if_neg (by omega),if_neg (by omega),if_pos b];simp
 obtain⟨n,o⟩:=rl i ⟨g,rfl,f⟩ k m c j;exact⟨a.2.toNat,by omega,n,o⟩
theorem Ji(p:List Fn)(v:Value)(f:Int)(w:World)(g:aK w v p)(j:bm w)(k:(bH p f).2≠0):Calls prog 181 #[v,.int .i64 f] w fun i x=>pN Fn.zero (bH p f).2 w i x:=by
 obtain⟨B,y,rfl,_,_⟩:=id g;have z:((bH p f).2 !=0)=true:=by rw[bne_iff_ne];exact k
 have c:=mG p _ f (w.alloc (.cells #[.int .i64 0,.int .i64 0,.slice none 0 0] 69)) (g.kept ((J.refl w).alloc _)) (j.kept ((J.refl w).alloc _));unfold iO at c;generalize(bH p f).2=u at*;generalize(bH p f).1=A at*;have h:=R c;clear g j k c;go_enter func181,ntmps181;go_wp2_with fail;refine(U h).mono ?_;rintro i C⟨u1,rfl,_,d⟩;have a:=aw d (ah (b:=w.heap.size) (o:=.cells #[.int .i64 0,.int .i64 0,.slice none 0 0] 69) rfl);have r:=ab a 0;have s:=ab a 1;have t:=ab a 2;have D:=an a 0;have E:=an a 1;have F:=an a 2;simp only[List.getElem?_toArray,List.getElem?_cons_zero,List.getElem?_cons_succ]at r s t;have n:=R (((J.refl w).alloc _).trans d);have q:=R a;clear d h a;go_wp2;have e:=ay (ay (ay (U q) 0 (.int .i64 0)) 1 (.int .i64 0)) 2 (.slice none 0 0);have k0:=ab e 0;have l:=ab e 1;have m:=ab e 2;simp only[Array.setIfInBounds,List.size_toArray,List.length_cons,List.length_nil]at k0 l m;refine bodyPost_ret (v:=.tuple #[.agg #[.int .i64 0,.int .i64 0,.slice none 0 0],.int .i64 u]) (by simp[results,results181,go_sem,k0,l,m]) rfl ?_;exact⟨.slice none 0 0,rfl,dR.nil _ _,(((U n).setCell (p:=⟨w.heap.size,0,none⟩) (Nat.le_refl _) _).setCell (p:=⟨w.heap.size,1,none⟩) (Nat.le_refl _) _).setCell (p:=⟨w.heap.size,2,none⟩) (Nat.le_refl _) _⟩
theorem Jj(p:List Fn)(i b o n cap t m j h:Nat)(H:List Int)(g:Fn)(w:World)(M:aK w (.slice (some ⟨b,o,none⟩) n cap) p)(K:bm w)(b9:i<n)(A:w.cell? ⟨b,o+i*3,none⟩=some (.int .i64 g.args))(B:w.cell? ⟨b,o+i*3+1,none⟩=some (.int .i64 g.locals))(C:w.cell? ⟨b,o+i*3+2,none⟩=some (.slice (some ⟨h,t,none⟩) m j))(G:ev w (.slice (some ⟨h,t,none⟩) m j) g.code)(L:m=g.code.length)(b2:m≤24)(c0:0<m)(E:bH p i=(H,0))(F:m=H.length)(I:pF H g.code):Calls prog 181 #[.slice (some ⟨b,o,none⟩) n cap,.int .i64 i] w fun k b4=>pN ⟨g.args,g.locals,dJ H g.code⟩ 0 w k b4:=by have d:=mG p _ i (w.alloc (.cells #[.int .i64 0,.int .i64 0,.slice none 0 0] 69)) (M.kept ((J.refl w).alloc _)) (K.kept ((J.refl w).alloc _));unfold iO at d;rw[E]at d;have x:=R d;have W:=R A;have X:=R B;have Y:=R C;have a1:=R G;have a4:=R L;have f:=R F;have a3:=R I;clear M K A B C G L E F I d;go_enter func181,ntmps181;go_wp2_with fail;refine(U x).mono ?_;rintro k u⟨u1,rfl,e,q⟩;obtain⟨a6,b3,a7,rfl,_⟩:=e.opened (by have:=U f;omega);rw[←U f]at e⊢;have T:=aw q (ah (b:=w.heap.size) (o:=.cells #[.int .i64 0,.int .i64 0,.slice none 0 0] 69) rfl);have c:=((J.refl w).alloc _).trans q;have b6:=c.cell (U W);have b7:=c.cell (U X);have b8:=c.cell (U Y);have P:=Jp H g.code g.args g.locals h t m j a6 b3 a7 u ((U a1).kept c) e (U a4) (U f) b2 (U a3);have y:=R P;have Z:=R c;have z:=R T;clear q x T P e c;go_wp2_with fail;refine(U y).mono ?_;rintro k c1⟨b5,rfl,l,r⟩;have a:=aw r (U z);have a8:=ab a 0;have a9:=ab a 1;have b0:=ab a 2;have c2:=an a 0;have c3:=an a 1;have c4:=an a 2;simp only[List.getElem?_toArray,List.getElem?_cons_zero,List.getElem?_cons_succ]at a8 a9 b0;have a0:=R ((U Z).trans r);have a5:=R a;have O:w.heap.size<u.heap.size:=(Array.getElem?_eq_some_iff.1 (U z)).1;obtain⟨V,D,b1,_,_⟩:=id l;subst b1;have a2:=R l;clear r y a l;go_wp2;have s:=ay (ay (ay (U a5) 0 (.int .i64 g.args)) 1 (.int .i64 g.locals)) 2 (.slice V (dJ H g.code).length D);have k0:=ab s 0;have Q:=ab s 1;have S:=ab s 2;simp only[Array.setIfInBounds,List.size_toArray,List.length_cons,List.length_nil]at k0 Q S;refine bodyPost_ret (v:=.tuple #[.agg #[.int .i64 g.args,.int .i64 g.locals,.slice V (dJ H g.code).length D],.int .i64 0]) (by simp[results,results181,go_sem,k0,Q,S]) rfl ?_;refine⟨_,rfl,?_,(((U a0).setCell (p:=⟨w.heap.size,0,none⟩) (Nat.le_refl _) _).setCell (p:=⟨w.heap.size,1,none⟩) (Nat.le_refl _) _).setCell (p:=⟨w.heap.size,2,none⟩) (Nat.le_refl _) _⟩;refine dR.mono (N:=u.heap.size) ((U a2).Ks O ?_) (Nat.le_of_lt O);exact(((aA.refl w.heap.size _).setCell (p:=⟨w.heap.size,0,none⟩) (.inl rfl) _).setCell (p:=⟨w.heap.size,1,none⟩) (.inl rfl) _).setCell (p:=⟨w.heap.size,2,none⟩) (.inl rfl) _
theorem CG{p:List Fn}{f:Int}(b:(bH p f).2=0):∃a:Nat,f=a∧bo p a=0∧bG p (codeOf p a)=some (fe p a)∧bH p f=(fe p a,0):=by
 unfold bH at b⊢;split at b
 ·rename_i c;obtain⟨a,rfl,_⟩:=gN c;rw[if_pos c]at*;rw[Int.toNat_natCast]at*;refine⟨a,rfl,c,?_⟩;unfold fe codeOf;cases d:bG p (p.getD a Fn.zero).code with
  |none=>rw[d]at b;cases b
  |some e=>exact⟨rfl,rfl⟩
 ·rename_i c;exact absurd b c
theorem Jh(p:List Fn)(v:Value)(f:Int)(w:World)(d:aK w v p)(i:bm w):Calls prog 181 #[v,.int .i64 f] w fun t H=>pN (je p f).1 (je p f).2 w t H:=by
 by_cases b:(bH p f).2=0
 ·obtain⟨a,rfl,z,B,A⟩:=CG b;have e:je p a=(dQ p a,0):=by unfold je;rw[if_pos b,Int.toNat_natCast]
  rw[e];obtain⟨E,K,h,D,L,j⟩:=gN z;obtain rfl:a=E:=by omega
  have u:du p (codeOf p a):=⟨p.getD a Fn.zero,rfl,gh j⟩;obtain⟨c,_⟩:=iV u B;have C:(fe p a).length=(p.getD a Fn.zero).code.length:=c.len;have k:0<(p.getD a Fn.zero).code.length:=c.pos;obtain⟨M,r,rfl,_,y⟩:=id d;obtain⟨l,F,I,rfl,n,o,q,g⟩:=y a _ (aD p a Fn.zero h);obtain⟨N,s,rfl,_,x⟩:=id g;obtain⟨m,G,rfl,_,_⟩:=x 0 _ (aD _ 0 (0,0) k);exact Jj p a l F _ r G _ s m (fe p a) _ w d i h n o q g rfl D k A C.symm (Dg c (gh j))
 ·have e:je p f=(Fn.zero,(bH p f).2):=by unfold je;rw[if_neg b]
  rw[e];exact Ji p v f w d i b
