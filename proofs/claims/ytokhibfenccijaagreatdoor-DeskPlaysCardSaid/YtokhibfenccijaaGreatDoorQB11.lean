import Derived.Test.YtokhibfenccijaaGreatDoorQB05
import Derived.Test.YtokhibfenccijaaGreatDoorQB06
import Derived.Test.YtokhibfenccijaaGreatDoorQB07
import Derived.Test.YtokhibfenccijaaGreatDoorQB08
import Derived.Test.YtokhibfenccijaaGreatDoorQB09
import Derived.Test.YtokhibfenccijaaGreatDoorQB10
import Derived.RangeFuncNested
import Derived.RangeFuncBound
import Derived.Shelf.RegionOpen
import Derived.OwnWalkIn
import Derived.LoopNIn
import Derived.LoopIn
set_option maxRecDepth 100000
set_option maxHeartbeats 8000000
namespace Go.Proofs.YtokhibfenccijaaGreatDoor
open Go.Proofs.Tryz
open Go.RowKit
structure me(w:World)(p:List Fn)(f:Fn)(v:Value)(b a:Nat):Prop where
 prog:aK w v p
 cp:w.cell? ⟨b,0,none⟩=some v
 cl:w.cell? ⟨a,1,none⟩=some (.int .i64 f.locals)
 cc:∃d c,w.cell? ⟨a,2,none⟩=some (.slice d f.code.length c)
theorem me.kept{w w':World}{p:List Fn}{f:Fn}{v:Value}{c b:Nat}(a:me w p f v c b)(k:J w w'):me w' p f v c b:=⟨a.prog.kept k,k.cell a.cp,k.cell a.cl,by obtain⟨g,d,e⟩:=a.cc;exact⟨g,d,k.cell e⟩⟩
theorem Fw(k:Nat)(a:k<17):bA k=0∨bA k=1∨bA k=2∨bA k=3∨bA k=4:=by
 have:∀k:Fin 17,bA k=0∨bA k=1∨bA k=2∨bA k=3∨bA k=4:=by decide
 exact this ⟨k,a⟩
theorem lD{p:List Fn}{f:Fn}{k:Nat}{a:Int}(c:k<17)(b:bZ p f (bA k) a=false):bu p f (k,a)=3:=by unfold bu;rw[if_pos ⟨by simp,by simp;omega⟩];simp[b]
theorem mP{p:List Fn}{f:Fn}{k:Nat}{a:Int}(c:k<17)(b:bZ p f (bA k) a=true)(d:k≠13):bu p f (k,a)=0:=by
 unfold bu;rw[if_pos ⟨by simp,by simp;omega⟩];have:¬((k:Int)=13):=by omega
 simp[b,this]
theorem yX(p:List Fn)(f:Fn)(v:Value)(t a:Int)(j i:Nat)(w:World)(H:bm w)(r:me w p f v j i):Calls prog 85 #[v,.agg #[.int .i64 t,.int .i64 a],da j i] w fun h L=>h=.returned (.int .i64 (bu p f (t,a)))∧J w L:=by
 by_cases y:0≤t∧t<17
 ·obtain⟨l,rfl⟩:=Int.eq_ofNat_of_zero_le y.1;have e:l<17:=by omega
  have k:w.cell? ⟨2,l*3+2,none⟩=some (.int .i64 (bA l)):=H (l*3+2) (by omega);obtain⟨K,E,F⟩:=r.cc;by_cases s:l=13
  ·subst s;have c:∀b,J w b→Calls prog 118 #[.int .i64 a,.pointer (some ⟨j,0,none⟩)] b fun h m=>h=.returned (.bool (bZ p f 4 a))∧J b m:=fun b n=>vj p v a j b (n.cell r.cp) (r.prog.kept n);have g:bA 13=4:=rfl;rw[g]at k;cases d:bZ p f 4 a with
   |false=>rw[d]at c;rw[lD e (by rw[g];exact d)];exact tg 13 a v e j i w k c
   |true=>
    rw[d]at c;have C:aX a p.length=true:=by have:=d;simp only[bZ]at this;rw[if_neg (by decide),if_neg (by decide),if_neg (by decide),if_neg (by decide),Bool.and_eq_true]at this;exact this.1
    rw[cZ]at C;obtain⟨o,rfl⟩:=Int.eq_ofNat_of_zero_le C.1;obtain⟨O,B,rfl,N,G⟩:=r.prog;obtain⟨z,D,M,rfl,A,_⟩:=G o _ (aD p o Fn.zero (by omega));have h:bu p f (((13:Nat):Int),(o:Int))=if(p.getD o Fn.zero).args≠1 then 1 else 0:=by unfold bu;rw[if_pos ⟨by simp,by simp⟩];have I:bA ((((13:Nat):Int),(o:Int)).1).toNat=4:=rfl;rw[I,d,if_pos rfl];simp
    rw[h];by_cases x:(p.getD o Fn.zero).args=1;·rw[if_neg (by simpa using x)];exact yV o z D p.length B _ j i w k c (by omega) A (by rw[x];rfl)
    ·rw[if_pos x];exact yW o z D p.length B _ j i w k c (by omega) A (by rw[bne_iff_ne];exact x)
  ·have u:((l:Int)==13)=false:=beq_eq_false_iff_ne.2 (by omega);rcases Fw l e with g|g|g|g|g
   ·rw[g]at k;have c:∀b,J w b→Calls prog 114 #[.int .i64 a] b fun h m=>h=.returned (.bool (bZ p f 0 a))∧J b m:=fun b _=>(DS a b).mono fun h m⟨q,h2⟩=>⟨by rw[q];simp only[bZ];rw[if_pos trivial];rfl,h2▸J.refl _⟩;cases d:bZ p f 0 a with
    |false=>rw[d]at c;rw[lD e (by rw[g];exact d)];exact yM l a v e j i w k c
    |true=>rw[d]at c;rw[mP e (by rw[g];exact d) s];exact yN l a v e u j i w k c
   ·rw[g]at k;have c:∀b,J w b→Calls prog 115 #[.int .i64 a] b fun h m=>h=.returned (.bool (bZ p f 1 a))∧J b m:=fun b _=>(DT a b).mono fun h m⟨q,h2⟩=>⟨q,h2▸J.refl _⟩;cases d:bZ p f 1 a with
    |false=>rw[d]at c;rw[lD e (by rw[g];exact d)];exact yO l a v e j i w k c
    |true=>rw[d]at c;rw[mP e (by rw[g];exact d) s];exact yP l a v e u j i w k c
   ·rw[g]at k;have c:∀b,J w b→Calls prog 116 #[.int .i64 a,.pointer (some ⟨i,0,none⟩)] b fun h m=>h=.returned (.bool (bZ p f 2 a))∧J b m:=fun b n=>(DU a f.locals i b (n.cell r.cl)).mono fun h m⟨q,h2⟩=>⟨q,h2▸J.refl _⟩;cases d:bZ p f 2 a with
    |false=>rw[d]at c;rw[lD e (by rw[g];exact d)];exact yQ l a v e j i w k c
    |true=>rw[d]at c;rw[mP e (by rw[g];exact d) s];exact yR l a v e u j i w k c
   ·rw[g]at k;have c:∀b,J w b→Calls prog 117 #[.int .i64 a,.pointer (some ⟨i,0,none⟩)] b fun h m=>h=.returned (.bool (bZ p f 3 a))∧J b m:=fun b n=>(DV a i K f.code.length E b (n.cell F)).mono fun h m⟨q,h2⟩=>⟨q,h2▸J.refl _⟩;cases d:bZ p f 3 a with
    |false=>rw[d]at c;rw[lD e (by rw[g];exact d)];exact yS l a v e j i w k c
    |true=>rw[d]at c;rw[mP e (by rw[g];exact d) s];exact yT l a v e u j i w k c
   ·rw[g]at k;have c:∀b,J w b→Calls prog 118 #[.int .i64 a,.pointer (some ⟨j,0,none⟩)] b fun h m=>h=.returned (.bool (bZ p f 4 a))∧J b m:=fun b n=>vj p v a j b (n.cell r.cp) (r.prog.kept n);cases d:bZ p f 4 a with
    |false=>rw[d]at c;rw[lD e (by rw[g];exact d)];exact tg l a v e j i w k c
    |true=>rw[d]at c;rw[mP e (by rw[g];exact d) s];exact yU l a v e u j i w k c
 ·have h:bu p f (t,a)=4:=by unfold bu;rw[if_neg y]
  rw[h];exact yY t a v j i w (gQ y)
theorem zc(f:Int)(c:Option Addr)(n cap:Nat)(w:World)(d:aX f n=false):Calls prog 56 #[.slice c n cap,.int .i64 f] w fun a b=>a=.returned (.int .i64 5)∧J w b:=by go_enter func56,ntmps56;go_wp2_with(go_at_call 82;refine(dI _ _ _).mono ?_;rintro a b⟨rfl,rfl⟩);go_ret;exact⟨rfl,J.refl _⟩
theorem zb(i b o n cap:Nat)(e:Option Addr)(m d:Nat)(w:World)(h:i<n)(f:w.cell? ⟨b,o+i*3+2,none⟩=some (.slice e m d))(j:24<(m:Int)):Calls prog 56 #[.slice (some ⟨b,o,none⟩) n cap,.int .i64 i] w fun a c=>a=.returned (.int .i64 2)∧J w c:=by have g:aX i n=true:=dV (by omega) (by omega);go_enter func56,ntmps56;go_wp2_with(go_at_call 82;refine(dI _ _ _).mono ?_;rintro a c⟨rfl,rfl⟩);go_ret;exact⟨rfl,J.refl _⟩
theorem zf(i b o n cap:Nat)(d lo:Int)(f:Option Addr)(m e:Nat)(w:World)(l:i<n)(g:w.cell? ⟨b,o+i*3,none⟩=some (.int .i64 d))(h:w.cell? ⟨b,o+i*3+1,none⟩=some (.int .i64 lo))(j:w.cell? ⟨b,o+i*3+2,none⟩=some (.slice f m e))(p:¬24<(m:Int))(q:cI d lo=false):Calls prog 56 #[.slice (some ⟨b,o,none⟩) n cap,.int .i64 i] w fun a c=>a=.returned (.int .i64 3)∧J w c:=by have k:aX i n=true:=dV (by omega) (by omega);go_enter func56,ntmps56;go_wp2_with(first|(go_at_call 82;refine(dI _ _ _).mono ?_;rintro a c⟨rfl,rfl⟩)|(go_at_call 83;refine(qF _ _ _ _).mono ?_;rintro a c⟨rfl,rfl⟩));go_ret;exact⟨rfl,(J.refl _).alloc _⟩
theorem vL{p:List Fn}{f:Fn}{c:List (Int×Int)}{k:Nat}{x:Int×Int}(a:c[k]?=some x):dY p f (c.drop k)=if bu p f x=0 then dY p f (c.drop (k+1))else bu p f x:=by have b:k<c.length:=(List.getElem?_eq_some_iff.1 a).1;have d:c[k]=x:=(List.getElem?_eq_some_iff.1 a).2;rw[List.drop_eq_getElem_cons b,d];rfl
theorem ze(p:List Fn)(f:Fn)(i b o cap:Nat)(e:Option Addr)(m d:Nat)(w:World)(Z:bm w)(a2:aK w (.slice (some ⟨b,o,none⟩) p.length cap) p)(c6:i<p.length)(O:w.cell? ⟨b,o+i*3,none⟩=some (.int .i64 f.args))(P:w.cell? ⟨b,o+i*3+1,none⟩=some (.int .i64 f.locals))(Q:w.cell? ⟨b,o+i*3+2,none⟩=some (.slice e m d))(X:ev w (.slice e m d) f.code)(a1:m=f.code.length)(c8:m≤24)(e0:cI f.args f.locals=true):Calls prog 56 #[.slice (some ⟨b,o,none⟩) p.length cap,.int .i64 i] w fun r L=>r=.returned (.int .i64 (dY p f f.code))∧J w L:=by
 have c5:aX i p.length=true:=dV (by omega) (by omega);have c9:¬24<(m:Int):=by omega
 have a9:Hid (aK w (.slice (some ⟨b,o,none⟩) p.length cap) p):=a2;have a7:Hid (bm w):=Z;have a5:Hid (ev w (.slice e m d) f.code):=X;have A:Hid (m=f.code.length):=a1;clear a2 Z X a1;have b3:(w.alloc (.cells #[.int .i64 f.args,.int .i64 f.locals,.slice e m d] 69)).cell? ⟨b,o+i*3,none⟩=some (.int .i64 f.args):=((J.refl w).alloc _).cell O;have b4:(w.alloc (.cells #[.int .i64 f.args,.int .i64 f.locals,.slice e m d] 69)).cell? ⟨b,o+i*3+1,none⟩=some (.int .i64 f.locals):=((J.refl w).alloc _).cell P;have S:(w.alloc (.cells #[.int .i64 f.args,.int .i64 f.locals,.slice e m d] 69)).cell? ⟨b,o+i*3+2,none⟩=some (.slice e m d):=((J.refl w).alloc _).cell Q;go_enter func56,ntmps56;go_wp2_with(first|(go_at_call 82;refine(dI _ _ _).mono ?_;rintro r L⟨rfl,rfl⟩)|(go_at_call 83;refine(qF _ _ _ _).mono ?_;rintro r L⟨rfl,rfl⟩));refine(yv _ _ _ _ _ _ _ _ _).mono ?_;rintro r j⟨s,k,h,W,V,T,F⟩;unfold da at h;subst h;have b5:∀a3,(j.alloc a3).cell? ⟨b,o+i*3+2,none⟩=some (.slice e m d):=fun a3=>((J.refl j).alloc _).cell (F.cell S);have y:Hid (J w j):=J.trans ((J.refl w).alloc _) F;have a8:Hid (me j p f (.slice (some ⟨b,o,none⟩) p.length cap) s k):=⟨a9.out.kept y.out,W,V,⟨e,d,by rw[←A.out];exact T⟩⟩;clear b3 b4 S W V T F O P Q;go_wp2;generalize E:j.alloc (.cells #[.func (.func 114) #[] #[],.func (.func 115) #[] #[],.func (.func 116) #[] #[.pointer (some ⟨k,0,none⟩)],.func (.func 117) #[] #[.pointer (some ⟨k,0,none⟩)],.func (.func 118) #[] #[.pointer (some ⟨s,0,none⟩)]] 135)=t;have q:Hid (∀I,J t I→∀v K,(#[Value.func (.func 114) #[] #[],.func (.func 115) #[] #[],.func (.func 116) #[] #[.pointer (some ⟨k,0,none⟩)],.func (.func 117) #[] #[.pointer (some ⟨k,0,none⟩)],.func (.func 118) #[] #[.pointer (some ⟨s,0,none⟩)]])[v]?=some K→I.cell? ⟨j.heap.size,v,none⟩=some K):=by intro I b7 v K b8;refine b7.cell ?_;rw[←E];exact(ab (ah rfl) v).trans b8
 have x:Hid (J j t):=by rw[←E];exact(J.refl _).alloc _
 clear E b5;go_loopw[39](fun i wr=>∃c:Nat,c≤m∧i=.int .i64 c∧Hid (dY p f (f.code.drop c)=dY p f f.code)∧Hid (J t wr))(fun i _=>m-(intOf i).toNat);case atStart=>exact⟨0,Nat.zero_le _,rfl,rfl,J.refl _⟩
 case round=>
  obtain⟨c,c7,rfl,B,g⟩:=hrel;by_cases b6:c<m
  ·obtain⟨a,H⟩:∃a,f.code[c]?=some a:=⟨f.code[c]'(by rw[←A.out];exact b6),List.getElem?_eq_getElem _⟩;have D:J w wr:=y.out.trans (x.out.trans g.out);obtain⟨e2,b2,h,_,Y⟩:=a5.out.kept D;obtain⟨b1,b9,rfl,e3,e4⟩:=Y c a H;obtain⟨rfl,-,-⟩:=(by simpa using h:e=some ⟨b1,b9,none⟩∧m=f.code.length∧d=b2);have b0:Hid (f.code[c]?=some a):=H;have N:Hid (J w wr):=D;have c0:=q.out _ (g.out.alloc (.cells #[.int .i64 a.1,.int .i64 a.2] 72)) 0 _ rfl;have c1:=q.out _ (g.out.alloc (.cells #[.int .i64 a.1,.int .i64 a.2] 72)) 1 _ rfl;have c2:=q.out _ (g.out.alloc (.cells #[.int .i64 a.1,.int .i64 a.2] 72)) 2 _ rfl;have c3:=q.out _ (g.out.alloc (.cells #[.int .i64 a.1,.int .i64 a.2] 72)) 3 _ rfl;have c4:=q.out _ (g.out.alloc (.cells #[.int .i64 a.1,.int .i64 a.2] 72)) 4 _ rfl;clear Y h H D;have G:=yX p f (.slice (some ⟨b,o,none⟩) p.length cap) a.1 a.2 s k (wr.alloc (.cells #[.int .i64 a.1,.int .i64 a.2] 72)) (a7.out.kept (N.out.alloc _)) (a8.out.kept ((x.out.trans g.out).alloc _));unfold da at G;have M:=R G;clear G;have l:=vL (p:=p) (f:=f) b0.out;go_wp2_with fail;refine(U M).mono ?_;clear M;rintro r a4⟨h,u⟩;by_cases n:bu p f a=0
   ·rw[if_pos n]at l;rw[show bu p f (a.1,a.2)=0 from n]at h;subst h;have C:=R l;have z:Hid (J t a4):=J.trans (g.out.alloc _) u;clear l n u;go_wp2;go_roundw;case rel=>exact⟨c+1,by omega,by go_num,(U C).symm.trans B.out,z⟩
    case measure=>simp[intOf];omega
   ·rw[if_neg n]at l;have e1:(bu p f (a.1,a.2)!=0)=true:=by rw[bne_iff_ne];exact n
    have C:=R l;have z:Hid (J w a4):=J.trans (N.out.alloc _) u;clear l n u;subst h;go_wp2;go_ret;exact⟨by rw[←B.out,U C];rfl,z⟩
  ·have a0:c=f.code.length:=by have:=A.out;omega
   have a6:=R a0;clear a0;go_wp2;go_ret;refine⟨?_,y.out.trans (x.out.trans g.out)⟩;rw[←B.out,U a6,List.drop_length];rfl
theorem pW(p:List Fn)(v:Value)(f:Int)(w:World)(o:aK w v p)(u:bm w):Calls prog 56 #[v,.int .i64 f] w fun r z=>r=.returned (.int .i64 (bo p f))∧J w z:=by
 have x:=o;obtain⟨y,b,rfl,B,t⟩:=o;unfold bo;by_cases d:0≤f∧f<p.length
 ·rw[if_pos d];obtain⟨a,rfl⟩:=Int.eq_ofNat_of_zero_le d.1;obtain⟨e,i,A,rfl,k,l,g,m⟩:=t a _ (aD p a Fn.zero (by omega));have s:=m;obtain⟨j,h,rfl,_,_⟩:=m;rw[Int.toNat_natCast];generalize p.getD a Fn.zero=c at*;by_cases n:24<c.code.length;·simp only[if_pos n];exact zb a e i p.length b j _ h w (by omega) g (by omega)
  ·simp only[if_neg n];cases q:cI c.args c.locals with
   |false=>rw[if_neg (by decide)];exact zf a e i p.length b _ _ j _ h w (by omega) k l g (by omega) q
   |true=>rw[if_pos rfl];exact ze p c a e i b j _ h w u x (by omega) k l g s rfl (by omega) q
 ·rw[if_neg d];exact zc f y p.length b w (gQ d)
theorem Bc(c a:Int)(v:Value)(w:World)(e:aX c 17=false):Calls prog 153 #[v,.agg #[.int .i64 c,.int .i64 a]] w fun b d=>b=.returned (.tuple #[.int .i64 0,.int .i64 0,.int .i64 4])∧J w d:=by go_enter func153,ntmps153;go_wp2_with(go_at_call 82;refine(dI _ _ _).mono ?_;rintro b d⟨rfl,rfl⟩);go_ret3;exact⟨rfl,(J.refl _).alloc _⟩
theorem Bh(k:Nat)(a:Int)(v:Value)(w:World)(b:bm w)(e:aX k 17=true)(j:((k:Int)!=11)=true):Calls prog 153 #[v,.agg #[.int .i64 k,.int .i64 a]] w fun c d=>c=.returned (.tuple #[.int .i64 (tk k),.int .i64 (lv k),.int .i64 0])∧J w d:=by
 have i:k<17:=by rw[cZ]at e;omega
 have f:(w.alloc (.cells #[.int .i64 k,.int .i64 a] 72)).cell? ⟨2,k*3,none⟩=some (.int .i64 (tk k)):=(J.alloc (J.refl w) _).cell (b (k*3) (by omega));have g:(w.alloc (.cells #[.int .i64 k,.int .i64 a] 72)).cell? ⟨2,k*3+1,none⟩=some (.int .i64 (lv k)):=(J.alloc (J.refl w) _).cell (b (k*3+1) (by omega));have h:(w.alloc (.cells #[.int .i64 k,.int .i64 a] 72)).cell? ⟨2,k*3+2,none⟩=some (.int .i64 (bA k)):=(J.alloc (J.refl w) _).cell (b (k*3+2) (by omega));clear b;go_enter func153,ntmps153;go_wp2_with(go_at_call 82;refine(dI _ _ _).mono ?_;rintro c d⟨rfl,rfl⟩);go_quiet(fail);go_wp2;go_ret3;exact⟨rfl,(((J.refl _).alloc _).alloc _).drewN _⟩
theorem Bg(a:Int)(e:Option Addr)(n cap:Nat)(w:World)(b:bm w)(j:aX a n=false):Calls prog 153 #[.slice e n cap,.agg #[.int .i64 11,.int .i64 a]] w fun c d=>c=.returned (.tuple #[.int .i64 0,.int .i64 0,.int .i64 5])∧J w d:=by have i:aX 11 17=true:=rfl;have f:(w.alloc (.cells #[.int .i64 11,.int .i64 a] 72)).cell? ⟨2,33,none⟩=some (.int .i64 (tk 11)):=(J.alloc (J.refl w) _).cell (b 33 (by omega));have g:(w.alloc (.cells #[.int .i64 11,.int .i64 a] 72)).cell? ⟨2,34,none⟩=some (.int .i64 (lv 11)):=(J.alloc (J.refl w) _).cell (b 34 (by omega));have h:(w.alloc (.cells #[.int .i64 11,.int .i64 a] 72)).cell? ⟨2,35,none⟩=some (.int .i64 (bA 11)):=(J.alloc (J.refl w) _).cell (b 35 (by omega));clear b;go_enter func153,ntmps153;go_wp2_with(go_at_call 82;refine(dI _ _ _).mono ?_;rintro c d⟨rfl,rfl⟩);go_ret3;exact⟨rfl,(((J.refl _).alloc _).alloc _)⟩
theorem Bd(i b o n cap:Nat)(c:Int)(w:World)(a:bm w)(p:i<n)(e:w.cell? ⟨b,o+i*3,none⟩=some (.int .i64 c)):Calls prog 153 #[.slice (some ⟨b,o,none⟩) n cap,.agg #[.int .i64 11,.int .i64 i]] w fun d f=>d=.returned (.tuple #[.int .i64 c,.int .i64 1,.int .i64 0])∧J w f:=by have l:aX 11 17=true:=rfl;have m:aX i n=true:=dV (by omega) (by omega);have g:(w.alloc (.cells #[.int .i64 11,.int .i64 i] 72)).cell? ⟨2,33,none⟩=some (.int .i64 0):=(J.alloc (J.refl w) _).cell (a 33 (by omega));have h:(w.alloc (.cells #[.int .i64 11,.int .i64 i] 72)).cell? ⟨2,34,none⟩=some (.int .i64 1):=(J.alloc (J.refl w) _).cell (a 34 (by omega));have j:(w.alloc (.cells #[.int .i64 11,.int .i64 i] 72)).cell? ⟨2,35,none⟩=some (.int .i64 4):=(J.alloc (J.refl w) _).cell (a 35 (by omega));have k:((w.alloc (.cells #[.int .i64 11,.int .i64 i] 72)).alloc (.cells #[.int .i64 0,.int .i64 1,.int .i64 4] 154)).cell? ⟨b,o+i*3,none⟩=some (.int .i64 c):=(((J.refl w).alloc _).alloc _).cell e;clear a e;go_enter func153,ntmps153;go_wp2_with(go_at_call 82;refine(dI _ _ _).mono ?_;rintro d f⟨rfl,rfl⟩);go_quiet(fail);go_wp2;go_ret3;exact⟨rfl,(((J.refl _).alloc _).alloc _).drewN _⟩
theorem Bb(p:List Fn)(v:Value)(b a:Int)(w:World)(m:aK w v p)(f:bm w):Calls prog 153 #[v,.agg #[.int .i64 b,.int .i64 a]] w fun k r=>k=.returned (.tuple #[.int .i64 (ct p b a).1,.int .i64 (ct p b a).2.1,.int .i64 (ct p b a).2.2])∧J w r:=by
 unfold ct;by_cases c:0≤b∧b<17
 ·rw[if_pos c];by_cases d:b=11
  ·rw[if_pos d];subst d;obtain⟨q,h,rfl,t,l⟩:=m;by_cases e:0≤a∧a<p.length;·rw[if_pos e];obtain⟨g,rfl⟩:=Int.eq_ofNat_of_zero_le e.1;obtain⟨i,o,s,rfl,j,_⟩:=l g _ (aD p g Fn.zero (by omega));rw[Int.toNat_natCast];exact Bd g i o p.length h _ w f (by omega) j
   ·rw[if_neg e];exact Bg a q p.length h w f (gQ e)
  ·rw[if_neg d];obtain⟨n,rfl⟩:=Int.eq_ofNat_of_zero_le c.1;rw[Int.toNat_natCast];exact Bh n a v w f (dV c.1 c.2) (by rw[bne_iff_ne];exact d)
 ·rw[if_neg c];exact Bc b a v w (gQ c)
theorem Ey(k a:Int)(w:World):Calls prog 55 #[.int .i64 k,.int .i64 a] w fun b c=>b=.returned (.agg #[.int .i64 k,.int .i64 a])∧c=w.alloc (.cells #[.int .i64 k,.int .i64 a] 72):=by go_enter func55,ntmps55;go_wp2;exact bodyPost_ret (v:=.agg #[.int .i64 k,.int .i64 a]) (by simp[results,results55,go_sem]) rfl ⟨rfl,rfl⟩
theorem zw(w:World):Calls prog 24 #[] w fun b a=>∃c,b=.returned c∧jg w.heap.size a c∧J w a:=by
 go_enter func24,ntmps24;go_wp2_with(go_at_call 55;refine(Ey _ _ _).mono ?_;rintro b a⟨rfl,rfl⟩);go_ret;refine⟨_,rfl,⟨w.heap.size+14,w.heap.size+27,w.heap.size+32,w.heap.size+33,by omega,by omega,by omega,by omega,rfl,?_,?_,?_,?_⟩,?_⟩;·repeat(first|exact ah (by simp)|refine au ?_ _)
 ·repeat(first|exact ah (by simp)|refine au ?_ _)
 ·repeat(first|exact ah (by simp)|refine au ?_ _)
 ·repeat(first|exact ah (by simp)|refine au ?_ _)
 ·repeat(refine J.alloc ?_ _)
  exact J.refl _
theorem Be(p:List Fn)(v:Value)(b a c d e:Int)(w:World)(i:aK w v p)(h:bm w)(g:ct p b a=(c,d,e)):Calls prog 153 #[v,.agg #[.int .i64 b,.int .i64 a]] w fun f j=>f=.returned (.tuple #[.int .i64 c,.int .i64 d,.int .i64 e])∧J w j:=by have:=Bb p v b a w i h;rw[g]at this;exact this
theorem za(p:List Fn)(v:Value)(f a:Int)(w:World)(e:aK w v p)(d:bm w)(c:bo p f=a):Calls prog 56 #[v,.int .i64 f] w fun b g=>b=.returned (.int .i64 a)∧J w g:=by have:=pW p v f w e d;rw[c]at this;exact this
theorem Em(w:World):aK w (.slice none 0 0) []:=⟨none,0,rfl,by simp,fun c b a=>by simp at a⟩
def tj:List Fn:=[⟨0,1,(13,2)::jU.tail⟩,⟨1,1,jV⟩,⟨2,2,jW⟩]
theorem jg.kept{a:Nat}{w w':World}{v:Value}(h:jg a w v)(k:J w w'):jg a w' v:=by obtain⟨b0,b1,c,b,i,h2,h3,j,rfl,d,e,f,g⟩:=h;exact⟨b0,b1,c,b,i,h2,h3,j,rfl,aw k d,aw k e,aw k f,aw k g⟩
theorem jg.opened{e:Nat}{w:World}{v:Value}(i:jg e w v):∃a b0,e≤b0∧v=.slice (some ⟨a,0,none⟩) 3 3∧w.cell? ⟨a,2,none⟩=some (.slice (some ⟨b0,0,none⟩) 14 14)∧w.cell? ⟨b0,1,none⟩=some (.int .i64 1)∧w.frozen? ⟨b0,1,none⟩=false∧aK (w.setCell ⟨b0,1,none⟩ (.int .i64 2)) (.slice (some ⟨a,0,none⟩) 3 3) tj:=by
 obtain⟨b0,b1,f,a,j,h2,h3,k,rfl,b,g,h,c⟩:=i;refine⟨a,b0,j,rfl,ab c 2,ab b 1,an b 1,?_⟩;refine vW (bD c (by simp;omega) _) [(⟨0,1,(13,2)::jU.tail⟩,.slice (some ⟨b0,0,none⟩) 14 14),(⟨1,1,jV⟩,.slice (some ⟨b1,0,none⟩) 12 12),(⟨2,2,jW⟩,.slice (some ⟨f,0,none⟩) 4 4)] rfl (by simp) ?_ 3 3 rfl tj rfl;intro l d;simp only[List.mem_cons,List.not_mem_nil,or_false]at d;rcases d with rfl|rfl|rfl;·exact kS (ay b 1 _) ((13,2)::jU.tail) rfl (by decide) 14 14 rfl
 ·exact kS (bD g (by simp;omega) _) jV rfl (by decide) 12 12 rfl
 ·exact kS (bD h (by simp;omega) _) jW rfl (by decide) 4 4 rfl
def sq(p:List Fn)(x:Int×Int)(a:Int)(w:World)(e:Ending)(w':World):Prop:=∃c,e=.returned (.tuple #[.int .i64 c,.bool (dd p x a).isSome])∧(∀b,dd p x a=some b→c=b)∧J w w'
theorem yr(p:List Fn)(g:Fn)(A:Value)(N O:Option Addr)(L F M G:Nat)(x:Int×Int)(e:Int)(w:World)(u:aK w A p)(z:bm w)(m:bu p g x=0)(W:0≤e)(X:e≤8):Calls prog 119 #[.agg #[A,.slice N L F,.slice O M G],.agg #[.int .i64 x.1,.int .i64 x.2],.int .i64 e] w fun y P=>sq p x e w y P:=by
 obtain⟨Z,V,rfl,_,_⟩:=id u;have K:∃f h,ct p x.1 x.2=(f,h,0)∧0≤f∧f≤4∧0≤h∧h≤1:=by
  by_cases o:x.1=11;·obtain⟨_,_,h3,q⟩:=jr m o;refine⟨_,_,q,h3,?_,by decide,by decide⟩;obtain⟨_,_,d⟩:=ei m;rw[o]at d;have:=(nZ (show bZ p g 4 x.2=true from d)).2.2;rw[fg]at this;omega
  ·obtain⟨f,h,H,h2,h3,q,I⟩:=nG m o;exact⟨f,h,H,h2,by omega,q,I⟩
 obtain⟨f,h,r,a1,a2,l0,Y⟩:=K;have a:dd p x e=if f≤e∧¬(x.1=12∧1<e)∧e-f+h≤8 then some (e-f+h)else none:=by unfold dd;rw[r];simp
 have l:=R a;have B:=R r;have D:=R u;have C:=R z;clear r u z a m;go_enter func119,ntmps119;go_wp2_with fail;refine(Be p _ x.1 x.2 f h 0 _ ((U D).kept (((J.refl _).alloc _).alloc _)) ((U C).kept (((J.refl _).alloc _).alloc _)) (U B)).mono ?_;rintro y Q⟨rfl,s⟩;have a0:=s.cell (ab (t:=72) (fr:=(0,0)) (b:=w.heap.size+1) (c:=#[.int .i64 x.1,.int .i64 x.2]) (ah (by simp)) 0);have k:Hid (J w Q):=(((J.refl _).alloc _).alloc _).trans s;clear s;by_cases S:e<f;·go_wp2;go_ret2;have a:=U l;rw[if_neg (by omega)]at a;exact⟨0,by rw[a];rfl,(fun v d=>by rw[a]at d;cases d),k⟩
 ·by_cases i:x.1=12
  ·have E:(x.1==12)=true:=beq_iff_eq.2 i;have n:=R i;clear i;by_cases T:1<e;·go_wp2;go_ret2;have i:=U n;have a:=U l;rw[if_neg (by omega)]at a;exact⟨0,by rw[a];rfl,(fun v d=>by rw[a]at d;cases d),k⟩
   ·go_wp2;go_ret2;have a:=U l;refine⟨e-f+h,?_,fun v d=>?_,k⟩
    ·by_cases j:e-f+h≤8;·rw[a,if_pos (by omega)];simp[j]
     ·rw[a,if_neg (by omega)];simp[j]
    ·rw[a]at d;split at d;·simpa using d
     ·cases d
  ·have E:(x.1==12)=false:=beq_eq_false_iff_ne.2 i;have n:=R i;clear i;go_wp2;go_ret2;have i:=U n;have a:=U l;refine⟨e-f+h,?_,fun v d=>?_,k⟩
   ·by_cases j:e-f+h≤8;·rw[a,if_pos (by omega)];simp[j]
    ·rw[a,if_neg (by omega)];simp[j]
   ·rw[a]at d;split at d;·simpa using d
    ·cases d
theorem BC(c a b:Int)(w:World):Calls prog 120 #[.agg #[.int .i64 c,.int .i64 a],.int .i64 b] w fun d e=>d=.returned (.func (.func 154) #[] #[.pointer (some ⟨w.heap.size,0,none⟩),.pointer (some ⟨w.heap.size+1,0,none⟩)])∧e=(w.alloc (.cells #[.int .i64 c,.int .i64 a] 72)).alloc (.cells #[.int .i64 b] 3):=by go_enter func120,ntmps120;go_wp2;go_ret;exact⟨rfl,rfl⟩
open Go.RowKit Go.Shelf
attribute [local go_sem]Oper.semAt_some
def sy(a:Nat)(b c:World):Prop:=c.cell? ⟨a,0,none⟩=b.cell? ⟨a,0,none⟩
def xM(l xs:List Nat):Prop:=xs=l
def xN(l a:List Nat):Prop:=∃b,a++b=l
theorem BD(n u k:Nat)(c a:Int)(b:Nat)(j:World)(a6:1≤n)(z:j.cell? ⟨u,0,none⟩=some (.int .i64 c))(A:j.cell? ⟨u,1,none⟩=some (.int .i64 a))(B:j.cell? ⟨k,0,none⟩=some (.int .i64 b))(D:c=9∨c=10→0≤a)(a5:b≤8796093022208):SeqStopsK Fence.wide n prog 154 #[.pointer (some ⟨u,0,none⟩),.pointer (some ⟨k,0,none⟩)] (fun d:Nat=>#[Value.int .i64 d]) (sy k) (xM (bx (c,a) b)) (xN (bx (c,a) b)) 2 j:=fun a7 Q S l E _ _ t o=>by
 have s:J j l:=E;have W:=s.cell z;have X:=s.cell A;have L:=s.cell B;clear s E z A B;obtain⟨y,w⟩:∃y,bx (c,a) b=y:=⟨_,rfl⟩;have e:=R w;rw[w];clear w;refine callsIn_of_wp func154 rfl trivial ?_ rfl;simp only[ntmps154,List.size_toArray,List.length_cons,List.length_nil,Nat.reduceAdd,Nat.reduceSub,Array.replicate_succ,Array.replicate_zero,List.push_toArray,List.append_toArray,List.nil_append,List.cons_append];by_cases q:c=12;·subst q;gi_wp2;go_end0;refine⟨⟨_,rfl⟩,.inl ⟨[],?_,o⟩⟩;rw[←U e];rfl
 ·have a3:(c==12)=false:=beq_eq_false_iff_ne.2 q;have I:=R q;clear q;by_cases r:c=9
  ·subst r;obtain⟨d,rfl⟩:=Int.eq_ofNat_of_zero_le (D (.inl rfl));obtain⟨C,H,a1,b1,f,h⟩:=t [] d l o (by simp);dsimp only at f;gi_wp2;refine h.mono ?_;rintro v m(⟨rfl,g,_⟩|⟨rfl,i⟩);·gi_wp2;go_end0;refine⟨⟨_,rfl⟩,.inl ⟨[d],?_,g⟩⟩;rw[←U e];rfl
   ·gi_wp2;go_end0;refine⟨⟨_,rfl⟩,.inr ⟨[d],⟨[],?_⟩,i⟩⟩;rw[←U e];rfl
  ·have a4:(c==9)=false:=beq_eq_false_iff_ne.2 r;have K:=R r;clear r;by_cases p:c=10
   ·subst p;obtain⟨d,rfl⟩:=Int.eq_ofNat_of_zero_le (D (.inr rfl));obtain⟨C,H,a1,b1,f,h⟩:=t [] d l o (by simp);dsimp only at f;gi_wp2;refine h.mono ?_;rintro v m(⟨rfl,g,F⟩|⟨rfl,i⟩)
    ·have Y:m.cell? ⟨k,0,none⟩=some (.int .i64 b):=Eq.trans F L;obtain⟨Z,a8,a2,V,P,N⟩:=t [d] (b+1) m g (by simp);rw[show((b+1:Nat):Int)=(b:Int)+1 from by omega]at P;clear F;gi_wp2;refine N.mono ?_;rintro v T(⟨rfl,M,_⟩|⟨rfl,O⟩);·gi_wp2;go_end0;refine⟨⟨_,rfl⟩,.inl ⟨[d,b+1],?_,M⟩⟩;rw[←U e];rfl
     ·gi_wp2;go_end0;refine⟨⟨_,rfl⟩,.inr ⟨[d,b+1],⟨[],?_⟩,O⟩⟩;rw[←U e];rfl
    ·gi_wp2;go_end0;refine⟨⟨_,rfl⟩,.inr ⟨[d],⟨[b+1],?_⟩,i⟩⟩;rw[←U e];rfl
   ·have a0:(c==10)=false:=beq_eq_false_iff_ne.2 p;have G:bx (c,a) b=[b+1]:=by unfold bx;rw[if_neg (U I),if_neg (U K),if_neg p]
    have x:=R G;clear p G;obtain⟨C,H,a1,b1,f,h⟩:=t [] (b+1) l o (by simp);dsimp only at f;rw[show((b+1:Nat):Int)=(b:Int)+1 from by omega]at f;gi_wp2;refine h.mono ?_;rintro v m(⟨rfl,g,_⟩|⟨rfl,i⟩);·gi_wp2;go_end0;refine⟨⟨_,rfl⟩,.inl ⟨[b+1],?_,g⟩⟩;rw[←U e,U x];rfl
    ·gi_wp2;go_end0;refine⟨⟨_,rfl⟩,.inr ⟨[b+1],⟨[],?_⟩,i⟩⟩;rw[←U e,U x];rfl
def bT(w:World)(B:Nat)(H:List Int):Prop:=w.heap[B]?=some (.cells (H.map (fun a=>Value.int .i64 a)).toArray 3)
theorem bT.kept{w w':World}{B:Nat}{H:List Int}(a:bT w B H)(k:J w w'):bT w' B H:=aw k a
theorem bT.cell{w:World}{B:Nat}{H:List Int}(a:bT w B H){k:Nat}(b:k<H.length):w.cell? ⟨B,k,none⟩=some (.int .i64 (H.getD k 0)):=by rw[ab a k];simp[b,List.getD]
theorem bT.frozen{w:World}{B:Nat}{H:List Int}(a:bT w B H)(k:Nat):w.frozen? ⟨B,k,none⟩=false:=an a k
theorem bT.set{w:World}{B:Nat}{H:List Int}(a:bT w B H)(k:Nat)(z:Int):bT (w.setCell ⟨B,k,none⟩ (.int .i64 z)) B (H.set k z):=by unfold bT at*;rw[ay a k];congr 2;simp[List.map_set]
theorem bT.lt{w:World}{B:Nat}{H:List Int}(a:bT w B H):B<w.heap.size:=(Array.getElem?_eq_some_iff.1 a).1
theorem bT.other{w:World}{B:Nat}{H:List Int}(b:bT w B H){p:Addr}(c:p.block≠B)(u:Value):bT (w.setCell p u) B H:=bD b (fun a=>c a.symm) u
structure pC(a w:World)(p:List Fn)(g:Fn)(d c:Value)(B:Nat)(H:List Int):Prop where
 prog:aK a d p
 code:ev a c g.code
 kinds:bm a
 right:∀b,b∈g.code→bu p g b=0
 Kv:g.code.length≤24
 kept:J a w
 new:a.heap.size≤B
 hs:bT w B H
 len:H.length=g.code.length
def lY(p:List Fn)(g:Fn)(n:Nat)(H:List Int)(c:Nat)(d:Int)(B:Nat)(w:World)(e:Ending)(w':World):Prop:=∃b a,ey p g.code n H c d=(b,a)∧e=.returned (.bool b)∧bT w' B a∧aA B w w'
attribute [local go_sem]Oper.semAt_some
theorem zm(n:Nat)(p:List Fn)(g:Fn)(m o:Option Addr)(l j a i B:Nat)(H:List Int)(b:Nat)(c:Int)(w:World)(d:bT w B H)(e:a=g.code.length)(r:((a:Int)≤b)):Calls prog 86 #[.agg #[.slice m l j,.slice o a i,.slice (some ⟨B,0,none⟩) a a],.int .i64 b,.int .i64 c] w fun k q=>lY p g (n+1) H b c B w k q:=by have h:=R e;have f:=R d;clear e d;refine(callsIn_wide (n:=9)).1 (callsIn_of_wp_marks func86 rfl trivial ?_ rfl);refine wpIn_wide.2 ?_;simp only[ntmps86,List.size_toArray,List.length_cons,List.length_nil,Nat.reduceAdd,Nat.reduceSub,Array.replicate_succ,Array.replicate_zero,List.push_toArray,List.append_toArray,List.nil_append,List.cons_append];go_wp2;refine⟨.bool false,by simp[results,results86,go_sem],false,H,?_,rfl,(U f).kept (((J.refl _).alloc _).alloc _),.of (((J.refl _).alloc _).alloc _)⟩;have:=U h;unfold ey;rw[if_pos (by omega)]
theorem zo(n:Nat)(p:List Fn)(g:Fn)(o q:Option Addr)(m i a h B:Nat)(H:List Int)(b:Nat)(c:Int)(w:World)(d:bT w B H)(j:a=g.code.length)(y:H.length=g.code.length)(C:¬((a:Int)≤b))(e:H.getD b 0≠-1):Calls prog 86 #[.agg #[.slice o m i,.slice q a h,.slice (some ⟨B,0,none⟩) a a],.int .i64 b,.int .i64 c] w fun x z=>lY p g (n+1) H b c B w x z:=by
 have r:=d.cell (k:=b) (by omega);generalize l:H.getD b 0=f at*;have A:=(((J.refl w).alloc (.cells #[.slice o m i,.slice q a h,.slice (some ⟨B,0,none⟩) a a] 139)).alloc (.cells #[.bool false] 4)).cell r;have D:(f !=-1)=true:=by rw[bne_iff_ne];exact e
 have u:=R e;have t:=R j;have v:=R l;have s:=R d;clear j d l r e y;refine(callsIn_wide (n:=9)).1 (callsIn_of_wp_marks func86 rfl trivial ?_ rfl);refine wpIn_wide.2 ?_;simp only[ntmps86,List.size_toArray,List.length_cons,List.length_nil,Nat.reduceAdd,Nat.reduceSub,Array.replicate_succ,Array.replicate_zero,List.push_toArray,List.append_toArray,List.nil_append,List.cons_append];go_wp2;refine⟨.bool (f==c),by simp[results,results86,go_sem],f==c,H,?_,rfl,(U s).kept (((J.refl _).alloc _).alloc _),.of (((J.refl _).alloc _).alloc _)⟩;have:=U t;unfold ey;rw[if_neg (by omega),U v,if_neg (U u)];rfl
