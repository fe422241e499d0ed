import Derived.Test.YtokhibfenccijaaGreatDoorQB40
set_option maxRecDepth 100000
set_option maxHeartbeats 8000000
namespace Go.Proofs.YtokhibfenccijaaGreatDoor
open Go.Proofs.Tryz
open Go.RowKit
theorem pU{k:Nat}(a:k<17)(b:k≠11):k=0∨k=1∨k=2∨k=3∨k=4∨k=5∨k=6∨k=7∨k=8∨k=9∨k=10∨k=12∨k=13∨k=14∨k=15∨k=16:=by omega
theorem IU(k:Nat)(a:Int)(v:Value)(w:World)(c:k<17)(d:k≠11):Calls prog 111 #[v,.agg #[.int .i64 k,.int .i64 a]] w fun b e=>b=.returned (.int .i64 (tk k))∧e=w.alloc (.cells #[.int .i64 k,.int .i64 a] 72):=by rcases pU c d with rfl|rfl|rfl|rfl|rfl|rfl|rfl|rfl|rfl|rfl|rfl|rfl|rfl|rfl|rfl|rfl;all_goals as_aux_lemma=>go_enter func111,ntmps111;go_wp2;go_ret;exact⟨rfl,rfl⟩
theorem IT(i b o n cap:Nat)(a:Int)(w:World)(g:i<n)(c:w.cell? ⟨b,o+i*3,none⟩=some (.int .i64 a)):Calls prog 111 #[.slice (some ⟨b,o,none⟩) n cap,.agg #[.int .i64 11,.int .i64 i]] w fun d e=>d=.returned (.int .i64 a)∧e=w.alloc (.cells #[.int .i64 11,.int .i64 i] 72):=by have f:(w.alloc (.cells #[.int .i64 11,.int .i64 i] 72)).cell? ⟨b,o+i*3,none⟩=some (.int .i64 a):=((J.refl w).alloc _).cell c;clear c;go_enter func111,ntmps111;go_wp2;go_ret;exact⟨rfl,rfl⟩
theorem Dr(k:Nat)(a:Int)(w:World)(d:k<17):Calls prog 112 #[.agg #[.int .i64 k,.int .i64 a]] w fun c e=>c=.returned (.int .i64 (lv k))∧e=w.alloc (.cells #[.int .i64 k,.int .i64 a] 72):=by
 by_cases b:k=11;·subst b;go_enter func112,ntmps112;go_wp2;go_ret;exact⟨rfl,rfl⟩
 ·rcases pU d b with rfl|rfl|rfl|rfl|rfl|rfl|rfl|rfl|rfl|rfl|rfl|rfl|rfl|rfl|rfl|rfl;all_goals as_aux_lemma=>go_enter func112,ntmps112;go_wp2;go_ret;exact⟨rfl,rfl⟩
theorem vH{p:List Fn}{f:Fn}{k:Nat}{a:Int}(c:k<17):bu p f (k,a)=if bZ p f (bA k) a=true then(if k=13∧(p.getD a.toNat Fn.zero).args≠1 then 1 else 0)else 3:=by
 unfold bu;rw[if_pos ⟨by simp,by simp;omega⟩];have b:((k:Int)=13)=(k=13):=by rw[eq_iff_iff];omega
 simp[b]
theorem vI{p:List Fn}{f:Fn}{k:Nat}{a:Int}(b:k<17)(c:k≠13):bu p f (k,a)=bif bZ p f (bA k) a then 0 else 3:=by rw[vH b];cases bZ p f (bA k) a<;>simp[c]
theorem Fq(p:List Fn)(i b o cap:Nat)(f:Fn)(x:Option Addr)(u:Nat)(t a:Int)(w:World)(K:aK w (.slice (some ⟨b,o,none⟩) p.length cap) p)(j:i<p.length)(C:f.code.length≤8796093022208)(y:w.cell? ⟨b,o+i*3+1,none⟩=some (.int .i64 f.locals))(z:w.cell? ⟨b,o+i*3+2,none⟩=some (.slice x f.code.length u))(v:cI f.args f.locals=true):Calls prog 110 #[.slice (some ⟨b,o,none⟩) p.length cap,.int .i64 i,.agg #[.int .i64 t,.int .i64 a]] w fun F V=>F=.returned (.int .i64 (bu p f (t,a)))∧J w V:=by
 have l:=K.lt;rw[fg]at v;by_cases O:0≤t∧t<17
 ·obtain⟨d,rfl⟩:=Int.eq_ofNat_of_zero_le O.1;have B:d<17:=by omega
  have Q:∀d:Nat,(bA d=4)→bZ p f (bA d) a=(aX a p.length&&cI (p.getD a.toNat Fn.zero).args (p.getD a.toNat Fn.zero).locals):=by intro d k;rw[k];simp only[bZ];rw[if_neg (by decide),if_neg (by decide),if_neg (by decide),if_neg (by decide)]
  by_cases P:d=11
  ·subst P;rw[vI B (by decide),Q 11 rfl];by_cases h:0≤a∧a<p.length
   ·obtain⟨e,rfl⟩:=Int.eq_ofNat_of_zero_le h.1;obtain⟨T,E,I,_,H⟩:=K;obtain⟨D,L,m,rfl,n,q,r,_⟩:=H e _ (aD p e Fn.zero (by omega));obtain⟨⟨rfl,rfl⟩,-⟩:=(by simpa using I:(b=D∧o=L)∧cap=E);rw[dV h.1 h.2,Int.toNat_natCast,Bool.true_and];cases s:cI (p.getD e Fn.zero).args (p.getD e Fn.zero).locals with
    |false=>exact EG i e b o p.length cap _ _ m w l (by omega) n q r s
    |true=>exact EF i e b o p.length cap _ _ m w l (by omega) n q r s
   ·rw[gQ h,Bool.false_and];exact EE a i _ p.length cap w l (ig (by omega))
  ·by_cases G:d=13
   ·subst G;rw[vH B,Q 13 rfl];by_cases h:0≤a∧a<p.length
    ·obtain⟨e,rfl⟩:=Int.eq_ofNat_of_zero_le h.1;obtain⟨T,E,I,_,H⟩:=K;obtain⟨D,L,m,rfl,n,q,r,_⟩:=H e _ (aD p e Fn.zero (by omega));obtain⟨⟨rfl,rfl⟩,-⟩:=(by simpa using I:(b=D∧o=L)∧cap=E);rw[dV h.1 h.2,Int.toNat_natCast,Bool.true_and];cases s:cI (p.getD e Fn.zero).args (p.getD e Fn.zero).locals with
     |false=>exact EM i e b o p.length cap _ _ m w l (by omega) n q r s
     |true=>
      by_cases A:(p.getD e Fn.zero).args=1;·rw[if_pos rfl,if_neg (by simpa using A)];exact EL i e b o p.length cap _ _ m w l (by omega) n q r s (by rw[A];rfl)
      ·rw[if_pos rfl,if_pos ⟨rfl,A⟩];exact EJ i e b o p.length cap _ _ m w l (by omega) n q r s (by rw[bne_iff_ne];exact A)
    ·rw[gQ h,Bool.false_and,if_neg (by decide)];exact EK a i _ p.length cap w l (ig (by omega))
   ·rw[vI B G];have g:∀d:Nat,bA d=0→bZ p f (bA d) a=ax a 0 0:=by intro d k;rw[k,Bool.eq_iff_iff,iX];simp only[bZ];rw[if_pos trivial,decide_eq_true_eq];omega
    have S:bZ p f (bA 0) a=ax a 0 999:=rfl;have M:∀d:Nat,bA d=2→bZ p f (bA d) a=ax a 0 (f.locals-1):=by intro d k;rw[k,qI];rfl
    have N:∀d:Nat,bA d=3→bZ p f (bA d) a=ax a 0 ((f.code.length:Int)-1):=by intro d k;rw[k,qI];rfl
    rcases pU B P with rfl|rfl|rfl|rfl|rfl|rfl|rfl|rfl|rfl|rfl|rfl|rfl|rfl|rfl|rfl|rfl
    ·rw[S];cases c:ax a 0 999 with
     |false=>exact EA a i _ w c
     |true=>exact EB a i _ w c
    ·rw[g 1 rfl];cases c:ax a 0 0 with
     |false=>exact EU a i _ w c
     |true=>exact EV a i _ w c
    ·rw[M 2 rfl];cases c:ax a 0 (f.locals-1)with
     |false=>exact EW a i b o p.length cap _ w j (by omega) v.2.2 y c
     |true=>exact EX a i b o p.length cap _ w j (by omega) v.2.2 y c
    ·rw[M 3 rfl];cases c:ax a 0 (f.locals-1)with
     |false=>exact EY a i b o p.length cap _ w j (by omega) v.2.2 y c
     |true=>exact EZ a i b o p.length cap _ w j (by omega) v.2.2 y c
    ·rw[g 4 rfl];cases c:ax a 0 0 with
     |false=>exact Fa a i _ w c
     |true=>exact Fc a i _ w c
    ·rw[g 5 rfl];cases c:ax a 0 0 with
     |false=>exact Fe a i _ w c
     |true=>exact Ff a i _ w c
    ·rw[g 6 rfl];cases c:ax a 0 0 with
     |false=>exact Fg a i _ w c
     |true=>exact Fh a i _ w c
    ·rw[g 7 rfl];cases c:ax a 0 0 with
     |false=>exact Fi a i _ w c
     |true=>exact Fj a i _ w c
    ·rw[g 8 rfl];cases c:ax a 0 0 with
     |false=>exact Fk a i _ w c
     |true=>exact Fl a i _ w c
    ·rw[N 9 rfl];cases c:ax a 0 ((f.code.length:Int)-1)with
     |false=>exact Fm a i b o p.length cap x _ u w j C z c
     |true=>exact Fo a i b o p.length cap x _ u w j C z c
    ·rw[N 10 rfl];cases c:ax a 0 ((f.code.length:Int)-1)with
     |false=>exact EC a i b o p.length cap x _ u w j C z c
     |true=>exact ED a i b o p.length cap x _ u w j C z c
    ·rw[g 12 rfl];cases c:ax a 0 0 with
     |false=>exact EH a i _ w c
     |true=>exact EI a i _ w c
    ·exact absurd rfl G
    ·rw[g 14 rfl];cases c:ax a 0 0 with
     |false=>exact EN a i _ w c
     |true=>exact EO a i _ w c
    ·rw[g 15 rfl];cases c:ax a 0 0 with
     |false=>exact EP a i _ w c
     |true=>exact ER a i _ w c
    ·rw[g 16 rfl];cases c:ax a 0 0 with
     |false=>exact ES a i _ w c
     |true=>exact ET a i _ w c
 ·have F:bu p f (t,a)=4:=by unfold bu;rw[if_neg O]
  rw[F];exact Fp t a i _ w (ig (by omega)) (beq_eq_false_iff_ne.2 (by omega)) (beq_eq_false_iff_ne.2 (by omega)) (beq_eq_false_iff_ne.2 (by omega)) (beq_eq_false_iff_ne.2 (by omega)) (beq_eq_false_iff_ne.2 (by omega)) (beq_eq_false_iff_ne.2 (by omega)) (beq_eq_false_iff_ne.2 (by omega))
theorem Cd(f:Int)(c:Option Addr)(n cap:Nat)(w:World)(e:n≤8796093022208)(d:ax f 0 ((n:Int)-1)=false):Calls prog 74 #[.slice c n cap,.int .i64 f] w fun a b=>a=.returned (.int .i64 5)∧J w b:=by go_enter func74,ntmps74;go_wp2_with(go_at_call 73;refine(bM _ _ _ _).mono ?_;rintro a b⟨rfl,rfl⟩);go_ret;exact⟨rfl,J.refl _⟩
theorem Cc(i b o n cap:Nat)(e:Option Addr)(m d:Nat)(w:World)(k:n≤8796093022208)(h:i<n)(f:w.cell? ⟨b,o+i*3+2,none⟩=some (.slice e m d))(j:24<(m:Int)):Calls prog 74 #[.slice (some ⟨b,o,none⟩) n cap,.int .i64 i] w fun a c=>a=.returned (.int .i64 2)∧J w c:=by have g:ax i 0 ((n:Int)-1)=true:=fM (by omega) (by omega);go_enter func74,ntmps74;go_wp2_with(go_at_call 73;refine(bM _ _ _ _).mono ?_;rintro a c⟨rfl,rfl⟩);go_ret;exact⟨rfl,J.refl _⟩
theorem Cf(i b o n cap:Nat)(d lo:Int)(f:Option Addr)(m e:Nat)(w:World)(q:n≤8796093022208)(l:i<n)(g:w.cell? ⟨b,o+i*3,none⟩=some (.int .i64 d))(h:w.cell? ⟨b,o+i*3+1,none⟩=some (.int .i64 lo))(j:w.cell? ⟨b,o+i*3+2,none⟩=some (.slice f m e))(p:¬24<(m:Int))(r:cI d lo=false):Calls prog 74 #[.slice (some ⟨b,o,none⟩) n cap,.int .i64 i] w fun a c=>a=.returned (.int .i64 3)∧J w c:=by have k:ax i 0 ((n:Int)-1)=true:=fM (by omega) (by omega);go_enter func74,ntmps74;go_wp2_with(first|(go_at_call 73;refine(bM _ _ _ _).mono ?_;rintro a c⟨rfl,rfl⟩)|(go_at_call 109;refine(jR _ _ _ _).mono ?_;rintro a c⟨rfl,rfl⟩));go_ret;exact⟨rfl,(J.refl _).alloc _⟩
theorem Ce(p:List Fn)(f:Fn)(i b o cap:Nat)(q:Option Addr)(m j:Nat)(w:World)(u:aK w (.slice (some ⟨b,o,none⟩) p.length cap) p)(X:i<p.length)(T:w.cell? ⟨b,o+i*3,none⟩=some (.int .i64 f.args))(B:w.cell? ⟨b,o+i*3+1,none⟩=some (.int .i64 f.locals))(C:w.cell? ⟨b,o+i*3+2,none⟩=some (.slice q m j))(D:ev w (.slice q m j) f.code)(H:m=f.code.length)(a2:m≤24)(v:cI f.args f.locals=true):Calls prog 74 #[.slice (some ⟨b,o,none⟩) p.length cap,.int .i64 i] w fun l y=>l=.returned (.int .i64 (dY p f f.code))∧J w y:=by
 have a1:=u.lt;have Z:ax i 0 ((p.length:Int)-1)=true:=fM (by omega) (by omega);have a3:¬24<(m:Int):=by omega
 have P:Hid (aK w (.slice (some ⟨b,o,none⟩) p.length cap) p):=u;have N:Hid (ev w (.slice q m j) f.code):=D;have k:Hid (m=f.code.length):=H;have L:=R B;have M:=R C;have a4:(!cI f.args f.locals)=false:=by rw[v];rfl
 have Q:=R v;clear u D H v;go_enter func74,ntmps74;go_wp2_with(first|(go_at_call 73;refine(bM _ _ _ _).mono ?_;rintro l y⟨rfl,rfl⟩)|(go_at_call 109;refine(jR _ _ _ _).mono ?_;rintro l y⟨rfl,rfl⟩));clear T B C;go_loopw[5](fun i wr=>∃a:Nat,a≤m∧i=.int .i64 a∧Hid (dY p f (f.code.drop a)=dY p f f.code)∧Hid (J w wr))(fun i _=>m-(intOf i).toNat);case atStart=>exact⟨0,Nat.zero_le _,rfl,rfl,(J.refl _).alloc _⟩
 case round=>
  obtain⟨a,a0,rfl,s,d⟩:=hrel;have W:=d.out.cell (U M);by_cases Y:a<m
  ·obtain⟨c,x⟩:∃c,f.code[a]?=some c:=⟨f.code[a]'(by rw[←k.out];exact Y),List.getElem?_eq_getElem _⟩;obtain⟨a6,V,e,_,E⟩:=N.out.kept d.out;obtain⟨A,I,rfl,a7,a8⟩:=E a c x;obtain⟨rfl,-,-⟩:=(by simpa using e:q=some ⟨A,I,none⟩∧m=f.code.length∧j=V);have S:Hid (f.code[a]?=some c):=x;have F:=Fq p i b o cap f (some ⟨A,I,none⟩) j c.1 c.2 wr (P.out.kept d.out) X (by have:=k.out;omega) (d.out.cell (U L)) (by rw[←k.out];exact W) (U Q);have z:=R F;clear E e x F;have g:=vL (p:=p) (f:=f) S.out;go_wp2_with fail;refine(U z).mono ?_;clear z;rintro l K⟨e,n⟩;by_cases h:bu p f c=0
   ·rw[if_pos h]at g;rw[show bu p f (c.1,c.2)=0 from h]at e;subst e;have t:=R g;have r:Hid (J w K):=d.out.trans n;clear g h n;go_wp2;go_roundw;case rel=>exact⟨a+1,by omega,by go_num,(U t).symm.trans s.out,r⟩
    case measure=>simp[intOf];omega
   ·rw[if_neg h]at g;have a5:(bu p f (c.1,c.2)!=0)=true:=by rw[bne_iff_ne];exact h
    have t:=R g;have r:Hid (J w K):=d.out.trans n;clear g h n;subst e;go_wp2;go_ret;exact⟨by rw[←s.out,U t];rfl,r⟩
  ·have G:a=f.code.length:=by have:=k.out;omega
   have O:=R G;clear G;go_wp2;go_ret;refine⟨?_,d.out⟩;rw[←s.out,U O,List.drop_length];rfl
theorem qy(p:List Fn)(v:Value)(f:Int)(w:World)(q:aK w v p):Calls prog 74 #[v,.int .i64 f] w fun s z=>s=.returned (.int .i64 (bo p f))∧J w z:=by
 have x:=q;obtain⟨y,b,rfl,i,u⟩:=q;unfold bo;by_cases h:0≤f∧f<p.length
 ·rw[if_pos h];obtain⟨a,rfl⟩:=Int.eq_ofNat_of_zero_le h.1;obtain⟨d,j,A,rfl,l,m,e,n⟩:=u a _ (aD p a Fn.zero (by omega));have t:=n;obtain⟨k,g,rfl,_,_⟩:=n;rw[Int.toNat_natCast];generalize p.getD a Fn.zero=c at*;by_cases o:24<c.code.length;·simp only[if_pos o];exact Cc a d j p.length b k _ g w i (by omega) e (by omega)
  ·simp only[if_neg o];cases r:cI c.args c.locals with
   |false=>rw[if_neg (by decide)];exact Cf a d j p.length b _ _ k _ g w i (by omega) l m e (by omega) r
   |true=>rw[if_pos rfl];exact Ce p c a d j b k _ g w x (by omega) l m e t rfl (by omega) r
 ·rw[if_neg h];exact Cd f y p.length b w i (ig (by omega))
theorem IV(p:List Fn)(g:Fn)(v:Value)(x:Int×Int)(ta lb:Int)(u:World)(o:aK u v p)(h:bu p g x=0)(a:ct p x.1 x.2=(ta,lb,0)):Calls prog 111 #[v,.agg #[.int .i64 x.1,.int .i64 x.2]] u fun m r=>m=.returned (.int .i64 ta)∧r=u.alloc (.cells #[.int .i64 x.1,.int .i64 x.2] 72):=by
 obtain⟨t,i⟩:=x;obtain⟨e,h2,_⟩:=ei h;simp only at e h2 a⊢;obtain⟨d,rfl⟩:=Int.eq_ofNat_of_zero_le e;by_cases f:d=11
 ·subst f;obtain⟨a0,a1,_,a3⟩:=jr h rfl;simp only at a0 a1 a3;obtain⟨b,rfl⟩:=Int.eq_ofNat_of_zero_le a0;rw[show(((11:Nat):Int))=11 from rfl]at a a3;rw[a]at a3;obtain⟨w,l,rfl,_,n⟩:=o;obtain⟨j,q,s,rfl,k,_⟩:=n b _ (aD p b Fn.zero (by omega));have c:ta=(p.getD b Fn.zero).args:=by have:=congrArg Prod.fst a3;simpa using this
  rw[c];exact IT b j q p.length l _ u (by omega) k
 ·have c:ta=tk d:=by unfold ct at a;rw[if_pos ⟨by omega,by omega⟩,if_neg (by omega)]at a;have:=congrArg Prod.fst a;simpa using this.symm
  rw[c];exact IU d i v u (by omega) f
theorem Ds(p:List Fn)(g:Fn)(x:Int×Int)(ta lb:Int)(u:World)(e:bu p g x=0)(a:ct p x.1 x.2=(ta,lb,0)):Calls prog 112 #[.agg #[.int .i64 x.1,.int .i64 x.2]] u fun h k=>h=.returned (.int .i64 lb)∧k=u.alloc (.cells #[.int .i64 x.1,.int .i64 x.2] 72):=by
 obtain⟨l,f⟩:=x;obtain⟨d,h2,_⟩:=ei e;simp only at d h2 a⊢;obtain⟨b,rfl⟩:=Int.eq_ofNat_of_zero_le d;have j:lb=lv b:=by
  by_cases i:b=11;·subst i;obtain⟨_,_,_,a3⟩:=jr e rfl;simp only at a3;rw[show(((11:Nat):Int))=11 from rfl]at a a3;rw[a]at a3;have:=congrArg (fun c=>c.2.1) a3;exact this
  ·unfold ct at a;rw[if_pos ⟨by omega,by omega⟩,if_neg (by omega)]at a;have:=congrArg (fun c=>c.2.1) a;simpa using this.symm
 rw[j];exact Dr b f u (by omega)
theorem GV{p:List Fn}{c:List (Int×Int)}{H:List Int}{k:Nat}(b:dZ p c k H=none):∀a,k≤a→dZ p c a H=none:=by
 intro a f;induction a with
 |zero=>
  obtain rfl:k=0:=by omega
  exact b
 |succ a e=>
  by_cases d:k=a+1;·rw[←d];exact b
  ·simp only[dZ];rw[e (by omega)];rfl
theorem GW{p:List Fn}{c:List (Int×Int)}{H:List Int}{k:Nat}(b:fQ p c k H=none):∀a,k≤a→fQ p c a H=none:=by
 intro a f;induction a with
 |zero=>
  obtain rfl:k=0:=by omega
  exact b
 |succ a e=>
  by_cases d:k=a+1;·rw[←d];exact b
  ·simp only[fQ];rw[e (by omega)];rfl
theorem CC{p:List Fn}{c:List (Int×Int)}{a k:Nat}{d b:List Int}(e:c.length≠0)(h:a≤c.length)(g:k<c.length)(f:fQ p c a ((start c).set 0 0)=some d)(h2:dZ p c k d=some b)(h3:gW p c b k=none):bG p c=none:=by unfold bG;rw[if_neg e];refine GW (k:=a+1) ?_ _ (by omega);simp only[fQ,f,Option.bind_some];refine GV (k:=k+1) ?_ _ (by omega);simp only[dZ,h2,Option.bind_some];exact h3
