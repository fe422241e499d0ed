import Derived.Test.YtokhibfenccijaaGreatDoorQB42
set_option maxRecDepth 100000
set_option maxHeartbeats 8000000
namespace Go.Proofs.YtokhibfenccijaaGreatDoor
open Go.Proofs.Tryz
open Go.RowKit
theorem wB(p:List Fn)(v:Value)(k:Nat)(w:World)(c:aK w v p)(n:bo p k=0):Calls prog 75 #[v,.int .i64 k] w fun h s=>pL p (codeOf p k) w h s:=by
 obtain⟨o,z,b,j,B,l⟩:=gN n;obtain rfl:k=o:=by omega
 obtain⟨C,f,rfl,A,i⟩:=id c;obtain⟨d,q,y,rfl,u,x,e,a⟩:=i k _ (aD p k Fn.zero b);obtain⟨r,g,rfl,_,_⟩:=id a;exact wv p (p.getD k Fn.zero) k d q f r _ g w c b e a rfl j (fun t m=>gh l t m)
theorem CF{p:List Fn}{k:Nat}:eh p k=if(bG p (codeOf p k)).isSome=true then 0 else 1:=by unfold eh;cases bG p (codeOf p k)<;>rfl
theorem Gq(b:Option Addr)(n cap:Nat)(w:World)(d:5<(n:Int)):Calls prog 46 #[.slice b n cap] w fun a c=>a=.returned (.int .i64 2)∧J w c:=by go_enter func46,ntmps46;go_wp2;go_ret;exact⟨rfl,J.refl _⟩
theorem Gr(b:Option Addr)(cap:Nat)(w:World):Calls prog 46 #[.slice b 0 cap] w fun a c=>a=.returned (.int .i64 5)∧J w c:=by go_enter func46,ntmps46;go_wp2;go_ret;exact⟨rfl,J.refl _⟩
theorem Gn(b o n cap:Nat)(a:Int)(w:World)(f:¬5<(n:Int))(g:((n:Int)==0)=false)(i:0<n)(e:w.cell? ⟨b,o,none⟩=some (.int .i64 a))(h:(a !=0)=true):Calls prog 46 #[.slice (some ⟨b,o,none⟩) n cap] w fun c d=>c=.returned (.int .i64 1)∧J w d:=by go_enter func46,ntmps46;go_wp2;go_ret;exact⟨rfl,J.refl _⟩
theorem Gp(p:List Fn)(b o n cap:Nat)(w:World)(C:aK w (.slice (some ⟨b,o,none⟩) n cap) p)(B:n=p.length)(O:¬5<(n:Int))(P:((n:Int)==0)=false)(Q:0<n)(N:w.cell? ⟨b,o,none⟩=some (.int .i64 0))(F:Int)(f:(if dn (fun a=>bo p a) 0 p.length=0 then dn (eh p) 0 p.length else dn (fun a=>bo p a) 0 p.length)=F):Calls prog 46 #[.slice (some ⟨b,o,none⟩) n cap] w fun l K=>l=.returned (.int .i64 F)∧J w K:=by
 have v:=R f;clear f;have y:=R C;have u:=R B;clear C B;go_enter func46,ntmps46;go_wp2;go_loopw[3](fun i wr=>∃a:Nat,a≤n∧i=.int .i64 a∧Hid (dn (fun a=>bo p a) a (n-a)=dn (fun a=>bo p a) 0 p.length)∧Hid (J w wr))(fun i _=>n-(intOf i).toNat);case atStart=>exact⟨0,Nat.zero_le _,rfl,by have:=U u;subst this;rfl,J.refl _⟩
 case round=>
  obtain⟨a,I,rfl,d,t⟩:=hrel;by_cases x:a<n
  ·have c:=nI (e:=fun a=>bo p a) x;have g:=R c;have m:=qy p (.slice (some ⟨b,o,none⟩) n cap) a wr ((U y).kept (U t));have j:=R m;clear c m;go_wp2_with fail;refine(U j).mono ?_;clear j;rintro l L⟨rfl,q⟩;have k:=R ((U t).trans q);clear q;by_cases e:bo p a=0
   ·have c:=U g;simp only[e,if_true]at c;have h:=R (c.symm.trans (U d));rw[e];clear c e g d;go_wp2;go_roundw;case rel=>exact⟨a+1,by omega,by go_num,h,k⟩
    case measure=>simp[intOf];omega
   ·have c:=U g;simp only[e,if_false]at c;have D:=c.symm.trans (U d);have S:(bo p a !=0)=true:=by rw[bne_iff_ne];exact e
    generalize bo p a=T at*;have h:=R D;have H:=R e;clear c e g d D;go_wp2;go_ret;have f:=U v;rw[←U h,if_neg (U H)]at f;exact⟨by rw[←f];rfl,U k⟩
  ·have z:dn (fun a=>bo p a) 0 p.length=0:=by rw[←U d,show n-a=0 by omega];rfl
   have r:=R z;clear z d;go_wp2;go_loopw[5](fun i M=>∃a:Nat,a≤n∧i=.int .i64 a∧Hid (dn (eh p) a (n-a)=dn (eh p) 0 p.length)∧Hid (J w M))(fun i _=>n-(intOf i).toNat);case atStart=>exact⟨0,Nat.zero_le _,rfl,by have:=U u;subst this;rfl,t⟩
   case round=>
    obtain⟨a,I,rfl,d,s⟩:=hrel;by_cases x:a<n
    ·have c:=nI (e:=eh p) x;have E:bo p a=0:=my (U r) a (by omega) (by have:=U u;omega);have m:=wB p (.slice (some ⟨b,o,none⟩) n cap) a _ ((U y).kept (U s)) E;rw[CF]at c;have g:=R c;have j:=R m;clear c m E;go_wp2_with fail;refine(U j).mono ?_;clear j;rintro l L⟨V,rfl,_,q⟩;have k:=R ((U s).trans q);clear q;cases e:(bG p (codeOf p a)).isSome with
     |true=>
      have c:=U g;rw[e]at c;simp only[if_true]at c;have h:=R (c.symm.trans (U d));clear c e g d;go_wp2;go_roundw;case rel=>exact⟨a+1,by omega,by go_num,h,k⟩
      case measure=>simp[intOf];omega
     |false=>have c:=U g;rw[e]at c;simp at c;have h:=R (c.symm.trans (U d));clear c e g d;go_wp2;go_ret;have f:=U v;rw[if_pos (U r),←U h]at f;exact⟨by rw[←f];rfl,U k⟩
    ·have A:dn (eh p) 0 p.length=0:=by rw[←U d,show n-a=0 by omega];rfl
     have G:=R A;clear A d;go_wp2;go_ret;have f:=U v;rw[if_pos (U r),U G]at f;exact⟨by rw[←f];rfl,U s⟩
theorem Gm(p:List Fn)(v:Value)(w:World)(h:aK w v p):Calls prog 46 #[v] w fun k m=>k=.returned (.int .i64 (aL p))∧J w m:=by
 obtain⟨j,b,rfl,s,l⟩:=id h;unfold aL;by_cases g:5<p.length;·rw[if_pos g];exact Gq j p.length b w (by omega)
 ·rw[if_neg g];by_cases d:p.length=0;·rw[if_pos d,d];exact Gr j b w
  ·rw[if_neg d];have f:((p.length:Int)==0)=false:=by rw[beq_eq_false_iff_ne];omega
   obtain⟨e,i,q,rfl,a,n,o,r⟩:=l 0 _ (aD p 0 Fn.zero (by omega));simp only[Nat.zero_mul,Nat.add_zero]at a;by_cases c:(p.getD 0 Fn.zero).args=0;·rw[if_neg (not_not_intro c)];rw[c]at a;exact Gp p e i p.length b w h rfl (by omega) f (by omega) a _ rfl
   ·rw[if_pos c];exact Gn e i p.length b _ w (by omega) f (by omega) a (by rw[bne_iff_ne];exact c)
def fR(H:List Int)(m k:Nat):List Int:=(List.range m).map fun a=>if a<k then((aN H a:Nat):Int)else 0
theorem Jc(H:List Int)(m:Nat):fR H m 0=List.replicate m 0:=by
 apply List.ext_getElem;·simp[fR]
 ·intro b a h2;simp[fR]
theorem Jb(H:List Int){m k:Nat}:(fR H m k).set k (aN H k:Nat)=fR H m (k+1):=by
 apply List.ext_getElem;·simp[fR]
 ·intro c d h2;simp only[List.getElem_set,fR,List.getElem_map,List.getElem_range];by_cases a:k=c;·subst a;simp
  ·simp only[a,if_false];by_cases b:c<k;·rw[if_pos b,if_pos (by omega)]
   ·rw[if_neg b,if_neg (by omega)]
theorem xk(H:List Int)(m k:Nat):(fR H m k).length=m:=by simp[fR]
theorem Ja(H:List Int){m t:Nat}(a:t<m):(fR H m m).getD t 0=(aN H t:Nat):=by simp[fR,List.getD,a]
def sx(c:List (Int×Int)):Prop:=∀(d:Nat)(a:Int×Int),c[d]?=some a→a.1=9∨a.1=10→∃b:Nat,a.2=(b:Int)∧b<c.length
theorem Df{p:List Fn}{g:Fn}(f:∀a,a∈g.code→bu p g a=0):sx g.code:=by
 intro j a h d;obtain⟨_,_,c⟩:=ei (f a (List.mem_of_getElem? h));have e:bA a.1.toNat=3:=by rcases d with b|b<;>rw[b]<;>rfl
 rw[e]at c;have i:=cZ.1 (show aX a.2 g.code.length=true from c);exact⟨a.2.toNat,by omega,by omega⟩
theorem GL(i b o n cap W a4 m b6:Nat)(H:List Int)(g:Fn)(w:World)(h1:i<n)(e9:w.cell? ⟨b,o+i*3,none⟩=some (.int .i64 g.args))(g0:w.cell? ⟨b,o+i*3+1,none⟩=some (.int .i64 g.locals))(g1:w.cell? ⟨b,o+i*3+2,none⟩=some (.slice (some ⟨W,a4,none⟩) m b6))(g8:ev w (.slice (some ⟨W,a4,none⟩) m b6) g.code)(h8:m=g.code.length)(o0:m≤24)(n9:0<m)(g5:m=H.length)(h3:sx g.code)(h0:∀d,J w d→Calls prog 75 #[.slice (some ⟨b,o,none⟩) n cap,.int .i64 i] d fun e j1=>∃r,e=.returned (.tuple #[r,.bool true])∧bN j1 r H∧J d j1):Calls prog 52 #[.slice (some ⟨b,o,none⟩) n cap,.int .i64 i] w fun e m9=>pO g.args g.locals (dJ H g.code) w e m9:=by
 have g9:∀a N,g.code[a]?=some N→w.cell? ⟨W,a4+a*2,none⟩=some (.int .i64 N.1)∧w.cell? ⟨W,a4+a*2+1,none⟩=some (.int .i64 N.2):=by intro a N x;obtain⟨o4,cap,l7,_,h1⟩:=id g8;obtain⟨b,o,rfl,O,P⟩:=h1 a N x;obtain⟨⟨rfl,rfl⟩,-,-⟩:=(by simpa using l7:(W=b∧a4=o)∧m=g.code.length∧b6=cap);exact⟨O,P⟩
 have m1:=jB m (by omega);obtain⟨i6,h2,i3,i4,i5⟩:=info_parts qM;have j6:=R g9;have j3:=R e9;have j4:=R g0;have j5:=R g1;have e7:=R h8;have a8:=R g5;have j8:=R h3;have e4:=R h0;clear g8 h8 g5 h3 h0 g9 e9 g0 g1;go_enter func52,ntmps52;go_wp2_with fail;refine((U e4) _ ((J.refl w).alloc _)).mono ?_;rintro e S⟨u1,rfl,i2,c4⟩;obtain⟨b2,b4,n4,rfl,c3⟩:=i2.opened (by have:=U a8;omega);rw[←U a8]at c3⊢;have g7:=aw c4 (ah (b:=w.heap.size) (o:=.cells #[.int .i64 0,.int .i64 0,.slice none 0 0] 69) rfl);have h4:=((J.refl w).alloc _).trans c4;have e2:=R g7;have b5:=R h4;have e5:=R c3;have g6:Hid (bT (S.alloc (.cells (Array.replicate m (.int .i64 0)) 3)) S.heap.size (fR H m 0)):=by rw[Jc];exact nN (ah rfl)
 clear g7 h4 c3 c4 i2 e4;go_wp2;go_loopw[8,9](fun m7 e1 wr=>∃a:Nat,a≤m∧e1=.int .i64 a∧m7=.int .i64 (aN H a:Nat)∧Hid (bT wr S.heap.size (fR H m a))∧Hid (J S wr))(fun _ e1 _=>m-(intOf e1).toNat);case atStart=>exact⟨0,Nat.zero_le _,rfl,rfl,g6,(J.refl _).alloc _⟩
 case round=>
  obtain⟨a,m0,rfl,rfl,T,C⟩:=hrel;clear g6 m1;have m2:=ja H a;by_cases a2:a<m
  ·have l9:=(U T).cell (k:=a) (by rw[xk];exact a2);have n8:=(U T).frozen a;generalize(fR H m a).getD a 0=o5 at l9;have c6:=(U T).set a (aN H a:Nat);rw[Jb H]at c6;have b9:=(U C).setCell (p:=⟨S.heap.size,a,none⟩) (Nat.le_refl _) (.int .i64 (aN H a:Nat));have h7:=b9.cell ((U e5) a a2);have e8:=R c6;have e6:=R b9;clear c6 b9;by_cases f:0≤H.getD a 0
   ·have j:aN H (a+1)=aN H a+1:=jE f;have l:=R j;generalize H.getD a 0=a3 at h7 f;generalize aN H a=c9 at*;clear j;go_wp2;go_roundw;case rel=>exact⟨a+1,by omega,by go_num,by rw[U l];go_num,e8,e6⟩
    case measure=>simp[intOf];omega
   ·have j:aN H (a+1)=aN H a:=by
     conv=>lhs;unfold aN
     rw[if_neg f]
    have l:=R j;generalize H.getD a 0=a3 at h7 f;generalize aN H a=c9 at*;clear j;go_wp2;go_roundw;case rel=>exact⟨a+1,by omega,by go_num,by rw[U l],e8,e6⟩
    case measure=>simp[intOf];omega
  ·obtain⟨s,m5⟩:∃s,s=wr:=⟨_,rfl⟩;subst m5;have h6:a=m:=by omega
   have c1:=U T;rw[h6]at c1;have k3:=R c1;have g3:=((U b5).trans (U C)).cell (U j3);have g4:=((U b5).trans (U C)).cell (U j4);have k6:∀M,(s.alloc M).cell? ⟨b,o+i*3,none⟩=_:=fun M=>((J.refl s).alloc M).cell g3;have k7:∀M,(s.alloc M).cell? ⟨b,o+i*3+1,none⟩=_:=fun M=>((J.refl s).alloc M).cell g4;clear h6 c1 m2 T;go_wp2_with fail;go_cut[10](fun m6 wx=>∃k,m6=.pointer (some ⟨k,0,none⟩)∧Hid (wx.heap[k]?=some (.cells #[.int .i64 g.args,.int .i64 g.locals,.slice none 0 0] 69))∧s.heap.size≤k∧Hid (J s wx));case first=>
    go_region;all_goals go_wp2_with fail
    all_goals go_meet
    exact⟨s.heap.size,rfl,R (aW (ah rfl)),Nat.le_refl _,R (((J.refl _).alloc _).drew)⟩
   case rest=>
    obtain⟨k,rfl,e3,l6,k1⟩:=hcut;clear g3 g4 k6 k7;have b8:k<wc.heap.size:=(Array.getElem?_eq_some_iff.1 (U e3)).1;go_wp2;go_loopw[11](fun e0 wr=>∃(a:Nat)(r:Value),a≤m∧e0=.int .i64 a∧Hid (wr.heap[k]?=some (.cells #[.int .i64 g.args,.int .i64 g.locals,r] 69))∧Hid (wr.ownsRow wc.heap.size 72 2 r (aN H a) (di (pick H (fun a=>bX H (g.code.getD a (0,0))) a)))∧Hid (aA k wc wr))(fun e0 _=>m-(intOf e0).toNat);case atStart=>exact⟨0,_,Nat.zero_le _,rfl,e3,World.ownsRow_nil _ _ _ _,aA.refl _ _⟩
    case round=>
     obtain⟨a,r,m0,rfl,t,D,E⟩:=hrel;have a0:J s wr:=aA.kept (U k1) l6 (U E);have Z:J w wr:=(U b5).trans ((U C).trans a0);have k8:=Z.cell (U j5);have o2:=(U E).size;by_cases a2:a<m
     ·obtain⟨⟨h,V⟩,x⟩:∃N,g.code[a]?=some N:=⟨_,List.getElem?_eq_getElem (by rw[←U e7];exact a2)⟩;obtain⟨O,P⟩:=(U j6) a _ x;have n1:=Z.cell O;have n2:=Z.cell P;simp only at n1 n2;have Q:g.code.getD a (0,0)=(h,V):=by simp[List.getD,x]
      have y:=((U C).trans a0).cell ((U e5) a a2);have a1:bT wr S.heap.size (fR H m m):=(U k3).kept a0;have h9:some k≠r.ownBlock:=fun e=>by have:=nd (U D) k e.symm;omega
      have o1:=ja H a;by_cases v:h=9∨h=10
      ·obtain⟨B,i0,o3⟩:=(U j8) a _ x v;simp only at i0;subst i0;have i1:B<m:=by have:=U e7;omega
       have m3:=(a1.kept ((J.refl wr).alloc (.cells #[.int .i64 h,.int .i64 (B:Int)] 72))).cell (k:=B) (by rw[xk];exact i1);rw[Ja H i1]at m3;have z:bX H (h,(B:Int))=(h,((aN H B:Nat):Int)):=by unfold bX;rw[if_pos v];simp
       have n3:=R z;by_cases f:0≤H.getD a 0
       ·have j:aN H (a+1)=aN H a+1:=jE f;have q:pick H (fun a=>bX H (g.code.getD a (0,0))) (a+1)=pick H (fun a=>bX H (g.code.getD a (0,0))) a++[bX H (h,(B:Int))]:=by
         conv=>lhs;unfold pick
         rw[if_pos f,Q]
        rw[z]at q;have F:=congrArg di q;rw[nJ]at F;have l:=R j;have a7:=R F;have L:=U D;have I:∀d,(wr.alloc (.cells #[.int .i64 h,d] 72)).cell? ⟨b2,b4+a,none⟩=some (.int .i64 (H.getD a 0)):=fun d=>((J.refl wr).alloc _).cell y;have m4:∀d,(wr.alloc (.cells #[.int .i64 h,d] 72)).cell? ⟨k,2,none⟩=some r:=fun d=>ab (au (U t) _) 2;obtain⟨a5,X,c8⟩:∃a5 X,r=.slice a5 (aN H a) X:=by
         rcases L.2 with⟨e,b7⟩|⟨l5,cap,k5,e,_⟩;·exact⟨none,0,by rw[e,b7]⟩
         ·exact⟨_,_,e⟩
        subst c8;clear j q F Q x O P z a1 y;generalize aN H B=j0 at*;generalize H.getD a 0=a3 at I f;generalize aN H a=c9 at*;rcases v with rfl|rfl;all_goals go_wp2_with(at_builtin;refine wpList_append_own _ rfl _ _ 67 rfl wc.heap.size 72 i6 (.agg #[.int .i64 0,.int .i64 0]) 2 16 underlying67 h2 i3 i4 i5 rfl (by decide) _ _ _ rfl ((L.alloc _).alloc _) ⟨wr.heap.size+1,0,none⟩ 1 1 [.int .i64 _,.int .i64 (j0:Int)] rfl rfl (px _ _ _ _ _ (by simp)) (pw _ _) (by unfold maxLen;omega) (by omega) (by simp;omega) ?_;intro m8 n0 K G _;obtain⟨l4,k4,c7⟩:=lH (by omega) K;subst c7;have u:=(G.block k (by simp;omega) h9).trans (au (au (U t) _) _);have Y:=ab u 2;have j2:=an u 2;simp only[List.getElem?_toArray,List.getElem?_cons_zero,List.getElem?_cons_succ]at Y;have a6:=R u;have a9:=R K;have b1:=R (aA.below (((U E).alloc _).alloc _) (nL (by simp;omega) G (nd L)));clear u K G)
        all_goals go_roundw
        case rel=>exact⟨a+1,_,by omega,by go_num,ay (U a6) 2 _,by rw[U l,U a7];exact ownsRow_setCell_below (U a9) b8 _,(U b1).setCell (p:=⟨k,2,none⟩) (.inl rfl) _⟩
        case measure=>simp[intOf];omega
        case rel=>exact⟨a+1,_,by omega,by go_num,ay (U a6) 2 _,by rw[U l,U a7];exact ownsRow_setCell_below (U a9) b8 _,(U b1).setCell (p:=⟨k,2,none⟩) (.inl rfl) _⟩
        case measure=>simp[intOf];omega
       ·have j:aN H (a+1)=aN H a:=by
         conv=>lhs;unfold aN
         rw[if_neg f]
        have q:pick H (fun a=>bX H (g.code.getD a (0,0))) (a+1)=pick H (fun a=>bX H (g.code.getD a (0,0))) a:=by
         conv=>lhs;unfold pick
         rw[if_neg f]
        have l:=R j;have b0:=R q;have I:∀d,(wr.alloc (.cells #[.int .i64 h,d] 72)).cell? ⟨b2,b4+a,none⟩=some (.int .i64 (H.getD a 0)):=fun d=>((J.refl wr).alloc _).cell y;clear j q Q x O P z a1 y;generalize aN H B=j0 at*;generalize H.getD a 0=a3 at I f;rcases v with rfl|rfl;all_goals go_wp2
        all_goals go_roundw
        case rel=>exact⟨a+1,_,by omega,by go_num,au (U t) _,by rw[U l,U b0];exact(U D).alloc _,(U E).alloc _⟩
        case measure=>simp[intOf];omega
        case rel=>exact⟨a+1,_,by omega,by go_num,au (U t) _,by rw[U l,U b0];exact(U D).alloc _,(U E).alloc _⟩
        case measure=>simp[intOf];omega
      ·have n6:(h==9)=false:=by rw[beq_eq_false_iff_ne];intro e;exact v (.inl e)
       have n5:(h==10)=false:=by rw[beq_eq_false_iff_ne];intro e;exact v (.inr e)
       have z:bX H (h,V)=(h,V):=by unfold bX;rw[if_neg v]
       by_cases f:0≤H.getD a 0
       ·have j:aN H (a+1)=aN H a+1:=jE f;have q:pick H (fun a=>bX H (g.code.getD a (0,0))) (a+1)=pick H (fun a=>bX H (g.code.getD a (0,0))) a++[bX H (h,V)]:=by
         conv=>lhs;unfold pick
         rw[if_pos f,Q]
        rw[z]at q;have F:=congrArg di q;rw[nJ]at F;have l:=R j;have a7:=R F;have L:=U D;have I:∀d,(wr.alloc (.cells #[.int .i64 h,d] 72)).cell? ⟨b2,b4+a,none⟩=some (.int .i64 (H.getD a 0)):=fun d=>((J.refl wr).alloc _).cell y;have m4:∀d,(wr.alloc (.cells #[.int .i64 h,d] 72)).cell? ⟨k,2,none⟩=some r:=fun d=>ab (au (U t) _) 2;obtain⟨a5,X,c8⟩:∃a5 X,r=.slice a5 (aN H a) X:=by
         rcases L.2 with⟨e,b7⟩|⟨l5,cap,k5,e,_⟩;·exact⟨none,0,by rw[e,b7]⟩
         ·exact⟨_,_,e⟩
        subst c8;clear j q F Q x O P z a1 y v;generalize H.getD a 0=a3 at I f;generalize aN H a=c9 at*;go_wp2_with(at_builtin;refine wpList_append_own _ rfl _ _ 67 rfl wc.heap.size 72 i6 (.agg #[.int .i64 0,.int .i64 0]) 2 16 underlying67 h2 i3 i4 i5 rfl (by decide) _ _ _ rfl ((L.alloc _).alloc _) ⟨wr.heap.size+1,0,none⟩ 1 1 [.int .i64 _,.int .i64 V] rfl rfl (px _ _ _ _ _ (by simp)) (pw _ _) (by unfold maxLen;omega) (by omega) (by simp;omega) ?_;intro m8 n0 K G _;obtain⟨l4,k4,c7⟩:=lH (by omega) K;subst c7;have u:=(G.block k (by simp;omega) h9).trans (au (au (U t) _) _);have Y:=ab u 2;have j2:=an u 2;simp only[List.getElem?_toArray,List.getElem?_cons_zero,List.getElem?_cons_succ]at Y;have a6:=R u;have a9:=R K;have b1:=R (aA.below (((U E).alloc _).alloc _) (nL (by simp;omega) G (nd L)));clear u K G);go_roundw;case rel=>exact⟨a+1,_,by omega,by go_num,ay (U a6) 2 _,by rw[U l,U a7];exact ownsRow_setCell_below (U a9) b8 _,(U b1).setCell (p:=⟨k,2,none⟩) (.inl rfl) _⟩
        case measure=>simp[intOf];omega
       ·have j:aN H (a+1)=aN H a:=by
         conv=>lhs;unfold aN
         rw[if_neg f]
        have q:pick H (fun a=>bX H (g.code.getD a (0,0))) (a+1)=pick H (fun a=>bX H (g.code.getD a (0,0))) a:=by
         conv=>lhs;unfold pick
         rw[if_neg f]
        have l:=R j;have b0:=R q;have I:∀d,(wr.alloc (.cells #[.int .i64 h,d] 72)).cell? ⟨b2,b4+a,none⟩=some (.int .i64 (H.getD a 0)):=fun d=>((J.refl wr).alloc _).cell y;clear j q Q x O P z a1 y v;generalize H.getD a 0=a3 at I f;go_wp2;go_roundw;case rel=>exact⟨a+1,_,by omega,by go_num,au (U t) _,by rw[U l,U b0];exact(U D).alloc _,(U E).alloc _⟩
        case measure=>simp[intOf];omega
     ·have h5:a=H.length:=by have:=U a8;omega
      have c0:=U D;rw[h5]at c0;have n7:w.heap.size<s.heap.size:=Nat.lt_of_lt_of_le (Array.getElem?_eq_some_iff.1 (U e2)).1 (U C).size;have b3:w.heap.size<wc.heap.size:=by omega
      have c2:∀u0 u1 u2,dR wc.heap.size (((wr.setCell ⟨w.heap.size,0,none⟩ u0).setCell ⟨w.heap.size,1,none⟩ u1).setCell ⟨w.heap.size,2,none⟩ u2) r (dJ H g.code):=fun u0 u1 u2=>tm (c:=dJ H g.code) (ownsRow_setCell_below (ownsRow_setCell_below (ownsRow_setCell_below c0 b3 u0) b3 u1) b3 u2) (iq H g.code).symm (by rw[iq];have:=ja H H.length;have:=U a8;omega);obtain⟨i9,g2,l8,_,_⟩:=c2 undef undef undef;subst l8;have A:=aw ((U C).trans a0) (U e2);have l1:=ab (U t) 0;have l2:=ab (U t) 1;have l3:=ab (U t) 2;have k9:=ab A 0;have l0:=ab A 1;have Y:=ab A 2;have o6:=an A 0;have o7:=an A 1;have j2:=an A 2;simp only[List.getElem?_toArray,List.getElem?_cons_zero,List.getElem?_cons_succ]at l1 l2 l3 k9 l0 Y;have j7:=R c2;have k2:=R A;have j9:=R Z;clear h5 c0 c2 A a0 Z k8;go_wp2;have c5:=ay (ay (ay (U k2) 0 (.int .i64 g.args)) 1 (.int .i64 g.locals)) 2 (.slice i9 (dJ H g.code).length g2);have k0:=ab c5 0;have i7:=ab c5 1;have i8:=ab c5 2;simp only[Array.setIfInBounds,List.size_toArray,List.length_cons,List.length_nil]at k0 i7 i8;refine bodyPost_ret (v:=.agg #[.int .i64 g.args,.int .i64 g.locals,.slice i9 (dJ H g.code).length g2]) (by simp[results,results52,go_sem,k0,i7,i8]) rfl ?_;exact⟨_,rfl,((U j7) _ _ _).mono (Nat.le_of_lt b3),(((U j9).setCell (p:=⟨w.heap.size,0,none⟩) (Nat.le_refl _) _).setCell (p:=⟨w.heap.size,1,none⟩) (Nat.le_refl _) _).setCell (p:=⟨w.heap.size,2,none⟩) (Nat.le_refl _) _⟩
theorem GK(p:List Fn)(v:Value)(k:Nat)(w:World)(j:aK w v p)(m:bo p k=0)(g:bG p (codeOf p k)=some (fe p k)):Calls prog 52 #[v,.int .i64 k] w fun b H=>pO (dQ p k).args (dQ p k).locals (dQ p k).code w b H:=by
 obtain⟨E,L,h,B,M,i⟩:=gN m;obtain rfl:k=E:=by omega
 have x:du p (codeOf p k):=⟨p.getD k Fn.zero,rfl,gh i⟩;obtain⟨f,_⟩:=iV x g;have A:(fe p k).length=(p.getD k Fn.zero).code.length:=f.len;have l:0<(p.getD k Fn.zero).code.length:=f.pos;have C:∀a,J w a→Calls prog 75 #[v,.int .i64 k] a fun b c=>∃v,b=.returned (.tuple #[v,.bool true])∧bN c v (fe p k)∧J a c:=fun a D=>by refine(wB p v k a (j.kept D) m).mono ?_;rintro b c⟨I,d,h2,h3⟩;rw[g]at d h2;exact⟨I,d,h2,h3⟩
 obtain⟨N,t,rfl,_,z⟩:=id j;obtain⟨n,F,K,rfl,q,r,s,e⟩:=z k _ (aD p k Fn.zero h);obtain⟨O,u,rfl,_,y⟩:=id e;obtain⟨o,G,rfl,_,_⟩:=y 0 _ (aD _ 0 (0,0) l);exact GL k n F _ t o G _ u (fe p k) _ w h q r s e rfl B l A.symm (Df (gh i)) C
theorem Cz(p:List Fn)(v:Value)(f:Int)(w:World)(a:aK w v p)(b:bo p f≠0):Calls prog 54 #[v,.int .i64 f] w fun d k=>iO p f w d k:=by
 obtain⟨o,m,rfl,_,_⟩:=id a;have n:(bo p f !=0)=true:=by rw[bne_iff_ne];exact b
 have h:bH p f=([],bo p f):=by unfold bH;rw[if_neg b]
 have c:=R h;have j:=R a;clear a b h;go_enter func54,ntmps54;go_wp2_with fail;refine(qy p _ f _ (U j)).mono ?_;rintro d r⟨rfl,g⟩;have i:=R g;clear g;generalize e:bo p f=q at*;have l:=R e;clear e;go_wp2;go_ret2;exact⟨.slice none 0 0,by rw[U c];rfl,by rw[U c];exact bN.nil _,U i⟩
theorem CA(p:List Fn)(g:Fn)(i b o cap:Nat)(n:Option Addr)(m h:Nat)(w:World)(k:aK w (.slice (some ⟨b,o,none⟩) p.length cap) p)(G:i<p.length)(x:p.getD i Fn.zero=g)(u:w.cell? ⟨b,o+i*3+2,none⟩=some (.slice n m h))(v:ev w (.slice n m h) g.code)(A:m=g.code.length)(H:m≤24)(l:bo p i=0)(B:dY p g g.code=0):Calls prog 54 #[.slice (some ⟨b,o,none⟩) p.length cap,.int .i64 i] w fun d L=>iO p i w d L:=by
 have bd:bH p i=match bG p g.code with|some q=>(q,0)|none=>([],1):=by unfold bH;rw[if_pos l,Int.toNat_natCast,x];rfl
 have j:=qy p (.slice (some ⟨b,o,none⟩) p.length cap) i w k;rw[l]at j;have C:∀c,J w c→Calls prog 75 #[.slice (some ⟨b,o,none⟩) p.length cap,.int .i64 i] c fun d K=>pL p g.code c d K:=fun c a=>wv p g i b o cap n m h c (k.kept a) G (a.cell u) (v.kept a) A H (fun M I=>gh B M I);have t:=R bd;have D:=R j;have E:=R C;clear bd j C k x u v A l B;go_enter func54,ntmps54;go_wp2_with fail;refine(U D).mono ?_;rintro d N⟨rfl,y⟩;have r:=R y;clear y;go_wp2_with fail;refine((U E) _ (U r)).mono ?_;rintro d O⟨c,rfl,a,z⟩;have s:=R ((U r).trans z);have F:=R a;clear a z;cases f:bG p g.code with
 |none=>have e:=R f;clear f;go_wp2;go_ret2;have bd:=U t;rw[U e]at bd;exact⟨.slice none 0 0,by rw[bd];rfl,by rw[bd];exact bN.nil _,U s⟩
 |some q=>have e:=R f;clear f;go_wp2;go_ret2;have bd:=U t;rw[U e]at bd;have a:=U F;rw[U e]at a;exact⟨c,by rw[bd];rfl,by rw[bd];exact a,U s⟩
theorem Cy(p:List Fn)(v:Value)(f:Int)(w:World)(a:aK w v p):Calls prog 54 #[v,.int .i64 f] w fun k r=>iO p f w k r:=by
 by_cases b:bo p f=0;·obtain⟨c,rfl,e,m,y,n⟩:=gN b;obtain⟨z,i,rfl,x,l⟩:=id a;obtain⟨g,o,u,rfl,s,t,h,d⟩:=l c _ (aD p c Fn.zero e);obtain⟨q,j,rfl,_,_⟩:=id d;exact CA p _ c g o i q _ j w a e rfl h d rfl m b n
 ·exact Cz p v f w a b
theorem wV(c:UInt8)(b:List UInt8):∀(a:List UInt8),c∉a→ao c (a++c::b)=a::ao c b
 |[],_=>by simp[ao]
 |e::a,d=>by
  have i:=wV c b a (fun h=>d (by simp[h]));have g:e≠c:=fun f=>d (by simp[f]);rw[List.cons_append];conv=>lhs;unfold ao
  rw[if_neg g,i]
structure eM(c:UInt8)(l:List UInt8)(xs:List (List UInt8))(a i:Nat):Prop where
 le:a≤i
 len:i≤l.length
 cut:ao c l=xs++ao c (l.drop a)
 no:c∉(l.take i).drop a
 JV:xs.length≤a
theorem eM.start(c:UInt8)(l:List UInt8):eM c l [] 0 0:=⟨Nat.le_refl _,Nat.zero_le _,by simp,by simp,Nat.zero_le _⟩
theorem IQ{l:List UInt8}{i:Nat}{b:UInt8}(c:l[i]?=some b){a:Nat}(d:a≤i):(l.take (i+1)).drop a=(l.take i).drop a++[b]:=by have e:=(List.getElem?_eq_some_iff.1 c).1;rw[List.take_add_one,c,List.drop_append_of_le_length (by simp;omega)];rfl
theorem eM.on{c:UInt8}{l:List UInt8}{xs:List (List UInt8)}{a i:Nat}(d:eM c l xs a i){b:UInt8}(f:l[i]?=some b)(g:b≠c):eM c l xs a (i+1):=by
 refine⟨Nat.le_succ_of_le d.le,(List.getElem?_eq_some_iff.1 f).1,d.cut,?_,d.JV⟩;rw[IQ f d.le];intro e;rcases List.mem_append.1 e with e|e;·exact d.no e
 ·exact g (List.mem_singleton.1 e).symm
theorem eM.hit{c:UInt8}{l:List UInt8}{xs:List (List UInt8)}{a i:Nat}(b:eM c l xs a i)(d:l[i]?=some c):eM c l (xs++[(l.take i).drop a]) (i+1) (i+1):=by
 have g:=(List.getElem?_eq_some_iff.1 d).1;refine⟨Nat.le_refl _,g,?_,by simp,by simp;have:=b.JV;have:=b.le;omega⟩;have e:l.drop a=(l.take i).drop a++c::l.drop (i+1):=by
  have f:l=l.take i++c::l.drop (i+1):=by have:=(List.getElem?_eq_some_iff.1 d).2;rw[←this,List.getElem_cons_drop,List.take_append_drop]
  conv=>lhs;rw[f]
  rw[List.drop_append_of_le_length (by simp;have:=b.le;omega)]
 rw[b.cut,e,wV c _ _ b.no];simp
theorem eM.last{c:UInt8}{l:List UInt8}{xs:List (List UInt8)}{a:Nat}(b:eM c l xs a l.length):ao c l=xs++[(l.take l.length).drop a]:=by have d:=b.no;rw[List.take_length]at d⊢;rw[b.cut,rX d]
open Go.RowKit Go.Maps
theorem wU(l:List UInt8)(a i:Nat)(b:a≤i)(h2:i≤l.length)(u:World):(Instr.slice 9 (.string ⟨l.toArray⟩) (some (.int .i64 (a:Int))) (some (.int .i64 (i:Int))) none).run prog u=.ok (.string ⟨((l.take i).drop a).toArray⟩) u:=by
 have c:(ByteArray.mk l.toArray).size=l.length:=by simp[ByteArray.size]
 simp[Instr.slice,Instr.sliceBounds,Instr.sliceBound,asIntOf,run_underlying underlying9,c,b,h2];apply ByteArray.ext;simp[ByteArray.data_extract,List.drop_take]
def jh(w wr:World)(c:UInt8)(l:List UInt8)(k a:Nat)(v:Value):Prop:=∃b,wr.ownsRow w.heap.size 9 1 v b.length (b.map aG)∧J w wr∧((k≤l.length∧eM c l b a k)∨(k=l.length+1∧b=ao c l))
theorem jh.add{w wr:World}{c:UInt8}{l:List UInt8}{k a:Nat}{v:Value}{xs:List (List UInt8)}(n:l.length≤10000)(g:wr.ownsRow w.heap.size 9 1 v xs.length (xs.map aG))(f:J w wr)(e:eM c l xs a k)(y:List UInt8):∃d b,(Builtin.append_ #[38,38] 38 #[v,.slice (some ⟨wr.heap.size,0,none⟩) 1 1]).run prog (wr.alloc (.cells #[.string ⟨y.toArray⟩] 9))=.ok d b∧b.ownsRow w.heap.size 9 1 d (xs++[y]).length ((xs++[y]).map aG)∧J w b:=by obtain⟨d,b,i,j,m,_⟩:=lM 9 38 1 16 _ underlying38 mW rfl (by decide) (by decide) w.heap.size wr v xs.length (xs.map aG) [aG y] g f.size (by have:=e.JV;have:=e.le;have:=e.len;omega) rfl (fun o h=>by obtain rfl:=List.mem_singleton.1 h;rfl);exact⟨d,b,i,by simpa using j,Below.trans f m⟩
theorem rP(w:World)(l:List UInt8)(c:UInt8)(Q:l.length≤10000):Calls prog 43 #[.string ⟨l.toArray⟩,.int .u8 (c.toNat:Nat)] w fun G r=>∃K,G=.returned K∧r.ownsRow w.heap.size 9 1 K (ao c l).length ((ao c l).map aG)∧J w r:=by
 have a3:(ByteArray.mk l.toArray).size=l.length:=by simp[ByteArray.size]
 have s:Hid (∀(a:Nat)(c:UInt8),l[a]?=some c→∀g,(Instr.index 9 (.string ⟨l.toArray⟩) (.int .i64 (a:Int))).run prog g=.ok (.int .u8 (c.toNat:Nat)) g):=R (fun a c f g=>qJ f g);have o:Hid (∀(b q:Nat),b≤q→q≤l.length→∀g,(Instr.slice 9 (.string ⟨l.toArray⟩) (some (.int .i64 (b:Int))) (some (.int .i64 (q:Int))) none).run prog g=.ok (.string ⟨((l.take q).drop b).toArray⟩) g):=R (fun b q N h2 g=>wU l b q N h2 g);have D:Hid (jh w w c l 0 0 (.slice none 0 0)):=R ⟨[],World.ownsRow_nil _ _ _ _,J.refl w,.inl ⟨Nat.zero_le _,eM.start c l⟩⟩;have E:Hid (l.length≤10000):=R Q;generalize H:l.length=m at*;have d:=R H;generalize O:(ByteArray.mk l.toArray)=X at*;clear O H;go_enter func43,ntmps43;go_wp2_with fail;go_loopw[5,6,7](fun T V A wr=>∃(a b:Nat),a≤m+1∧V=.int .i64 (b:Int)∧A=.int .i64 (a:Int)∧Hid (jh w wr c l a b T))(fun _ _ A _=>m+1-(intOf A).toNat);case atStart=>exact⟨0,0,Nat.zero_le _,rfl,rfl,D⟩
 case round=>
  obtain⟨a,b,a1,rfl,rfl,F⟩:=hrel;clear D;obtain⟨C,j,i,n⟩:=U F;clear F;have Z:(0:Int)≤(a:Int):=by omega
  by_cases I:a<m
  ·obtain⟨h,u⟩:∃h,l[a]?=some h:=⟨_,List.getElem?_eq_getElem (by rw[U d];exact I)⟩;have e:eM c l C b a:=by
    rcases n with⟨_,f⟩|⟨f,_⟩;·exact f
    ·have:=U d;omega
   have Y:=(U s) a h u;have P:(a:Int)≤(m:Int):=by omega
   have z:((a:Int)==(m:Int))=false:=by simp;omega
   by_cases y:h=c
   ·subst y;obtain⟨B,r,p,x,v⟩:=jh.add (U d▸U E) j i e ((l.take a).drop b);have k:Hid (jh w r h l (a+1) (a+1) B):=R ⟨_,x,v,.inl ⟨by have:=U d;omega,e.hit u⟩⟩;have S:=(U o) b a e.le (by omega);have t:=R p;generalize(ByteArray.mk ((l.take a).drop b).toArray)=M at*;generalize h.toNat=L at*;clear p x v j i e n u s o;go_wp2_with(at_builtin;refine U ?_);refine R ?_;refine ir _ rfl _ _ 38 rfl rfl rfl (U t) ?_;clear t;go_wp2_with fail;go_roundw;case rel=>exact⟨a+1,a+1,by omega,by go_num,by go_num,k⟩
    case measure=>simp[intOf];omega
   ·have k:Hid (jh w wr c l (a+1) b u5):=R ⟨C,j,i,.inl ⟨by have:=U d;omega,e.on u y⟩⟩;have a2:((h.toNat:Int)==(c.toNat:Int))=false:=by simp only[beq_eq_false_iff_ne,ne_eq];intro G;exact y (UInt8.toNat_inj.1 (by omega))
    generalize h.toNat=L at*;generalize c.toNat=W at*;clear j i e n u s o y;go_wp2_with fail;go_roundw;case rel=>exact⟨a+1,b,by omega,rfl,by go_num,k⟩
    case measure=>simp[intOf];omega
  ·by_cases z:a=m
   ·have e:eM c l C b l.length:=by
     rcases n with⟨_,f⟩|⟨f,_⟩;·rw[U d,←z];exact f
     ·have:=U d;omega
    obtain⟨B,r,p,x,v⟩:=jh.add (U d▸U E) j i e ((l.take l.length).drop b);have k:Hid (jh w r c l (a+1) (a+1) B):=R ⟨_,x,v,.inr ⟨by have:=U d;omega,e.last.symm⟩⟩;have S:=(U o) b a (by have:=e.le;have:=U d;omega) (by omega);rw[show(l.take l.length)=l.take a by rw[U d,z]]at p;have t:=R p;generalize(ByteArray.mk ((l.take a).drop b).toArray)=M at*;subst z;clear p x v j i e n s o I;have P:(a:Int)≤(a:Int):=by omega
    go_wp2_with(at_builtin;refine U ?_);refine R ?_;refine ir _ rfl _ _ 38 rfl rfl rfl (U t) ?_;clear t;go_wp2_with fail;go_roundw;case rel=>exact⟨a+1,a+1,by omega,by go_num,by go_num,k⟩
    case measure=>simp[intOf]
   ·have a0:¬(a:Int)≤(m:Int):=by omega
    have k:Hid (wr.ownsRow w.heap.size 9 1 u5 (ao c l).length ((ao c l).map aG)∧J w wr):=R (by
     rcases n with⟨f,_⟩|⟨_,f⟩;·have:=U d;omega
     ·rw[←f];exact⟨j,i⟩);clear j i n s o;go_wp2_with fail;go_ret;exact⟨_,rfl,U k⟩
theorem iH(a b:List UInt8)(c:a.length+b.length≤1000000):(ByteArray.mk a.toArray)++(ByteArray.mk b.toArray)=⟨(a++b).toArray⟩∧¬9223372036854775807<(ByteArray.mk a.toArray).size+(ByteArray.mk b.toArray).size:=by refine⟨mX a b,?_⟩;simp only[ByteArray.size,List.size_toArray];omega
theorem BA(a b:Int):cJ [102,117,110,99] [a,b]=[102,117,110,99,32]++Lib.itoa a++[32]++Lib.itoa b++[10]:=by simp[cJ,Lib.join_cons,Lib.joinTail]
theorem Gt(w:World)(p:List Fn)(g9:Value)(j5:aK w g9 p)(b0:gL p):Calls prog 47 #[g9] w fun m n=>m=.returned (aG (bI p))∧J w n:=by
 have a3:=R b0;obtain⟨n3,l7,rfl,j3,V⟩:=j5;have h2:=R V;have n0:=b0.len;generalize e0:p.length=L at*;have q:=R e0;clear b0 V e0 j3;go_enter func47,ntmps47;go_wp2_with fail;go_loopw[3,4](fun b5 b6 wr=>∃b:Nat,b≤L∧b6=.int .i64 b∧b5=.string ⟨((p.take b).flatMap bL).toArray⟩∧Hid (J w wr))(fun _ b6 _=>L-(intOf b6).toNat);case atStart=>exact⟨0,Nat.zero_le _,rfl,rfl,R (J.refl w)⟩
 case round=>
  obtain⟨b,m9,rfl,rfl,c5⟩:=hrel;by_cases j1:b<L
  ·obtain⟨a,T⟩:∃a,p[b]?=some a:=⟨_,List.getElem?_eq_getElem (by rw[U q];exact j1)⟩;obtain⟨l6,n5,l9,rfl,i4,i5,a6,i9⟩:=(U h2) b a T;have m5:(0:Int)≤(b:Int):=by omega
   have m6:(b:Int)<(L:Int):=by omega
   obtain⟨n4,l8,rfl,j4,g0⟩:=i9;obtain⟨i7,j2,m1,g2⟩:=(U a3).fn a (List.mem_of_getElem? T);have b1:=sb (U a3) b;have j8:=gP (z:=a.args) (by unfold aI;omega);have j9:=gP (z:=a.locals) (by unfold aI;omega);obtain⟨Y,D⟩:=iH ((p.take b).flatMap bL) [102,117,110,99,32] (by simp only[List.length_cons,List.length_nil];omega);obtain⟨Z,E⟩:=iH ((p.take b).flatMap bL++[102,117,110,99,32]) (Lib.itoa a.args) (by simp only[List.length_append,List.length_cons,List.length_nil];omega);obtain⟨a0,F⟩:=iH ((p.take b).flatMap bL++[102,117,110,99,32]++Lib.itoa a.args) [32] (by simp only[List.length_append,List.length_cons,List.length_nil];omega);obtain⟨a1,G⟩:=iH ((p.take b).flatMap bL++[102,117,110,99,32]++Lib.itoa a.args++[32]) (Lib.itoa a.locals) (by simp only[List.length_append,List.length_cons,List.length_nil];omega);obtain⟨O,k⟩:=iH ((p.take b).flatMap bL++[102,117,110,99,32]++Lib.itoa a.args++[32]++Lib.itoa a.locals) [10] (by simp only[List.length_append,List.length_cons,List.length_nil];omega);have b9:Hid (∀h,Calls prog 11 #[.int .i64 a.args] h fun m n=>m=.returned (.string ⟨(Lib.itoa a.args).toArray⟩)∧J h n):=R fun h=>nF i7.1 (by omega) h;have c0:Hid (∀h,Calls prog 11 #[.int .i64 a.locals] h fun m n=>m=.returned (.string ⟨(Lib.itoa a.locals).toArray⟩)∧J h n):=R fun h=>nF j2.1 (by omega) h;have c4:Hid ((p.take b).flatMap bL++[102,117,110,99,32]++Lib.itoa a.args++[32]++Lib.itoa a.locals++[10]=(p.take b).flatMap bL++cJ [102,117,110,99] [a.args,a.locals]):=R (by rw[BA];simp);rw[U c4]at O;generalize(ByteArray.mk ((p.take b).flatMap bL).toArray)=c7 at*;generalize(ByteArray.mk ((p.take b).flatMap bL++[102,117,110,99,32]).toArray)=l2 at*;generalize(ByteArray.mk ((p.take b).flatMap bL++[102,117,110,99,32]++Lib.itoa a.args).toArray)=h8 at*;generalize(ByteArray.mk ((p.take b).flatMap bL++[102,117,110,99,32]++Lib.itoa a.args++[32]).toArray)=l3 at*;generalize(ByteArray.mk ((p.take b).flatMap bL++[102,117,110,99,32]++Lib.itoa a.args++[32]++Lib.itoa a.locals).toArray)=h9 at*;generalize e6:(ByteArray.mk ((p.take b).flatMap bL++cJ [102,117,110,99] [a.args,a.locals]).toArray)=l4 at*;generalize(ByteArray.mk (Lib.itoa a.args).toArray)=k7 at*;generalize(ByteArray.mk (Lib.itoa a.locals).toArray)=k8 at*;replace D:¬9223372036854775807<c7.size+5:=D;replace F:¬9223372036854775807<h8.size+1:=F;replace k:¬9223372036854775807<h9.size+1:=k;have h6:=R e6;have h1:=R T;have c3:=R g2;have h3:=R g0;have l0:=R a6;clear e6 T g2 g0 b1 j8 j9 j4 c4;go_wp2_with fail;refine wp_region_held_drew (S:=fun X=>J w X) (by kernel_rfl) (U c5).drew (fun c=>?_);refine bQ [0,1,2,3,4,5,6,10,11,12,13,14] ?_;repeat
    refine bS (v:=?_) c (fun h I=>?_) ?_;rotate_left;·(have b8:=J.cell I i4;have k6:=J.cell I i5;(try dsimp only at b8 k6);go_simp)<;>with_reducible rfl
    try simp only[PS]
   refine bO ?_;refine take_one (i:=7) rfl (by kernel_rfl) (fun g d=>?_);go_simp;refine((U b9) _).mono ?_;rintro _ k1⟨rfl,g4⟩;have e3:J w k1:=c.trans g4;clear g4;refine d.out _ _ e3 (fun c=>?_);clear d g;try simp only[PS]
   refine bQ [8,9] ?_;repeat
    refine bS (v:=?_) c (fun h I=>?_) ?_;rotate_left;·go_simp<;>with_reducible rfl
    try simp only[PS]
   refine bO ?_;refine take_one (i:=15) rfl (by kernel_rfl) (fun g d=>?_);go_simp;refine((U c0) _).mono ?_;rintro _ k2⟨rfl,g5⟩;have e4:J w k2:=c.trans g5;clear g5;refine d.out _ _ e4 (fun c=>?_);clear d g;try simp only[PS]
   refine take_one (i:=16) rfl (by kernel_rfl) (fun g d=>?_);go_simp;refine d.out _ _ c (fun c=>?_);clear d g;try simp only[PS]
   refine take_one (i:=17) rfl (by kernel_rfl) (fun g d=>?_);go_simp;refine d.out _ _ c (fun c=>?_);clear d g;try simp only[PS]
   refine take_one (i:=18) rfl (by kernel_rfl) (fun g d=>?_);go_simp;refine d.out _ _ c (fun c=>?_);clear d g;try simp only[PS]
   refine wpAnyH_done (by kernel_rfl) ?_ _;have h4:=R c;clear c e3 e4 Y Z a0 a1 O D E F G k b9 c0;go_wp2_with fail;generalize e1:a.code.length=M at*;have c2:=R e1;clear e1;go_loopw[3,5](fun b5 b7 k4=>∃e:Nat,e≤M∧b7=.int .i64 e∧b5=.string ⟨((p.take b).flatMap bL++cJ [102,117,110,99] [a.args,a.locals]++(a.code.take e).flatMap cM).toArray⟩∧Hid (J w k4))(fun _ b7 _=>M-(intOf b7).toNat);case atStart=>exact⟨0,Nat.zero_le _,rfl,by rw[←U h6];simp,h4⟩
   case round=>
    obtain⟨e,m4,rfl,rfl,r⟩:=hrel;by_cases V:e<M
    ·obtain⟨N,W⟩:∃N,a.code[e]?=some N:=⟨_,List.getElem?_eq_getElem (by rw[U c2];exact V)⟩;obtain⟨l5,n2,rfl,c8,c9⟩:=(U h3) e N W;replace c8:=(U r).cell c8;replace c9:=(U r).cell c9;have i6:=(U r).cell a6;have m2:(0:Int)≤(e:Int):=by omega
     have m3:(e:Int)<(M:Int):=by omega
     obtain⟨b2,g3,n1⟩:=(U c3) N (List.mem_of_getElem? W);obtain⟨f,i⟩:=N;obtain⟨f,rfl⟩:=Int.eq_ofNat_of_zero_le b2.1;have g1:f<17:=by have:=b2.2;omega
     have i8:0≤i∧i≤999:=g3;obtain⟨j,s⟩:∃h7,h7=(p.take b).flatMap bL++cJ [102,117,110,99] [a.args,a.locals]++(a.code.take e).flatMap cM:=⟨_,rfl⟩;have b1:j.length≤20000:=by have n6:=sb (U a3) b;have n7:=lg [102,117,110,99] [a.args,a.locals] (by simp) (by simp) (by simp;unfold aI;omega);have n8:=jZ cM 100 (a.code.take e) (fun k5 j7=>oy ((U c3) k5 (List.mem_of_mem_take j7)).2.1);have n9:(a.code.take e).length*100≤24*100:=Nat.mul_le_mul_right _ (by simp;omega);rw[s];simp only[List.length_append];omega
     rw[←s];have j6:=mY f;have j0:=gP (z:=i) (by unfold aI;omega);obtain⟨Y,D⟩:=iH j (aJ.getD f ([],0)).1 (by omega);obtain⟨Z,E⟩:=iH (j++(aJ.getD f ([],0)).1) [32] (by simp only[List.length_append,List.length_cons,List.length_nil];omega);obtain⟨a0,F⟩:=iH (j++(aJ.getD f ([],0)).1++[32]) (Lib.itoa i) (by simp only[List.length_append,List.length_cons,List.length_nil];omega);obtain⟨a1,G⟩:=iH (j++(aJ.getD f ([],0)).1) [10] (by simp only[List.length_append,List.length_cons,List.length_nil];omega);obtain⟨O,k⟩:=iH (j++(aJ.getD f ([],0)).1++[32]++Lib.itoa i) [10] (by simp only[List.length_append,List.length_cons,List.length_nil];omega);have c1:Hid (∀h,Calls prog 11 #[.int .i64 i] h fun m n=>m=.returned (.string ⟨(Lib.itoa i).toArray⟩)∧J h n):=R fun h=>nF i8.1 (by omega) h;have Q:=R W;generalize e2:(ByteArray.mk j.toArray)=c7 at*;clear W b1 j6 j0 b2 g3;go_wp2_with fail;obtain⟨a5,a9⟩:∃k0,k0=wr.heap.size:=⟨_,rfl⟩;rw[←a9];have c6:Hid (J w (wr.alloc (.cells #[.int .i64 (f:Int),.int .i64 i] 72))∧(wr.alloc (.cells #[.int .i64 (f:Int),.int .i64 i] 72)).heap[a5]?=some (.cells #[.int .i64 (f:Int),.int .i64 i] 72)):=R ⟨(U r).alloc _,by rw[a9];exact ah rfl⟩;refine wp_region_held_drew (S:=fun X=>J w X∧X.heap[a5]?=some (.cells #[.int .i64 (f:Int),.int .i64 i] 72)) (by kernel_rfl) ⟨(U c6).1.drew,(U c6).2⟩ (fun c=>?_);clear a9;refine bQ [0,2,3] ?_;repeat
      refine bS (v:=?_) c (fun h I=>?_) ?_;rotate_left;·(have b8:=ab I.2 0;(try dsimp only at b8);go_simp)<;>with_reducible rfl
      try simp only[PS]
     refine bO ?_;refine take_one (i:=1) rfl (by kernel_rfl) (fun g d=>?_);go_simp;refine(mN _).mono ?_;rintro _ h0⟨m0,rfl,g8,b3⟩;have e5:J w h0∧h0.heap[a5]?=some (.cells #[.int .i64 (f:Int),.int .i64 i] 72):=⟨c.1.trans b3,aw b3 c.2⟩;have g7:=g8 f g1;clear b3 g8;refine d.out _ _ e5 (fun c=>?_);clear d g;try simp only[PS]
     unfold aG at g7;have m7:(0:Int)≤(f:Int):=by omega
     have m8:(f:Int)<17:=by omega
     have o:=R fun h=>Cw f g1 h;have P:Hid (cM ((f:Int),i)=if(aJ.getD f ([],0)).2=0 then(aJ.getD f ([],0)).1++[10]else(aJ.getD f ([],0)).1++[32]++Lib.itoa i++[10]):=R (by unfold cM;simp only[Int.toNat_natCast];split<;>simp[cJ,Lib.join_cons,Lib.joinTail]);generalize(aJ.getD f ([],0)).2=b4 at*;generalize(aJ.getD f ([],0)).1=x at*;generalize(ByteArray.mk x.toArray)=l1 at*;generalize e7:(ByteArray.mk (j++x).toArray)=T1 at*;refine take_one (i:=4) rfl (by kernel_rfl) (fun g d=>?_);go_simp;refine d.out _ _ c (fun c=>?_);clear d g;try simp only[PS]
     refine take_one (i:=5) rfl (by kernel_rfl) (fun g d=>?_);go_simp;refine d.out _ _ c (fun c=>?_);clear d g;try simp only[PS]
     refine take_one (i:=6) rfl (by kernel_rfl) (fun g d=>?_);go_simp;refine d.out _ _ c (fun c=>?_);clear d g;try simp only[PS]
     refine take_one (i:=7) rfl (by kernel_rfl) (fun g d=>?_);go_simp;refine d.out _ _ c (fun c=>?_);clear d g;try simp only[PS]
     refine wpAnyH_done (by kernel_rfl) ?_ _;have B:=R c;clear c e5 g7 Y D;have y:=ab (U B).2 0;have A:=ab (U B).2 1;simp only[List.getElem?_toArray,List.getElem?_cons_zero,List.getElem?_cons_succ]at y A;generalize e8:(ByteArray.mk (j++x++[32]).toArray)=T2 at*;generalize e9:(ByteArray.mk (j++x++[32]++Lib.itoa i).toArray)=i1 at*;generalize a7:(ByteArray.mk (j++x++[10]).toArray)=i2 at*;generalize a8:(ByteArray.mk (j++x++[32]++Lib.itoa i++[10]).toArray)=i3 at*;generalize(ByteArray.mk (Lib.itoa i).toArray)=k9 at*;replace E:¬9223372036854775807<T1.size+1:=E;replace G:¬9223372036854775807<T1.size+1:=G;replace k:¬9223372036854775807<i1.size+1:=k;by_cases t:b4=0
     ·have q:Hid (i2=⟨((p.take b).flatMap bL++cJ [102,117,110,99] [a.args,a.locals]++(a.code.take (e+1)).flatMap cM).toArray⟩):=R (by rw[mA cM a.code (U Q),U P,if_pos t,←a7,s];simp);have K:(b4 !=0)=false:=by simp[t]
      rw[K]at o;clear e7 e8 e9 a7 a8 K t s e2 Z a0 O E F k P Q;go_wp2_with fail;refine((U o) _).mono ?_;rintro _ k3⟨rfl,u⟩;have C:=R ((U B).1.trans u);clear u y A o;go_wp2_with fail;go_roundw;case rel=>exact⟨e+1,by omega,by go_num,by rw[←U q],C⟩
      case measure=>simp[intOf];omega
     ·have q:Hid (i3=⟨((p.take b).flatMap bL++cJ [102,117,110,99] [a.args,a.locals]++(a.code.take (e+1)).flatMap cM).toArray⟩):=R (by rw[mA cM a.code (U Q),U P,if_neg t,←a8,s];simp);have K:(b4 !=0)=true:=by simpa using t
      rw[K]at o;clear e7 e8 e9 a7 a8 K t s e2 a1 G P Q;go_wp2_with fail;refine((U o) _).mono ?_;rintro _ k3⟨rfl,u⟩;have C:=R (And.intro ((U B).1.trans u) (aw u (U B).2));clear u y A o;have y:=ab (U C).2 0;have A:=ab (U C).2 1;simp only[List.getElem?_toArray,List.getElem?_cons_zero,List.getElem?_cons_succ]at y A;go_wp2_with fail;refine((U c1) _).mono ?_;rintro _ o0⟨rfl,g6⟩;have h5:=R ((U C).1.trans g6);clear g6 y A c1;go_wp2_with fail;go_roundw;case rel=>exact⟨e+1,by omega,by go_num,by rw[←U q],h5⟩
      case measure=>simp[intOf];omega
    ·obtain rfl:e=M:=by omega
     have i6:=(U r).cell a6;have a2:Hid (((p.take b).flatMap bL++cJ [102,117,110,99] [a.args,a.locals]++(a.code.take e).flatMap cM)=(p.take (b+1)).flatMap bL):=R (by rw[mA bL p (U h1),List.take_of_length_le (l:=a.code) (by rw[U c2];exact Nat.le_refl _)];simp[bL]);rw[U a2];generalize H:(ByteArray.mk ((p.take (b+1)).flatMap bL).toArray)=i0 at*;have a4:=R H;clear H;go_wp2_with fail;go_roundw;case rel=>exact⟨b+1,by omega,by go_num,by rw[U a4],r⟩
     case measure=>simp[intOf];omega
  ·obtain rfl:b=L:=by omega
   have a2:Hid ((p.take b).flatMap bL=bI p):=R (by rw[List.take_of_length_le (l:=p) (by rw[U q];exact Nat.le_refl _)];rfl);rw[U a2];generalize H:(ByteArray.mk (bI p).toArray)=i0 at*;have a4:=R H;clear H;go_wp2_with fail;go_ret;exact⟨by rw[aG,U a4];rfl,U c5⟩
theorem Ha(b:Nat)(w:World)(v:Value)(xs:List (List UInt8))(g:w.ownsRow b 9 1 v xs.length (xs.map aG))(k:b≤w.heap.size)(y:xs.length≤1000000):∃c e,(Builtin.append_ #[38,38] 38 #[v,.slice (some ⟨w.heap.size,0,none⟩) 2 2]).run prog (w.alloc (.cells #[.string ⟨#[]⟩,.string ⟨#[]⟩] 9))=.ok c e∧e.ownsRow b 9 1 c (xs.length+2) ((xs++[[],[]]).map aG)∧Below b w e:=by
 obtain⟨t,m,q,r,s⟩:=info_parts mW;have j:(w.alloc (.cells #[.string ⟨#[]⟩,.string ⟨#[]⟩] 9)).heap[w.heap.size]?=some (.cells #[.string ⟨#[]⟩,.string ⟨#[]⟩] 9):=ah rfl;obtain⟨c,x,p,o,l,_,_⟩:=run_append_own_at (P:=prog) (w:=w.alloc (.cells #[.string ⟨#[]⟩,.string ⟨#[]⟩] 9)) b 38 38 9 t _ 1 16 underlying38 m q r s rfl (by decide) v xs.length (xs.map aG) (g.alloc _) ⟨w.heap.size,0,none⟩ 2 2 [aG [],aG []] rfl (fun i u n=>by
  have:((⟨w.heap.size,0,none⟩:Addr).add i)=⟨w.heap.size,i,none⟩:=by unfold Addr.add;split<;>simp_all
  rw[this,ab j];simpa[aG]using n) (fun u h=>by simp only[List.mem_cons,List.not_mem_nil,or_false,or_self]at h;subst h;rfl) (by unfold maxLen;omega) (by omega) (by simp;omega);refine⟨c,x,p,by simpa using o,?_⟩;exact Below.grown (a:=w) (w:=w.alloc (.cells #[.string ⟨#[]⟩,.string ⟨#[]⟩] 9)) ⟨rfl,rfl,rfl,by simp,fun d f=>Below.heap_alloc w _ d (by omega)⟩ l (Nat.le_trans k (by simp)) (fun d f=>(World.ownsRow.lt g d f).1)
theorem rW(c:UInt8):∀(l:List UInt8),∀b∈ao c l,b.length≤l.length
 |[],b,a=>by simp[ao]at a;subst a;exact Nat.le_refl _
 |g::l,b,a=>by
  have d:=rW c l;unfold ao at a;split at a
  ·rcases List.mem_cons.1 a with rfl|a;·simp
   ·have:=d b a;simp only[List.length_cons];omega
  ·cases e:ao c l with
   |nil=>exact absurd e (gV c l)
   |cons f h=>
    rw[e]at a d;rcases List.mem_cons.1 a with rfl|a;·have:=d f (by simp);simp only[List.length_cons];omega
    ·have:=d b (by simp[a]);simp only[List.length_cons];omega
theorem wZ(c:UInt8)(l:List UInt8):(ao c l).length≤l.length+1:=by rw[pe];have:=List.count_le_length (a:=c) (l:=l);omega
def mm(n:Nat)(p:List Fn):Prop:=p.length≤n∧∀a∈p,a.code.length≤n
theorem sM(q:List Fn)(f:Fn)(x:Int×Int):fI (q++[f]) x=q++[⟨f.args,f.locals,f.code++[x]⟩]:=by simp[fI]
theorem xZ(x:Int×Int):fI [] x=[]:=rfl
theorem Hu{n:Nat}{p:List Fn}(h:mm n p)(i:List (List UInt8)):mm (n+1) (fk p i):=by
 obtain⟨j,h2⟩:=h;have d:mm (n+1) p:=⟨by omega,fun a b=>Nat.le_succ_of_le (h2 a b)⟩;unfold fk;split
 ·refine⟨by simp;omega,fun a b=>?_⟩;rcases List.mem_append.1 b with b|b;·exact Nat.le_succ_of_le (h2 a b)
  ·obtain rfl:=List.mem_singleton.1 b;simp
 ·split
  ·by_cases e:p=[];·subst e;exact d
   ·obtain⟨f,a,rfl⟩:∃f a,p=f++[a]:=⟨p.dropLast,p.getLast e,(List.dropLast_concat_getLast e).symm⟩;rw[sM];refine⟨by simpa using d.1,fun g c=>?_⟩;rcases List.mem_append.1 c with c|c;·exact d.2 g (by simp[c])
    ·obtain rfl:=List.mem_singleton.1 c;have:=h2 a (by simp);simp;omega
  ·exact d
def eN(l:List UInt8)(k:Nat):List Fn:=gO [] ((ao 10 l).take k)
theorem BZ(l:List UInt8):eN l 0=[]:=rfl
theorem ur{l:List UInt8}{k:Nat}{x:List UInt8}(a:(ao 10 l)[k]?=some x):eN l (k+1)=fk (eN l k) (ao 32 x++[[],[]]):=by unfold eN gO;rw[List.take_add_one,a,List.foldl_append];rfl
theorem BY{l:List UInt8}{k:Nat}(a:(ao 10 l).length≤k):eN l k=cU l:=by unfold eN gO cU;rw[List.take_of_length_le a]
theorem qx(l:List UInt8):∀a,a≤(ao 10 l).length→mm a (eN l a)
 |0,_=>⟨Nat.le_refl _,fun c b=>by simp[BZ]at b⟩
 |a+1,d=>by rw[ur (List.getElem?_eq_getElem (show a<(ao 10 l).length by omega))];exact Hu (qx l a (by omega)) _
def sL(w:World)(g:Nat)(a:Array Value)(d:List (List UInt8)):Prop:=w.heap[g]?=some (.cells a 9)∧∀(b:Nat)c,d[b]?=some c→a[b]?=some (aG c)
theorem sp{b:Nat}{w:World}{v:Value}{n:Nat}{c:List (List UInt8)}(g:w.ownsRow b 9 1 v n (c.map aG))(h:c≠[]):∃a d e,v=.slice (some ⟨a,0,none⟩) n d∧sL w a e c:=by
 obtain⟨q,d,f,_,k⟩:=iG g;cases c with
 |nil=>exact absurd rfl h
 |cons o r=>obtain⟨a,e,rfl,_,j,i⟩:=k 0 (aG o) rfl;exact⟨a,d,e,f,j,fun m p l=>i m (aG p) (by rw[List.getElem?_map,l];rfl)⟩
theorem kY{a:List (List UInt8)}{j:Nat}(b:j<a.length):a[j]?=some (a.getD j []):=by rw[List.getD_eq_getElem?_getD,List.getElem?_eq_getElem b];rfl
theorem cx.KG{b m:Nat}{w w':World}{v j:Value}{p:List Fn}(e:cx b m w v p)(n:p.length≤100000)(x y:Int)(g:(Builtin.append_ #[27,27] 27 #[v,.slice (some ⟨w.heap.size,0,none⟩) 1 1]).run Tryz.prog (w.alloc (.cells #[.int .i64 x,.int .i64 y,.slice none 0 0] 69))=.ok j w'):jl 9 w w':=by obtain⟨k,o,c,f,l⟩:=e;obtain⟨t,u,h,q,r,i⟩:=lM 69 27 3 40 _ underlying27 ua rfl (by decide) (by decide) b w v p.length c [.int .i64 x,.int .i64 y,.slice none 0 0] f (by omega) (by omega) rfl (fun s a=>by simp only[List.mem_cons,List.not_mem_nil,or_false]at a;rcases a with rfl|rfl|rfl<;>rfl);have d:=g.symm.trans h;cases d;exact i _ (by decide)
theorem cx.KL{b m g cap:Nat}{w w':World}{q:List Fn}{f:Fn}{j s:Value}(n:cx b m w (.slice (some ⟨g,0,none⟩) (q.length+1) cap) (q++[f]))(v:w.cell? ⟨g,q.length*3+2,none⟩=some j)(x:Int×Int)(O:f.code.length<100000)(D:(Builtin.append_ #[67,67] 67 #[j,.slice (some ⟨w.heap.size,0,none⟩) 1 1]).run Tryz.prog (w.alloc (.cells #[.int .i64 x.1,.int .i64 x.2] 72))=.ok s w'):jl 9 w (w'.setCell ⟨g,q.length*3+2,none⟩ s)∧jl 9 w w':=by
 obtain⟨h,u,I,P,H,k,rfl,l,K,M,C⟩:=n.last;simp only[Value.slice.injEq,Option.some.injEq,Addr.mk.injEq,and_true,true_and]at k;obtain⟨rfl,rfl⟩:=k;rw[v]at l;cases l;obtain⟨L,A,G,B,N⟩:=n;obtain⟨V,W,E,Q,S,p⟩:=lM 72 67 2 16 _ underlying67 vG rfl (by decide) (by decide) m w _ f.code.length (di f.code) [.int .i64 x.1,.int .i64 x.2] C A (by omega) rfl (fun T o=>by simp only[List.mem_cons,List.not_mem_nil,or_false]at o;rcases o with rfl|rfl<;>rfl);have c:=D.symm.trans E;cases c;have F:=p 69 (by decide);have r:=p 9 (by decide);obtain⟨a,y⟩:∃a,w.heap[g]?=some (.cells a 69):=by
  obtain⟨_,⟨d,_⟩|⟨h,u,a,d,_,i,_⟩⟩:=id B;·cases d
  ·simp only[Value.slice.injEq,Option.some.injEq,Addr.mk.injEq,and_true]at d;obtain⟨rfl,_⟩:=d;exact⟨a,i⟩
 have z:=F g a y;refine⟨fun h t i=>?_,r⟩;have e:=r h t i;exact bD e (fun c=>by simp only at c;subst c;rw[z]at e;simp only[Option.some.injEq,Obj.cells.injEq]at e;exact absurd e.2.1 (by decide)) _
