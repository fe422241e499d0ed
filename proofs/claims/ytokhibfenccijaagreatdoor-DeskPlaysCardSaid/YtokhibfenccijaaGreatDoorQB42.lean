import Derived.Test.YtokhibfenccijaaGreatDoorQB41
set_option maxRecDepth 100000
set_option maxHeartbeats 8000000
namespace Go.Proofs.YtokhibfenccijaaGreatDoor
open Go.Proofs.Tryz
open Go.RowKit
theorem AZ{p:List Fn}{g:Fn}{x:Int×Int}(e:bu p g x=0):∃b a,ct p x.1 x.2=(b,a,0)∧0≤b∧b≤4∧0≤a∧a≤1:=by
 by_cases c:x.1=11;·obtain⟨_,_,h3,d⟩:=jr e c;refine⟨_,_,d,h3,?_,by decide,by decide⟩;obtain⟨_,_,f⟩:=ei e;rw[c]at f;have:=(nZ (show bZ p g 4 x.2=true from f)).2.2;rw[fg]at this;omega
 ·obtain⟨b,a,h,h2,h3,d,i⟩:=nG e c;exact⟨b,a,h,h2,by omega,d,i⟩
theorem wrap_small{z ta lb:Int}(a:0≤z)(b:z≤12)(d:0≤ta)(e:ta≤4)(l0:0≤lb)(c:lb≤1):IntKind.i64.wrap (IntKind.i64.wrap (z-ta)+lb)=z-ta+lb:=by rw[IntKind.wrap_i64,IntKind.wrap_i64];omega
theorem GA{p:List Fn}{c:List (Int×Int)}(d:du p c){k:Nat}{a:Int}(f:Reach p c k a):0≤a∧a≤8:=by refine f (fun _ a=>0≤a∧a≤8) ⟨by omega,by omega⟩ ?_;rintro k a i h g _ e b _;exact gC d (List.mem_of_getElem? e) b
theorem Ir(p:List Fn){c:List (Int×Int)}(b:0<c.length):dK p c ((start c).set 0 0):=by
 intro e d;rw[(pf b).2 e d];split;·rename_i a;subst a;exact .inr ⟨by omega,Reach.zero p c⟩
 ·exact .inl rfl
theorem ox(w:World)(v:Value):∀a c,[v][a]?=some c→(w.alloc (.cells #[v] 3)).cell? ((⟨w.heap.size,0,none⟩:Addr).add a)=some c:=by
 intro a c b;cases a with
 |zero=>simp at b;subst b;exact ab (ah rfl) 0
 |succ a=>simp at b
theorem ow(z:Int):∀a,a∈[Value.int .i64 z]→a.oneCell'=true:=by intro a b;simp only[List.mem_cons,List.not_mem_nil,or_false]at b;subst b;rfl
theorem lH{w:World}{base:Nat}{e:TypeId}{f:Nat}{v:Value}{n:Nat}{xs:List Value}(i:0<n)(c:w.ownsRow base e f v n xs):∃b a,v=.slice (some ⟨b,0,none⟩) n a:=by
 rcases c.2 with⟨_,h⟩|⟨b,a,g,d,_⟩;·omega
 ·exact⟨b,a,d⟩
theorem Cu{w w':World}{o:Obj}{b:Option Nat}(c:(w.alloc o).grownBy w' b)(d:∀a,b=some a→w.heap.size≤a):J w w':=Below.grown ((J.refl w).alloc o) c (by simp) d
theorem drop_one(l:List Nat)(j:Nat)(a:j<l.length):l.drop j=l.getD j 0::l.drop (j+1):=by rw[List.drop_eq_getElem_cons a];simp[List.getD,a]
theorem qB(l:List Nat)(j:Nat)(a:j<l.length):l.getD j 0∈l:=by simp[List.getD,a]
theorem qD{w w':World}{o:Obj}(b:(w.alloc o).grownBy w' (Value.ownBlock (.slice none 0 0))):J w w':=Cu b (fun c a=>by cases a)
theorem sU{a b:World}(c:J a b)(o:Obj):a.heap.size≤(b.alloc o).heap.size:=by have:=c.size;simp;omega
theorem Cv{w a w':World}{o:Obj}{g n c:Nat}(k:J w a)(e:w.heap.size≤g)(d:(a.alloc o).grownBy w' (Value.ownBlock (.slice (some ⟨g,0,none⟩) n c))):J w w':=Below.grown (k.alloc o) d (sU k o) (fun f b=>by cases b;exact e)
theorem oN{w:World}{base g n cap:Nat}{e:TypeId}{xs:List Value}(f:w.ownsRow base e 1 (.slice (some ⟨g,0,none⟩) n cap) n xs):base≤g∧∀b c,xs[b]?=some c→w.cell? ⟨g,b,none⟩=some c:=by
 obtain⟨p,h|⟨o,l,m,d,i,j,_,_,_,k⟩⟩:=f;·cases h.1
 ·simp only[Value.slice.injEq,Option.some.injEq,Addr.mk.injEq]at d;obtain⟨⟨rfl,_⟩,_⟩:=d;refine⟨i,fun b c a=>?_⟩;rw[ab j];rw[←k,List.getElem?_take]at a;split at a;·simpa using a
  ·cases a
def pL(p:List Fn)(c:List (Int×Int))(w:World)(e:Ending)(w':World):Prop:=∃a,e=.returned (.tuple #[a,.bool (bG p c).isSome])∧bN w' a ((bG p c).getD [])∧J w w'
theorem wv(p:List Fn)(g:Fn)(i b o cap:Nat)(r7:Option Addr)(m o0:Nat)(w:World)(q7:aK w (.slice (some ⟨b,o,none⟩) p.length cap) p)(y4:i<p.length)(u5:w.cell? ⟨b,o+i*3+2,none⟩=some (.slice r7 m o0))(o9:ev w (.slice r7 m o0) g.code)(q0:m=g.code.length)(l7:m≤24)(q9:∀a,a∈g.code→bu p g a=0):Calls prog 75 #[.slice (some ⟨b,o,none⟩) p.length cap,.int .i64 i] w fun b8 k1=>pL p g.code w b8 k1:=by
 have y9:=jB m (by omega);have s7:=R q7;have s0:=R o9;have r:=R q0;have T:=R q9;have x8:=R u5;clear q7 o9 q0 q9;go_enter func75,ntmps75;go_wp2;go_loopw[8](fun m6 wr=>∃s:Nat,s≤m∧m6=.int .i64 s∧Hid (bT wr w.heap.size (List.replicate s (-1)++List.replicate (m-s) 0))∧Hid (J w wr))(fun m6 _=>m-(intOf m6).toNat);case atStart=>exact⟨0,Nat.zero_le _,rfl,nN (by simpa using ah rfl),(J.refl _).alloc _⟩
 case round=>
  obtain⟨s,y6,rfl,i9,k5⟩:=hrel;by_cases v6:s<m;·have m5:=(U i9).cell (k:=s) (by simp;omega);have w5:=(U i9).frozen s;have g4:=(U i9).set s (-1);rw[tU v6]at g4;have k9:=R g4;generalize(List.replicate s (-1:Int)++List.replicate (m-s) 0).getD s 0=h at m5;clear g4;go_wp2;exact⟨⟨s+1,by omega,by go_num,k9,R ((U k5).setCell (p:=⟨w.heap.size,s,none⟩) (Nat.le_refl _) _)⟩,by simp[intOf];omega⟩
  ·have p7:s=m:=by omega
   have r2:List.replicate s (-1:Int)++List.replicate (m-s) 0=start g.code:=by have:=U r;rw[p7,Nat.sub_self];simp[start,this]
   have g3:=U i9;rw[r2]at g3;clear r2 p7;by_cases y8:m=0
   ·have v2:((m:Int)==0)=true:=beq_iff_eq.2 (by omega);have q1:bG p g.code=none:=by unfold bG;rw[if_pos (by have:=U r;omega)]
    have n2:=R q1;clear q1 g3;go_wp2;go_ret2;exact⟨.slice none 0 0,by rw[U n2];rfl,by rw[U n2];exact bN.nil _,U k5⟩
   ·have v2:((m:Int)==0)=false:=beq_eq_false_iff_ne.2 (by omega);have m5:=g3.cell (k:=0) (by simp[start];have:=U r;omega);have w5:=g3.frozen 0;have g4:=g3.set 0 0;have k9:=R g4;generalize(start g.code).getD 0 0=h at m5;clear g3 g4;have u3:Hid (J w (wr.setCell ⟨w.heap.size,0,none⟩ (.int .i64 0))):=(U k5).setCell (p:=⟨w.heap.size,0,none⟩) (Nat.le_refl _) _;go_wp2;go_loopg[9](m+1)(fun v0 x0 wr=>∃(b2:Nat)(F:List Int),b2≤m+1∧v0=m+1-b2∧x0=.int .i64 b2∧Hid (fQ p g.code b2 ((start g.code).set 0 0)=some F)∧Hid (Inv g.code F∧dK p g.code F)∧Hid (bT wr w.heap.size F)∧Hid (J w wr));case atStart=>exact⟨0,_,Nat.zero_le _,rfl,rfl,rfl,⟨(pf (by have:=U r;omega)).1,Ir p (by have:=U r;omega)⟩,k9,u3⟩
    case round=>
     obtain⟨b2,F,z0,y2,rfl,k8,s2,n0,n1⟩:=hrel;by_cases y7:b2≤m
     ·go_wp2;go_loopg[10]m(fun v1 w6 wr=>∃(c:Nat)(k:List Int),c≤m∧v1=m-c∧w6=.int .i64 c∧Hid (dZ p g.code c F=some k)∧Hid (Inv g.code k∧dK p g.code k)∧Hid (bT wr w.heap.size k)∧Hid (J w wr));case atStart=>exact⟨0,F,Nat.zero_le _,rfl,rfl,rfl,s2,n0,n1⟩
      case round=>
       obtain⟨c,k,y5,y3,rfl,k7,H,i8,h0⟩:=hrel;by_cases v7:c<m
       ·have e6:c<g.code.length:=by rw[←U r];exact v7
        have k0:=(U i8).cell (k:=c) (by rw[(U H).1.1];exact e6);have m2:=aD g.code c (0,0) e6;have j5:gW p g.code k c=if k.getD c 0<0 then some k else match dd p (g.code.getD c (0,0)) (k.getD c 0)with|none=>none|some m=>db g.code.length (bx (g.code.getD c (0,0)) c) m k:=rfl;have r0:dZ p g.code (c+1) F=gW p g.code k c:=by simp only[dZ,U k7,Option.bind_some]
        have r6:=(U H).2 c e6;generalize g.code.getD c (0,0)=a at m2 j5;generalize k.getD c 0=h at k0 j5 r6;have n5:=R j5;have h4:=R r0;have b6:=R m2;have c2:Hid (gW p g.code k c=none→bG p g.code=none):=fun t=>CC (by have:=U r;omega) (by have:=U r;omega) e6 (U k8) (U k7) t;clear j5 r0 m2;by_cases q2:h<0
        ·have r1:dZ p g.code (c+1) F=some k:=by rw[U h4,U n5,if_pos q2]
         have s8:=R r1;clear r1;go_wp2;go_roundg(m-(c+1));case measure=>omega
         case rel=>exact⟨c+1,k,by omega,rfl,by go_num,s8,H,i8,h0⟩
        ·have m1:=U n5;rw[if_neg q2]at m1;have V:=R m1;have a6:=List.mem_of_getElem? (U b6);have l8:=(U T) a a6;have v4:∃l q,ct p a.1 a.2=(l,q,0)∧0≤l∧l≤4∧0≤q∧q≤1:=AZ l8;obtain⟨l,q,l6,x1,x2,l0,w4⟩:=v4;have s9:Hid (h≤8):=by
          refine R ?_;rcases r6 with n9|⟨_,n9⟩;·omega
          ·exact(GA ⟨g,rfl,U T⟩ n9).2
         have o8:dd p a h=if l≤h∧¬(a.1=12∧1<h)∧h-l+q≤8 then some (h-l+q)else none:=by unfold dd;rw[l6];simp
         obtain⟨z3,y0,p1,_,p0⟩:=(U s0).kept (U h0);obtain⟨x9,z2,u6,x6,x7⟩:=p0 c a (U b6);simp only[Value.slice.injEq]at p1;obtain⟨rfl,-,-⟩:=p1;subst u6;have e9:=R o8;have k4:=R l6;have k6:=R l8;clear m1 a6 l8 l6 o8 p0;go_wp2_with fail;generalize l5:wr.alloc (.cells #[.int .i64 a.1,.int .i64 a.2] 72)=e4;have h9:Hid (J wr e4):=by rw[←l5];exact R ((J.refl _).alloc _)
         have l2:Hid (e4.heap[wr.heap.size]?=some (.cells #[.int .i64 a.1,.int .i64 a.2] 72)):=by rw[←l5];exact R (ah rfl)
         clear l5;have n6:Hid (∀b3,J e4 b3→Calls prog 111 #[.slice (some ⟨b,o,none⟩) p.length cap,.agg #[.int .i64 a.1,.int .i64 a.2]] b3 fun b8 m7=>b8=.returned (.int .i64 l)∧m7=b3.alloc (.cells #[.int .i64 a.1,.int .i64 a.2] 72)):=fun b3 w0=>IV p g _ a l q b3 ((U s7).kept (((U h0).trans (U h9)).trans w0)) (U k6) (U k4);have s4:Hid (∀b3,Calls prog 112 #[.agg #[.int .i64 a.1,.int .i64 a.2]] b3 fun b8 m7=>b8=.returned (.int .i64 q)∧m7=b3.alloc (.cells #[.int .i64 a.1,.int .i64 a.2] 72)):=fun b3=>Ds p g a l q b3 (U k6) (U k4);have M:=ab (U l2) 0;have N:=ab (U l2) 1;simp only[List.getElem?_toArray,List.getElem?_cons_zero,List.getElem?_cons_succ]at M N;have g5:=(U h9).cell k0;have u4:=R k0;have m8:∀B,(e4.alloc B).cell? ⟨w.heap.size,c,none⟩=some (.int .i64 h):=fun B=>((J.refl e4).alloc B).cell g5;clear k0 x6 x7;go_cut[65]from 43 to 154(fun w8 wx=>w8=.bool (decide (h<l))∧Hid (J e4 wx));case first=>
          go_region_with(go_at_call 111;refine((U n6) _ ?_).mono ?_;(repeat(first|exact J.refl _|refine J.drew ?_|refine J.alloc ?_ _));rintro b8 k1⟨rfl,rfl⟩);all_goals go_wp2_with fail
          all_goals go_meet
          all_goals exact⟨rfl,R (((J.refl e4).alloc _).drew)⟩
         case rest=>
          obtain⟨rfl,h7⟩:=hcut;obtain⟨O,w2⟩:∃O:World,O=wc:=⟨_,rfl⟩;subst w2;clear m8 M N g5;have l3:=R (aw (U h7) (U l2));have M:=ab (U l3) 0;have N:=ab (U l3) 1;simp only[List.getElem?_toArray,List.getElem?_cons_zero,List.getElem?_cons_succ]at M N;have g5:=((U h9).trans (U h7)).cell (U u4);have n7:Hid (J w O):=((U h0).trans (U h9)).trans (U h7);have s1:Hid (bT O w.heap.size k):=(U i8).kept ((U h9).trans (U h7));by_cases r3:h<l
          ·have i2:decide (h<l)=true:=by simpa using r3
           have v:bG p g.code=none:=by refine(U c2) ?_;rw[U V,U e9,if_neg (by omega)]
           have u:=R v;rw[i2];clear v i2;go_wp2;go_ret2;exact⟨.slice none 0 0,by rw[U u];rfl,by rw[U u];exact bN.nil _,U n7⟩
          ·have i2:decide (h<l)=false:=by simpa using r3
           rw[i2];clear i2;have x3:∀B,(O.alloc B).cell? ⟨wr.heap.size,0,none⟩=some (.int .i64 a.1):=fun B=>((J.refl O).alloc B).cell M;have x4:∀B,(O.alloc B).cell? ⟨wr.heap.size,1,none⟩=some (.int .i64 a.2):=fun B=>((J.refl O).alloc B).cell N;have m8:∀B,(O.alloc B).cell? ⟨w.heap.size,c,none⟩=some (.int .i64 h):=fun B=>((J.refl O).alloc B).cell g5;have x5:∀B m4,((O.alloc B).alloc m4).cell? ⟨w.heap.size,c,none⟩=some (.int .i64 h):=fun B m4=>(((J.refl O).alloc B).alloc m4).cell g5;have l4:=wrap_small (z:=h) (ta:=l) (lb:=q) (by omega) (by have:=U s9;omega) x1 x2 l0 w4;go_wp2_with fail;go_cut[12]from 43 to 154(fun w7 wx=>w7=.int .i64 (h-l+q)∧Hid (J O wx));case first=>
            go_region_with(first|(go_at_call 111;refine((U n6) _ (J.trans (U h7) ?_)).mono ?_;(repeat(first|exact J.refl _|refine J.drew ?_|refine J.alloc ?_ _));rintro b8 k1⟨rfl,rfl⟩)|(go_at_call 112;refine((U s4) _).mono ?_;rintro b8 k1⟨rfl,rfl⟩));all_goals go_wp2_with fail
            all_goals go_meet
            all_goals exact⟨rfl,R ((((J.refl O).alloc _).alloc _).drew)⟩
           case rest=>
            obtain⟨rfl,l1⟩:=hcut;obtain⟨i7,w3⟩:∃i7:World,i7=wc:=⟨_,rfl⟩;subst w3;clear x3 x4 m8 x5 M N g5 l4;have n8:=R (aw (U l1) (U l3));have M:=ab (U n8) 0;have N:=ab (U n8) 1;simp only[List.getElem?_toArray,List.getElem?_cons_zero,List.getElem?_cons_succ]at M N;have h6:Hid (J w i7):=(U n7).trans (U l1);have e2:Hid (bT i7 w.heap.size k):=(U s1).kept (U l1);have r9:Hid (a.1=12→l=1∧q=0):=by
             refine R ?_;intro G;have:ct p a.1 a.2=(1,0,0):=by rw[G];rfl
             rw[U k4]at this;simp at this;omega
            go_upto_region 21 with(fail);go_cut[87]from 43 to 154(fun w9 wx=>w9=.bool (dd p a h).isNone∧wx=i7);case first=>
             by_cases o6:8<h-l+q
             ·have l4:decide (8<h-l+q)=true:=by simpa using o6
              have a4:(dd p a h).isNone=true:=by rw[U e9,if_neg (by omega)];rfl
              have e1:=R a4;clear a4;go_wp2;go_meet;exact⟨by rw[U e1],rfl⟩
             ·have l4:decide (8<h-l+q)=false:=by simpa using o6
              by_cases G:a.1=12
              ·have j1:(a.1==12)=true:=beq_iff_eq.2 G;have p9:=(U r9) G;by_cases S:h-l+q=0
               ·have v3:(h-l+q !=0)=false:=by rw[S];rfl
                have a4:(dd p a h).isNone=false:=by rw[U e9,if_pos (by omega)];rfl
                have e1:=R a4;clear a4 G S p9;go_wp2;go_meet;exact⟨by rw[U e1],rfl⟩
               ·have v3:(h-l+q !=0)=true:=by rw[bne_iff_ne];exact S
                have a4:(dd p a h).isNone=true:=by rw[U e9,if_neg (by omega)];rfl
                have e1:=R a4;clear a4 G S p9;go_wp2;go_meet;exact⟨by rw[U e1],rfl⟩
              ·have j1:(a.1==12)=false:=beq_eq_false_iff_ne.2 G;have a4:(dd p a h).isNone=false:=by rw[U e9,if_pos (by omega)];rfl
               have e1:=R a4;clear a4 G;go_wp2;go_meet;exact⟨by rw[U e1],rfl⟩
            case rest=>
             obtain⟨rfl,rfl⟩:=hcut;cases i4:dd p a h with
             |none=>
              have v:bG p g.code=none:=by refine(U c2) ?_;rw[U V,i4]
              have u:=R v;clear v i4;go_wp2;go_ret2;exact⟨.slice none 0 0,by rw[U u];rfl,by rw[U u];exact bN.nil _,U h6⟩
             |some j=>
              have q5:j=h-l+q:=by
               have t:=U e9;rw[i4]at t;split at t;·exact Option.some.inj t
               ·cases t
              have z:=R q5;have P:=R i4;clear q5 i4;obtain⟨j9,j2,j6,j7,j8⟩:=info_parts iE;have q3:=World.ownsRow_nil wc wc.heap.size 3 1;have j0:=R q3;clear q3;have p6:a.1=9∨a.1=10→0≤a.2:=by
               intro j3;obtain⟨_,_,l7⟩:=ei (U k6);have v8:bA a.1.toNat=3:=by rcases j3 with j3|j3<;>rw[j3]<;>rfl
               rw[v8]at l7;exact(cZ.1 (show aX a.2 g.code.length=true from l7)).1
              by_cases b9:a.1=9
              ·have u8:(a.1==9)=true:=beq_iff_eq.2 b9;have u9:(a.1 !=9)=false:=by rw[b9];rfl
               have e8:=R b9;clear b9;go_wp2_with(at_builtin;refine wpList_append_own _ rfl _ _ 30 rfl wc.heap.size 3 j9 (.int .i64 0) 1 8 underlying30 j2 j6 j7 j8 rfl (by decide) _ _ _ rfl ((U j0).alloc _) ⟨wc.heap.size,0,none⟩ 1 1 [.int .i64 a.2] rfl rfl (ox _ _) (ow _) (by decide) (by decide) (by simp) ?_;intro r8 b1 a9 c3 _;obtain⟨g2,o1,i6⟩:=lH (by decide) a9;subst i6;have W:=R (qD c3);have u0:=(U W).cell M;have u1:=(U W).cell N;have g0:=R a9;clear a9 c3);have b7:=W;obtain⟨p3,b4⟩:=oN (U g0);have h8:Hid (J w b1):=(U h6).trans (U b7);have g8:Hid (bT b1 w.heap.size k):=(U e2).kept (U b7);have r4:w.heap.size<wc.heap.size:=(U e2).lt;have a3:bx a c=[a.2.toNat]:=by unfold bx;rw[if_neg (by rw[U e8];decide),if_pos (U e8)]
               have c0:∀n,n<1→b1.cell? ⟨g2,n,none⟩=some (.int .i64 ((([a.2.toNat]:List Nat).getD n 0:Nat):Int)):=by
                intro n D;obtain rfl:n=0:=by omega
                rw[b4 0 (.int .i64 a.2) rfl];have:=p6 (.inl (U e8));simp;omega
               have c7:∀n,n∈([a.2.toNat]:List Nat)→n≤m:=by intro n D;rw[←a3]at D;have:=oq ⟨g,rfl,U T⟩ (U b6) D;rw[U r];exact this
               have S:=gC ⟨g,rfl,U T⟩ (List.mem_of_getElem? (U b6)) (U P);have h2:=R a3;have g7:=R c0;have h1:=R c7;have h3:=R S;clear b4 a3 c0 c7 S u0 u1 M N;go_loopg[14]1(fun g1 e7 wr=>∃(d:Nat)(f:List Int),d≤1∧g1=1-d∧e7=.int .i64 d∧Hid (db g.code.length (([a.2.toNat]:List Nat).drop d) j f=db g.code.length (bx a c) j k)∧Hid (Inv g.code f)∧Hid (bT wr w.heap.size f)∧Hid (aA w.heap.size b1 wr));case atStart=>exact⟨0,k,Nat.zero_le _,rfl,rfl,by rw[U h2];exact R rfl,R (U H).1,g8,R (aA.refl _ _)⟩
               case round=>
                obtain⟨d,f,p5,p2,rfl,b5,C,E,a0⟩:=hrel;have Q:Hid (J w wr):=aA.kept (U h8) (Nat.le_refl _) (U a0);by_cases a5:d<1
                ·have o2:=(U a0).cell (p:=⟨g2,d,none⟩) (by simp;omega) ((U g7) d a5);have c1:([a.2.toNat]:List Nat).drop d=([a.2.toNat]:List Nat).getD d 0::([a.2.toNat]:List Nat).drop (d+1):=drop_one _ d a5;have a6:([a.2.toNat]:List Nat).getD d 0∈([a.2.toNat]:List Nat):=qB _ d a5;have L:=U b5;rw[c1]at L;generalize([a.2.toNat]:List Nat).getD d 0=e at*;have q4:=(U h1) e a6;have c8:db g.code.length (e::([a.2.toNat]:List Nat).drop (d+1)) j f=if e=g.code.length∨(0≤f.getD e 0∧f.getD e 0≠j)then none else db g.code.length (([a.2.toNat]:List Nat).drop (d+1)) j (f.set e j):=rfl;rw[c8]at L;have I:=R L;clear c8 L c1 a6;by_cases a7:e=m
                 ·have i1:((e:Int)==(m:Int))=true:=beq_iff_eq.2 (by omega);have v:bG p g.code=none:=by refine(U c2) ?_;rw[U V,U P];simp only;rw[←U I,if_pos (.inl (by rw[a7];exact U r))]
                  have u:=R v;have n3:=R a7;clear v a7;go_wp2;go_ret2;exact⟨.slice none 0 0,by rw[U u];rfl,by rw[U u];exact bN.nil _,U Q⟩
                 ·have i1:((e:Int)==(m:Int))=false:=beq_eq_false_iff_ne.2 (by omega);have i5:e<m:=by omega
                  have a8:e<g.code.length:=by rw[←U r];exact i5
                  have o3:=(U E).cell (k:=e) (by rw[(U C).1];exact a8);have o4:=(U E).frozen e;have X:=R ((U E).set e j);have Z:=R ((U a0).setCell (p:=⟨w.heap.size,e,none⟩) (.inl rfl) (.int .i64 j));have Y:Hid (Inv g.code (f.set e j)):=by
                   refine R ⟨by rw[List.length_set];exact(U C).1,fun n D=>?_⟩;rw[fW (by rw[(U C).1];exact a8)];split;·exact .inr (U h3).1
                   ·exact(U C).2 n D
                  rw[U z]at X Z Y;have r5:=(U C).2 e a8;generalize c4:f.getD e 0=A at*;have m9:=R c4;clear c4;by_cases a2:0≤A
                  ·have i0:decide (0≤A)=true:=by simpa using a2
                   by_cases y:A=h-l+q
                   ·have i3:(A !=h-l+q)=false:=by rw[y];simp
                    have x:db g.code.length (([a.2.toNat]:List Nat).drop (d+1)) j (f.set e j)=db g.code.length (bx a c) j k:=by have t:=U I;rw[if_neg (by rw[U z];have:=U r;omega)]at t;exact t
                    rw[U z]at x;have a1:=R x;have h5:=R y;clear x y;go_wp2;go_roundg(1-(d+1));case measure=>omega
                    case rel=>exact⟨d+1,f.set e (h-l+q),by omega,rfl,by go_num,by rw[U z];exact a1,Y,X,Z⟩
                   ·have i3:(A !=h-l+q)=true:=by rw[bne_iff_ne];exact y
                    have v:bG p g.code=none:=by refine(U c2) ?_;rw[U V,U P];simp only;rw[←U I,if_pos (.inr ⟨a2,by rw[U z];exact y⟩)]
                    have u:=R v;have h5:=R y;clear v y;go_wp2;go_ret2;exact⟨.slice none 0 0,by rw[U u];rfl,by rw[U u];exact bN.nil _,U Q⟩
                  ·have i0:decide (0≤A)=false:=by simpa using a2
                   have x:db g.code.length (([a.2.toNat]:List Nat).drop (d+1)) j (f.set e j)=db g.code.length (bx a c) j k:=by have t:=U I;rw[if_neg (by have:=U r;omega)]at t;exact t
                   rw[U z]at x;have a1:=R x;clear x;go_wp2;go_roundg(1-(d+1));case measure=>omega
                   case rel=>exact⟨d+1,f.set e (h-l+q),by omega,rfl,by go_num,by rw[U z];exact a1,Y,X,Z⟩
                ·have c6:d=1:=by omega
                 have K:gW p g.code k c=some f:=by rw[U V,U P];simp only;rw[←U b5,c6];rfl
                 obtain⟨_,c5,_,c9⟩:=pg ⟨g,rfl,U T⟩ e6 (U H).1 K;have e0:=c9 (U H).2;have b0:dZ p g.code (c+1) F=some f:=by rw[U h4];exact K
                 have e3:=R b0;have g9:=R (And.intro c5 e0);clear c6 K c5 c9 e0 b0;go_wp2;go_roundg(m-(c+1));case measure=>omega
                 case rel=>exact⟨c+1,f,by omega,rfl,by go_num,e3,g9,E,Q⟩
              ·have u8:(a.1==9)=false:=beq_eq_false_iff_ne.2 b9;have u9:(a.1 !=9)=true:=by rw[bne_iff_ne];exact b9
               have e8:=R b9;clear b9;by_cases e5:a.1=10
               ·have u7:(a.1==10)=true:=beq_iff_eq.2 e5;have j1:(a.1 !=12)=true:=by rw[e5];rfl
                have g6:=R e5;clear e5;go_wp2_with(first|(at_builtin;refine wpList_append_own _ rfl _ _ 30 rfl wc.heap.size 3 j9 (.int .i64 0) 1 8 underlying30 j2 j6 j7 j8 rfl (by decide) _ _ _ rfl ((U j0).alloc _) ⟨wc.heap.size,0,none⟩ 1 1 [.int .i64 a.2] rfl rfl (ox _ _) (ow _) (by decide) (by decide) (by simp) ?_;intro r8 b1 a9 c3 _;obtain⟨g2,o1,i6⟩:=lH (by decide) a9;subst i6;have W:=R (qD c3);have u0:=(U W).cell M;have u1:=(U W).cell N;have g0:=R a9;clear a9 c3 j0)|(at_builtin;refine wpList_append_own _ rfl _ _ 30 rfl wc.heap.size 3 j9 (.int .i64 0) 1 8 underlying30 j2 j6 j7 j8 rfl (by decide) _ _ _ rfl ((U g0).alloc _) ⟨b1.heap.size,0,none⟩ 1 1 [.int .i64 ((c:Int)+1)] rfl rfl (ox _ _) (ow _) (by decide) (by decide) (sU (U W) _) ?_;intro z4 k2 l9 p4 _;obtain⟨o5,y1,w1⟩:=lH (by decide) l9;subst w1;have u2:=R (Cv (U W) (oN (U g0)).1 p4);have s6:=R l9;clear l9 p4));have b7:=u2;obtain⟨p3,b4⟩:=oN (U s6);have h8:Hid (J w k2):=(U h6).trans (U b7);have g8:Hid (bT k2 w.heap.size k):=(U e2).kept (U b7);have r4:w.heap.size<wc.heap.size:=(U e2).lt;have a3:bx a c=[a.2.toNat,c+1]:=by unfold bx;rw[if_neg (by rw[U g6];decide),if_neg (U e8),if_pos (U g6)]
                have c0:∀n,n<2→k2.cell? ⟨o5,n,none⟩=some (.int .i64 ((([a.2.toNat,c+1]:List Nat).getD n 0:Nat):Int)):=by
                 intro n D;have z1:=p6 (.inr (U g6));have v9:n=0∨n=1:=by omega
                 rcases v9 with rfl|rfl;·rw[b4 0 (.int .i64 a.2) rfl];simp;omega
                 ·rw[b4 1 (.int .i64 ((c:Int)+1)) rfl];simp
                have c7:∀n,n∈([a.2.toNat,c+1]:List Nat)→n≤m:=by intro n D;rw[←a3]at D;have:=oq ⟨g,rfl,U T⟩ (U b6) D;rw[U r];exact this
                have S:=gC ⟨g,rfl,U T⟩ (List.mem_of_getElem? (U b6)) (U P);have h2:=R a3;have g7:=R c0;have h1:=R c7;have h3:=R S;clear b4 a3 c0 c7 S u0 u1 M N;go_loopg[14]2(fun g1 e7 wr=>∃(d:Nat)(f:List Int),d≤2∧g1=2-d∧e7=.int .i64 d∧Hid (db g.code.length (([a.2.toNat,c+1]:List Nat).drop d) j f=db g.code.length (bx a c) j k)∧Hid (Inv g.code f)∧Hid (bT wr w.heap.size f)∧Hid (aA w.heap.size k2 wr));case atStart=>exact⟨0,k,Nat.zero_le _,rfl,rfl,by rw[U h2];exact R rfl,R (U H).1,g8,R (aA.refl _ _)⟩
                case round=>
                 obtain⟨d,f,p5,p2,rfl,b5,C,E,a0⟩:=hrel;have Q:Hid (J w wr):=aA.kept (U h8) (Nat.le_refl _) (U a0);by_cases a5:d<2
                 ·have o2:=(U a0).cell (p:=⟨o5,d,none⟩) (by simp;omega) ((U g7) d a5);have c1:([a.2.toNat,c+1]:List Nat).drop d=([a.2.toNat,c+1]:List Nat).getD d 0::([a.2.toNat,c+1]:List Nat).drop (d+1):=drop_one _ d a5;have a6:([a.2.toNat,c+1]:List Nat).getD d 0∈([a.2.toNat,c+1]:List Nat):=qB _ d a5;have L:=U b5;rw[c1]at L;generalize([a.2.toNat,c+1]:List Nat).getD d 0=e at*;have q4:=(U h1) e a6;have c8:db g.code.length (e::([a.2.toNat,c+1]:List Nat).drop (d+1)) j f=if e=g.code.length∨(0≤f.getD e 0∧f.getD e 0≠j)then none else db g.code.length (([a.2.toNat,c+1]:List Nat).drop (d+1)) j (f.set e j):=rfl;rw[c8]at L;have I:=R L;clear c8 L c1 a6;by_cases a7:e=m
                  ·have i1:((e:Int)==(m:Int))=true:=beq_iff_eq.2 (by omega);have v:bG p g.code=none:=by refine(U c2) ?_;rw[U V,U P];simp only;rw[←U I,if_pos (.inl (by rw[a7];exact U r))]
                   have u:=R v;have n3:=R a7;clear v a7;go_wp2;go_ret2;exact⟨.slice none 0 0,by rw[U u];rfl,by rw[U u];exact bN.nil _,U Q⟩
                  ·have i1:((e:Int)==(m:Int))=false:=beq_eq_false_iff_ne.2 (by omega);have i5:e<m:=by omega
                   have a8:e<g.code.length:=by rw[←U r];exact i5
                   have o3:=(U E).cell (k:=e) (by rw[(U C).1];exact a8);have o4:=(U E).frozen e;have X:=R ((U E).set e j);have Z:=R ((U a0).setCell (p:=⟨w.heap.size,e,none⟩) (.inl rfl) (.int .i64 j));have Y:Hid (Inv g.code (f.set e j)):=by
                    refine R ⟨by rw[List.length_set];exact(U C).1,fun n D=>?_⟩;rw[fW (by rw[(U C).1];exact a8)];split;·exact .inr (U h3).1
                    ·exact(U C).2 n D
                   rw[U z]at X Z Y;have r5:=(U C).2 e a8;generalize c4:f.getD e 0=A at*;have m9:=R c4;clear c4;by_cases a2:0≤A
                   ·have i0:decide (0≤A)=true:=by simpa using a2
                    by_cases y:A=h-l+q
                    ·have i3:(A !=h-l+q)=false:=by rw[y];simp
                     have x:db g.code.length (([a.2.toNat,c+1]:List Nat).drop (d+1)) j (f.set e j)=db g.code.length (bx a c) j k:=by have t:=U I;rw[if_neg (by rw[U z];have:=U r;omega)]at t;exact t
                     rw[U z]at x;have a1:=R x;have h5:=R y;clear x y;go_wp2;go_roundg(2-(d+1));case measure=>omega
                     case rel=>exact⟨d+1,f.set e (h-l+q),by omega,rfl,by go_num,by rw[U z];exact a1,Y,X,Z⟩
                    ·have i3:(A !=h-l+q)=true:=by rw[bne_iff_ne];exact y
                     have v:bG p g.code=none:=by refine(U c2) ?_;rw[U V,U P];simp only;rw[←U I,if_pos (.inr ⟨a2,by rw[U z];exact y⟩)]
                     have u:=R v;have h5:=R y;clear v y;go_wp2;go_ret2;exact⟨.slice none 0 0,by rw[U u];rfl,by rw[U u];exact bN.nil _,U Q⟩
                   ·have i0:decide (0≤A)=false:=by simpa using a2
                    have x:db g.code.length (([a.2.toNat,c+1]:List Nat).drop (d+1)) j (f.set e j)=db g.code.length (bx a c) j k:=by have t:=U I;rw[if_neg (by have:=U r;omega)]at t;exact t
                    rw[U z]at x;have a1:=R x;clear x;go_wp2;go_roundg(2-(d+1));case measure=>omega
                    case rel=>exact⟨d+1,f.set e (h-l+q),by omega,rfl,by go_num,by rw[U z];exact a1,Y,X,Z⟩
                 ·have c6:d=2:=by omega
                  have K:gW p g.code k c=some f:=by rw[U V,U P];simp only;rw[←U b5,c6];rfl
                  obtain⟨_,c5,_,c9⟩:=pg ⟨g,rfl,U T⟩ e6 (U H).1 K;have e0:=c9 (U H).2;have b0:dZ p g.code (c+1) F=some f:=by rw[U h4];exact K
                  have e3:=R b0;have g9:=R (And.intro c5 e0);clear c6 K c5 c9 e0 b0;go_wp2;go_roundg(m-(c+1));case measure=>omega
                  case rel=>exact⟨c+1,f,by omega,rfl,by go_num,e3,g9,E,Q⟩
               ·have u7:(a.1==10)=false:=beq_eq_false_iff_ne.2 e5;have g6:=R e5;clear e5;by_cases G:a.1=12
                ·have j1:(a.1 !=12)=false:=by rw[G];rfl
                 have k3:=R G;clear G;have K:gW p g.code k c=some k:=by
                  rw[U V,U P];simp only;have:bx a c=[]:=by unfold bx;rw[if_pos (U k3)]
                  rw[this];rfl
                 have b0:dZ p g.code (c+1) F=some k:=by rw[U h4];exact K
                 have e3:=R b0;clear K b0;go_wp2;go_loopg[14]0(fun g1 e7 wr=>e7=.int .i64 0∧Hid (bT wr w.heap.size k)∧Hid (J w wr));case atStart=>exact⟨rfl,e2,h6⟩
                 case round=>
                  obtain⟨rfl,E,Q⟩:=hrel;go_wp2;go_roundg(m-(c+1));case measure=>omega
                  case rel=>exact⟨c+1,k,by omega,rfl,by go_num,e3,H,E,Q⟩
                ·have j1:(a.1 !=12)=true:=by rw[bne_iff_ne];exact G
                 have k3:=R G;clear G;go_wp2_with(at_builtin;refine wpList_append_own _ rfl _ _ 30 rfl wc.heap.size 3 j9 (.int .i64 0) 1 8 underlying30 j2 j6 j7 j8 rfl (by decide) _ _ _ rfl ((U j0).alloc _) ⟨wc.heap.size,0,none⟩ 1 1 [.int .i64 ((c:Int)+1)] rfl rfl (ox _ _) (ow _) (by decide) (by decide) (by simp) ?_;intro r8 b1 a9 c3 _;obtain⟨g2,o1,i6⟩:=lH (by decide) a9;subst i6;have W:=R (qD c3);have u0:=(U W).cell M;have u1:=(U W).cell N;have g0:=R a9;clear a9 c3);have b7:=W;obtain⟨p3,b4⟩:=oN (U g0);have h8:Hid (J w b1):=(U h6).trans (U b7);have g8:Hid (bT b1 w.heap.size k):=(U e2).kept (U b7);have r4:w.heap.size<wc.heap.size:=(U e2).lt;have a3:bx a c=[c+1]:=by unfold bx;rw[if_neg (U k3),if_neg (U e8),if_neg (U g6)]
                 have c0:∀n,n<1→b1.cell? ⟨g2,n,none⟩=some (.int .i64 ((([c+1]:List Nat).getD n 0:Nat):Int)):=by
                  intro n D;obtain rfl:n=0:=by omega
                  rw[b4 0 (.int .i64 ((c:Int)+1)) rfl];simp
                 have c7:∀n,n∈([c+1]:List Nat)→n≤m:=by intro n D;rw[←a3]at D;have:=oq ⟨g,rfl,U T⟩ (U b6) D;rw[U r];exact this
                 have S:=gC ⟨g,rfl,U T⟩ (List.mem_of_getElem? (U b6)) (U P);have h2:=R a3;have g7:=R c0;have h1:=R c7;have h3:=R S;clear b4 a3 c0 c7 S u0 u1 M N;go_loopg[14]1(fun g1 e7 wr=>∃(d:Nat)(f:List Int),d≤1∧g1=1-d∧e7=.int .i64 d∧Hid (db g.code.length (([c+1]:List Nat).drop d) j f=db g.code.length (bx a c) j k)∧Hid (Inv g.code f)∧Hid (bT wr w.heap.size f)∧Hid (aA w.heap.size b1 wr));case atStart=>exact⟨0,k,Nat.zero_le _,rfl,rfl,by rw[U h2];exact R rfl,R (U H).1,g8,R (aA.refl _ _)⟩
                 case round=>
                  obtain⟨d,f,p5,p2,rfl,b5,C,E,a0⟩:=hrel;have Q:Hid (J w wr):=aA.kept (U h8) (Nat.le_refl _) (U a0);by_cases a5:d<1
                  ·have o2:=(U a0).cell (p:=⟨g2,d,none⟩) (by simp;omega) ((U g7) d a5);have c1:([c+1]:List Nat).drop d=([c+1]:List Nat).getD d 0::([c+1]:List Nat).drop (d+1):=drop_one _ d a5;have a6:([c+1]:List Nat).getD d 0∈([c+1]:List Nat):=qB _ d a5;have L:=U b5;rw[c1]at L;generalize([c+1]:List Nat).getD d 0=e at*;have q4:=(U h1) e a6;have c8:db g.code.length (e::([c+1]:List Nat).drop (d+1)) j f=if e=g.code.length∨(0≤f.getD e 0∧f.getD e 0≠j)then none else db g.code.length (([c+1]:List Nat).drop (d+1)) j (f.set e j):=rfl;rw[c8]at L;have I:=R L;clear c8 L c1 a6;by_cases a7:e=m
                   ·have i1:((e:Int)==(m:Int))=true:=beq_iff_eq.2 (by omega);have v:bG p g.code=none:=by refine(U c2) ?_;rw[U V,U P];simp only;rw[←U I,if_pos (.inl (by rw[a7];exact U r))]
                    have u:=R v;have n3:=R a7;clear v a7;go_wp2;go_ret2;exact⟨.slice none 0 0,by rw[U u];rfl,by rw[U u];exact bN.nil _,U Q⟩
                   ·have i1:((e:Int)==(m:Int))=false:=beq_eq_false_iff_ne.2 (by omega);have i5:e<m:=by omega
                    have a8:e<g.code.length:=by rw[←U r];exact i5
                    have o3:=(U E).cell (k:=e) (by rw[(U C).1];exact a8);have o4:=(U E).frozen e;have X:=R ((U E).set e j);have Z:=R ((U a0).setCell (p:=⟨w.heap.size,e,none⟩) (.inl rfl) (.int .i64 j));have Y:Hid (Inv g.code (f.set e j)):=by
                     refine R ⟨by rw[List.length_set];exact(U C).1,fun n D=>?_⟩;rw[fW (by rw[(U C).1];exact a8)];split;·exact .inr (U h3).1
                     ·exact(U C).2 n D
                    rw[U z]at X Z Y;have r5:=(U C).2 e a8;generalize c4:f.getD e 0=A at*;have m9:=R c4;clear c4;by_cases a2:0≤A
                    ·have i0:decide (0≤A)=true:=by simpa using a2
                     by_cases y:A=h-l+q
                     ·have i3:(A !=h-l+q)=false:=by rw[y];simp
                      have x:db g.code.length (([c+1]:List Nat).drop (d+1)) j (f.set e j)=db g.code.length (bx a c) j k:=by have t:=U I;rw[if_neg (by rw[U z];have:=U r;omega)]at t;exact t
                      rw[U z]at x;have a1:=R x;have h5:=R y;clear x y;go_wp2;go_roundg(1-(d+1));case measure=>omega
                      case rel=>exact⟨d+1,f.set e (h-l+q),by omega,rfl,by go_num,by rw[U z];exact a1,Y,X,Z⟩
                     ·have i3:(A !=h-l+q)=true:=by rw[bne_iff_ne];exact y
                      have v:bG p g.code=none:=by refine(U c2) ?_;rw[U V,U P];simp only;rw[←U I,if_pos (.inr ⟨a2,by rw[U z];exact y⟩)]
                      have u:=R v;have h5:=R y;clear v y;go_wp2;go_ret2;exact⟨.slice none 0 0,by rw[U u];rfl,by rw[U u];exact bN.nil _,U Q⟩
                    ·have i0:decide (0≤A)=false:=by simpa using a2
                     have x:db g.code.length (([c+1]:List Nat).drop (d+1)) j (f.set e j)=db g.code.length (bx a c) j k:=by have t:=U I;rw[if_neg (by have:=U r;omega)]at t;exact t
                     rw[U z]at x;have a1:=R x;clear x;go_wp2;go_roundg(1-(d+1));case measure=>omega
                     case rel=>exact⟨d+1,f.set e (h-l+q),by omega,rfl,by go_num,by rw[U z];exact a1,Y,X,Z⟩
                  ·have c6:d=1:=by omega
                   have K:gW p g.code k c=some f:=by rw[U V,U P];simp only;rw[←U b5,c6];rfl
                   obtain⟨_,c5,_,c9⟩:=pg ⟨g,rfl,U T⟩ e6 (U H).1 K;have e0:=c9 (U H).2;have b0:dZ p g.code (c+1) F=some f:=by rw[U h4];exact K
                   have e3:=R b0;have g9:=R (And.intro c5 e0);clear c6 K c5 c9 e0 b0;go_wp2;go_roundg(m-(c+1));case measure=>omega
                   case rel=>exact⟨c+1,f,by omega,rfl,by go_num,e3,g9,E,Q⟩
       ·have p8:c=m:=by omega
        have q6:fQ p g.code (b2+1) ((start g.code).set 0 0)=some k:=by simp only[fQ,U k8,Option.bind_some];have:=U k7;rw[p8,U r]at this;exact this
        have s5:=R q6;clear p8 q6;go_wp2;go_roundg(m+1-(b2+1));case measure=>omega
        case rel=>exact⟨b2+1,k,by omega,rfl,by go_num,s5,H,i8,h0⟩
     ·have q8:b2=m+1:=by omega
      have m0:bG p g.code=some F:=by unfold bG;have:=U r;rw[if_neg (by omega),←this,←q8];exact U k8
      have o7:du p g.code:=⟨g,rfl,U T⟩;have j4:F.length=m:=by rw[(iV o7 m0).1.len];exact(U r).symm
      have n4:=R m0;have s3:=R j4;clear q8 m0 o7 j4;go_wp2;go_ret2;have j4:=U s3;refine⟨.slice (some ⟨w.heap.size,0,none⟩) m m,by rw[U n4];rfl,?_,U n1⟩;rw[U n4];refine⟨_,m,by simp only[Option.getD_some];rw[j4],by simp only[Option.getD_some];omega,fun s h m3=>⟨w.heap.size,0,rfl,?_⟩⟩;simp only[Option.getD_some]at m3;have v5:=(List.getElem?_eq_some_iff.1 m3).1;have:=(U n0).cell (k:=s) v5;rw[Nat.zero_add,this];simp[List.getD,m3]
