import Derived.Test.YtokhibfenccijaaGreatDoorQB26
set_option maxRecDepth 100000
set_option maxHeartbeats 8000000
namespace Go.Proofs.YtokhibfenccijaaGreatDoor
open Go.Proofs.Tryz
open Go.RowKit
theorem CH{p:List Fn}(a:aL p=0){k:Nat}(b:k<p.length):bH p k=(bd p k,0):=by obtain⟨_,_,c⟩:=fO a;have e:=c k b;have d:bG p (codeOf p k)=some (bd p k):=mR a b;unfold bH;rw[if_pos e,Int.toNat_natCast,show(p.getD k Fn.zero).code=codeOf p k from rfl,d]
theorem CO:(prog.info? 30).map (fun a=>(a.zero,a.size,a.bytes))=some (some (.slice none 0 0),1,24):=by kernel_rfl
theorem DP(m:Nat)(b:m≤1000)(u:World):(Instr.makeSlice 160 (.int .i64 m) (.int .i64 m)).run prog u=.ok (.slice (some ⟨u.heap.size,0,none⟩) m m) (u.alloc (.cells (List.replicate m (Value.slice none 0 0)).toArray 30)):=by
 obtain⟨g,c,d,e,f⟩:=info_parts CO;have a:=run_make (P:=prog) u 160 30 g (.slice none 0 0) underlying160 c d .i64 .i64 (m:Int) (m:Int) (by omega) (Int.le_refl _) (by rw[f];omega) (by omega);rw[Int.toNat_natCast]at a;have b:madeCells #[Value.slice none 0 0] m=(List.replicate m (Value.slice none 0 0)).toArray:=by
  apply Array.ext;·simp[madeCells]
  ·intro i h h2;simp[madeCells,Nat.mod_one]
 rw[←b];simpa[e,Value.cells]using a
theorem nX(s:St):dX s=if(decide (s.I.length≤5∧s.out.length≤30)&&mE s.I)=true then(if 0<s.I.length then(if(fu s.now s.I.length&&jo s.I s.I.length)=true then 0 else 3)else 5)else 2:=by
 have c:(s.I.all fun a=>ax a.caller (-1) (s.I.length-1))=jo s.I s.I.length:=by unfold jo;congr 1;funext a;rw[vn]
 unfold dX;rw[c,←vn];unfold mE;by_cases b:s.I.length≤5∧s.out.length≤30
 ·rw[if_pos b,decide_eq_true b,Bool.true_and];by_cases h2:(s.I.all fun a=>decide (a.U.length≤6))=true
  ·rw[if_pos h2,if_pos h2];by_cases h3:0<s.I.length;·rw[if_pos h3,if_pos h3];cases d:fu s.now s.I.length<;>simp
   ·rw[if_neg h3,if_neg h3]
  ·rw[if_neg h2,if_neg h2]
 ·rw[if_neg b,decide_eq_false b];rfl
theorem qT{p:List Fn}{s:St}{e:Int}(a:dX s=e)(b:e≠0):gR p s=e:=by unfold gR;rw[a,if_neg b]
theorem qU{p:List Fn}{s:St}(a:dX s=0)(b:iA p s=false):gR p s=1:=by unfold gR;rw[a,if_pos rfl,b];rfl
theorem Dc{p:List Fn}{s:St}(a:dX s=0)(b:iA p s=true):gR p s=0:=by unfold gR;rw[a,if_pos rfl,b];rfl
theorem bN.store{w:World}{v:Value}{l:List Int}(i:bN w v l){B:Nat}{c:Array Value}{t:TypeId}{fr:Nat×Nat}(k:w.heap[B]?=some (.cells c t fr))(m:∀(b:Nat)d,c[b]?≠some (.int .i64 d))(j:Nat)(u:Value):bN (w.setCell ⟨B,j,none⟩ u) v l:=by
 obtain⟨s,f,g,o,n⟩:=i;refine⟨s,f,g,o,fun b d q=>?_⟩;obtain⟨e,r,h,a⟩:=n b d q;refine⟨e,r,h,?_⟩;have p:e≠B:=by rintro rfl;rw[ab k]at a;exact m _ _ a
 rw[World.cell?_of_block (w:=w)];·exact a
 ·exact Below.heap_setCell w _ _ _ p
def CS:Value→Prop
 |.slice _ _ _=>True
 |_=>False
theorem ye(p:List Fn)(s:St)(v:Value)(i:Nat)(b:Bool)(w:World)(f:fo w v p s)(o:iN p)(n:nk p)(B:dX s=0)(m:(s.I.all fun t=>t.U.all (bK p))=true)(a:i<s.I.length):Calls prog 127 #[v,.int .i64 i,.bool b] w fun x E=>x=eZ 1 (fN p s i b)∧J w E:=by
 obtain⟨L,h,k,j,rfl,y,h2,h3,F⟩:=id f;obtain⟨K,d,rfl,H,z⟩:=id y;obtain⟨c,g,r,rfl,k0,I,e⟩:=z i _ (aD s.I i Fb.zero a);have C:s.I.getD i Fb.zero∈s.I:=List.mem_of_getElem? (aD s.I i Fb.zero a);have G:=(ik B).2.2.1 _ C;by_cases q:0<(s.I.getD i Fb.zero).U.length
 ·cases b with
  |true=>exact yh p s i _ d c g h k j _ r w a f o n k0 e rfl q (by omega) (jP m a) _ rfl
  |false=>exact yg p s i _ d c g h k j _ r w a f o n k0 e rfl q (by omega) (jP m a) _ rfl
 ·obtain⟨D,u,rfl,-,-⟩:=e;have l:(s.I.getD i Fb.zero).U.length=0:=by omega
  rw[l]at k0;have A:fN p s i b=!b:=by unfold fN;rw[show(s.I.getD i Fb.zero).U=[]from List.length_eq_zero_iff.1 l];rfl
  rw[A];exact yf i _ d u _ D h k j s.now c g b w a k0 rfl
theorem De(p:List Fn)(s:St)(l6 l7:Value)(w:World)(i1:aK w l6 p)(l3:cy w l7 s)(a7:bm w)(i2:aL p=0):Calls prog 88 #[l6,l7] w fun e c1=>e=.returned (.int .i64 (gR p s))∧J w c1:=by
 obtain⟨p1,p0,_⟩:=fO i2;obtain⟨p9,q0,rfl,Y,h2⟩:=id l3;obtain⟨A,x,rfl,_,_⟩:=id Y;obtain⟨C,y,rfl,_,_⟩:=id h2;obtain⟨K,I,rfl,p2,_⟩:=id i1;have j6:=R i1;have n2:=R Y;have n3:=R h2;have m8:=R a7;have g7:=R i2;clear i1 l3 Y h2 a7 i2;generalize l1:p.length=b at*;have g3:=R l1;clear l1;generalize k4:gR p s=X;have W:=R k4;clear k4;have o7:∀(j9:Go.Fn)(h3 N:Array Value)(w:World),(Instr.makeFunc j9 h3 N).run prog w=.ok (.func j9 h3 N) w:=fun _ _ _ _=>rfl;go_enter_defers func88,ntmps88;go_wp2;have k9:iN p:=CI (U g7);have g2:=R k9;have m5:=R (Cx (U g7));clear k9;generalize n5:s.I.length=o at*;have c4:=R n5;generalize o9:s.out.length=B at*;generalize e4:(w.alloc (.cells #[.slice A o x,.int .i64 s.now,.slice C B y] 44)).alloc (.cells #[.int .i64 0] 22)=n at*;generalize h5:w.heap.size=b2 at*;generalize k0:b2+1=g at*;have e0:n.heap[b2]?=some (.cells #[.slice A o x,.int .i64 s.now,.slice C B y] 44):=by rw[←e4];exact au (ah h5) _
 have j8:n.heap[g]?=some (.cells #[.int .i64 0] 22):=by rw[←e4];exact ah (by simp[h5,k0])
 have g0:Hid (J w n):=by rw[←e4];exact R (((J.refl w).alloc _).alloc _)
 have T:Hid (w.heap.size≤g):=R (by omega);have n9:n.cell? ⟨b2,0,none⟩=some (.slice A o x):=aE e0 rfl;have q1:n.cell? ⟨b2,1,none⟩=some (.int .i64 s.now):=aE e0 rfl;have q2:n.cell? ⟨b2,2,none⟩=some (.slice C B y):=aE e0 rfl;have n7:=bJ n9;simp only at n7;have m9:=R j8;have o8:=DP b (by omega);clear e4 h5 k0 e0 j8;go_cut[5]from 10 to 15(fun n8 wx=>∃j k:Nat,n8=.pointer (some ⟨j,0,none⟩)∧Hid (wx.heap[j]?=some (.cells #[.slice A o x,.int .i64 s.now,.slice C B y,.slice K b I,.slice (some ⟨k,0,none⟩) b b] 162))∧Hid (wx.heap[k]?=some (.cells (Array.replicate b (Value.slice none 0 0)) 30))∧Hid (n.heap.size≤j∧n.heap.size≤k∧j≠k)∧Hid (J n wx));case first=>
  go_region;all_goals go_wp2_with fail
  all_goals go_meet
  all_goals first|exact⟨n.heap.size,n.heap.size+1,rfl,aW (au (ah rfl) _),aW (ah (by simp)),⟨by omega,by omega,by omega⟩,(((J.refl n).alloc _).alloc _).drew⟩|exact⟨n.heap.size+1,n.heap.size,rfl,aW (ah (by simp)),aW (au (ah rfl) _),⟨by omega,by omega,by omega⟩,(((J.refl n).alloc _).alloc _).drew⟩
 case rest=>
  obtain⟨j,k,rfl,j2,j0,c7,j5⟩:=hcut;have k7:∀(d:Nat)(a:World),d<b→J w a→Calls prog 57 #[.slice K b I,.int .i64 d] a fun e L=>∃a8 N,e=.returned (.tuple #[.slice a8 (bd p d).length N,.int .i64 0])∧bN L (.slice a8 (bd p d).length N) (bd p d)∧J a L:=fun d a a7 c=>by have:=mG p (.slice K b I) d a ((U j6).kept c) ((U m8).kept c);unfold iO at this;rw[CH (U g7) (by rw[U g3];exact a7)]at this;refine this.mono ?_;rintro e L⟨p8,rfl,l4,n6⟩;obtain⟨a8,N,rfl,-,-⟩:=id l4;exact⟨a8,N,rfl,l4,n6⟩
  have j1:=R k7;clear k7;go_wp2;go_loopw[18](fun i3 wr=>∃(d:Nat)(M:List Value),d≤b∧i3=.int .i64 d∧Hid (M.length=b)∧Hid (wr.heap[k]?=some (.cells M.toArray 30))∧Hid (∀(h:Nat)a,M[h]?=some a→CS a)∧Hid (∀h,h<d→∃a,M[h]?=some a∧bN wr a (bd p h))∧Hid (wr.heap[j]?=some (.cells #[.slice A o x,.int .i64 s.now,.slice C B y,.slice K b I,.slice (some ⟨k,0,none⟩) b b] 162))∧Hid (J n wr))(fun i3 _=>b-(intOf i3).toNat);case atStart=>
   refine⟨0,List.replicate b (.slice none 0 0),Nat.zero_le _,rfl,R (by simp),R (by rw[List.toArray_replicate];exact U j0),R ?_,R (fun h e3=>by omega),j2,j5⟩;intro h a c;rw[List.getElem?_replicate]at c;split at c;·cases c;trivial
   ·cases c
  case round=>
   obtain⟨d,M,o5,rfl,c8,b4,g4,g5,P,b3⟩:=hrel;by_cases h9:d<b
   ·have k8:d<M.length:=by rw[U c8];exact h9
    have b0:wr.cell? ⟨j,4,none⟩=some (.slice (some ⟨k,0,none⟩) b b):=aE (U P) rfl;have m1:wr.cell? ⟨k,d,none⟩=some (M.getD d undef):=aE (U b4) (by simp[List.getD,k8]);have m3:∀a,J wr a→a.frozen? ⟨k,d,none⟩=false:=fun a c=>an (aw c (U b4)) d;have c9:Hid (∀a,J wr a→a.cell? ⟨j,4,none⟩=some (.slice (some ⟨k,0,none⟩) b b)∧a.cell? ⟨k,d,none⟩=some (M.getD d undef)∧a.frozen? ⟨k,d,none⟩=false):=R (fun a c=>⟨c.cell b0,c.cell m1,m3 a c⟩);have m7:=R (fun(a:World)(c:J wr a)=>(U j1) d a h9 (((U g0).trans (U b3)).trans c));have o4:(d:Int)<(b:Int):=by omega
    have o6:(0:Int)≤(d:Int):=by omega
    clear b0 m1 m3 k8;go_wp2_with fail;go_region_held3(fun a=>a.cell? ⟨j,4,none⟩=some (.slice (some ⟨k,0,none⟩) b b))(first|exact jq ((U c9) _ (J.trans (by repeat(first|exact J.refl _|refine J.drew ?_|refine J.alloc ?_ _)) O)).1 (U c7).2.2 _|exact((U c9) _ (J.trans (J.trans (by repeat(first|exact J.refl _|refine J.drew ?_|refine J.alloc ?_ _)) O) (by repeat(first|exact J.refl _|refine J.drew ?_|refine J.alloc ?_ _)))).1|exact((U c9) _ (by repeat(first|exact J.refl _|refine J.drew ?_|refine J.alloc ?_ _))).1)(first|(go_at_call 57;refine((U m7) _ (by repeat(first|exact J.refl _|refine J.drew ?_|refine J.alloc ?_ _))).mono ?_;rintro e e6⟨a8,N,rfl,l5,O⟩;obtain⟨-,p6,p7⟩:=(U c9) _ (J.trans (by repeat(first|exact J.refl _|refine J.drew ?_|refine J.alloc ?_ _)) O);have n4:=R l5;clear l5));all_goals go_wp2_with fail
    have Q:J wr e6:=J.trans (by repeat(first|exact J.refl _|refine J.drew ?_|refine J.alloc ?_ _)) O;have h6:=aw Q (U b4);have l2:∀(h:Nat)m2,M.toArray[h]?≠some (.int .i64 m2):=fun h m2 b7=>by have:=(U g4) h _ (by simpa using b7);exact this
    go_roundw;case rel=>
     refine⟨d+1,M.set d (.slice a8 (bd p d).length N),by omega,by go_num,R (by rw[List.length_set];exact U c8),R (by rw[←List.setIfInBounds_toArray];exact ay h6 d _),R ?_,R ?_,R ?_,R (((U b3).trans Q).setCell (p:=⟨k,d,none⟩) (U c7).2.1 _)⟩
     ·intro h a c;rw[List.getElem?_set]at c;split at c
      ·split at c;·cases c;trivial
       ·cases c
      ·exact(U g4) h a c
     ·intro h e3;by_cases e:h=d;·subst e;exact⟨_,by rw[List.getElem?_set,if_pos rfl,if_pos (by rw[U c8];exact h9)],(U n4).store h6 l2 _ _⟩
      ·obtain⟨a,Y,h2⟩:=(U g5) h (by omega);exact⟨a,by rw[List.getElem?_set,if_neg (fun b7=>e b7.symm)];exact Y,(h2.kept Q).store h6 l2 d _⟩
     ·rw[Below.heap_setCell _ _ _ _ (U c7).2.2];exact aw Q (U P)
    case measure=>simp[intOf];omega
   ·have Z:Hid (fo wr (.agg #[.slice A o x,.int .i64 s.now,.slice C B y,.slice K b I,.slice (some ⟨k,0,none⟩) b b]) p s):=R (by have h8:=(U g0).trans (U b3);refine⟨_,_,_,_,rfl,(U n2).kept h8,(U n3).kept h8,(U j6).kept h8,k,0,b,by rw[U g3],fun d a7=>?_⟩;rw[U g3]at a7;obtain⟨a,Y,h2⟩:=(U g5) d (by omega);exact⟨a,by rw[Nat.zero_add];exact aE (U b4) (by simpa using Y),h2⟩);have V:=R ((U g0).trans (U b3));have k3:=aw (U b3) (U m9);have q:=R k3;have a3:Hid (∀a,J wr a→a.cell? ⟨j,0,none⟩=some (.slice A o x)∧a.cell? ⟨j,1,none⟩=some (.int .i64 s.now)∧a.cell? ⟨j,2,none⟩=some (.slice C B y)∧a.cell? ⟨j,3,none⟩=some (.slice K b I)∧a.cell? ⟨j,4,none⟩=some (.slice (some ⟨k,0,none⟩) b b)):=R (fun a c=>⟨c.cell (aE (U P) rfl),c.cell (aE (U P) rfl),c.cell (aE (U P) rfl),c.cell (aE (U P) rfl),c.cell (aE (U P) rfl)⟩);clear k3 c8 b4 g4 g5 P j1 j2 j0 c7 j5;obtain⟨i5,i6,i7,i8,b0⟩:=(U a3) wr (J.refl _);have o2:decide ((d:Int)<(b:Int))=false:=decide_eq_false (by omega);by_cases b1:(decide (s.I.length≤5∧s.out.length≤30)&&mE s.I)=true
    ·have b9:=sP p s _ wr (U Z) true b1;have a0:=R b9;clear b9;have o3:s.I.length≤5:=by simp only[Bool.and_eq_true,decide_eq_true_eq]at b1;exact b1.1.1
     have e7:=R b1;clear b1;go_wp2_with fail;refine(U a0).mono ?_;rintro e l8⟨rfl,i⟩;simp only[eZ,if_true];obtain⟨D,E,F,G,H⟩:=(U a3) _ (i);have u:=yj p s _ l8 ((U Z).kept i) (by omega);by_cases a4:0<s.I.length
     ·by_cases b5:(fu s.now s.I.length&&jo s.I s.I.length)=true
      ·have l0:dX s=0:=by rw[nX,U e7,if_pos rfl,if_pos a4,b5];rfl
       have a2:=R l0;unfold lu at u;rw[if_pos a4,b5]at u;have a1:=R u;clear u l0 b5 i5 i6 i7 i8 b0 a0;go_wp2_with fail;refine(U a1).mono ?_;rintro e e5⟨rfl,l⟩;simp only[eZ,if_true];clear D E F G H a1;obtain⟨D,E,F,G,H⟩:=(U a3) _ (i.trans l);by_cases b6:(s.I.all fun g8=>g8.U.all (bK p))=true
       ·have b8:=sO p s _ e5 ((U Z).kept (i.trans l)) (U g2) true b6;have c3:=R b8;have e8:=R b6;clear b8 b6;go_wp2_with fail;refine(U c3).mono ?_;rintro e l9⟨rfl,z⟩;simp only[eZ,if_true];clear D E F G H c3;obtain⟨D,E,F,G,H⟩:=(U a3) _ ((i.trans l).trans z);have S:=yi p s _ l9 ((U Z).kept ((i.trans l).trans z)) (U a2);unfold sv at S;cases a6:gG s with
        |none=>
         rw[a6]at S;have c6:=R S;have t:X=1:=by rw[←U W];exact qU (U a2) (by unfold iA;rw[a6];simp)
         subst t;clear S a6;go_wp2_with fail;refine(U c6).mono ?_;rintro e m0⟨v,rfl⟩;dsimp only[left];go_wp2_with fail;refine leaves_cons (f:=122) (args:=#[.pointer (some ⟨g,0,none⟩)]) (by simp) (by simp[go_sem]) ?_;refine(kQ g 0 1 [] _ (aw (((i.trans l).trans z).trans v) (U q))).mono ?_;rintro e L a9⟨rfl,rfl,rfl⟩;have r:World.cell? _ ⟨g,0,none⟩=some (Value.int .i64 1):=aE (ay (aw (((i.trans l).trans z).trans v) (U q)) 0 (.int .i64 1)) rfl;simp[Leaves,settle,results,results88,go_sem];exact⟨_,by rw[r],rfl,((U V).trans (((i.trans l).trans z).trans v)).setCell (p:=⟨g,0,none⟩) (U T) _⟩
        |some c2=>
         rw[a6]at S;simp only[U c4]at S;have c6:=R S;have j3:=R a6;clear S a6;go_wp2_with fail;refine(U c6).mono ?_;rintro e m0⟨v,h4,rfl,k1,k2⟩;have j4:=R (((i.trans l).trans z).trans v);have m4:=R k1;have n0:=R k2;clear D E F G H i l z v k1 k2 c6;obtain⟨D,E,F,G,H⟩:=(U a3) _ (U j4);go_wp2;go_loopw[44](fun i4 wr=>∃m:Nat,m≤o∧i4=.int .i64 m∧Hid (∀h,h<m→fN p s h (c2.getD h false)=true)∧Hid (J m0 wr))(fun i4 _=>o-(intOf i4).toNat);case atStart=>exact⟨0,Nat.zero_le _,rfl,(fun h e3=>by omega),J.refl _⟩
         case round=>
          obtain⟨m,p4,rfl,j7,g1⟩:=hrel;have v:=(U j4).trans (U g1);have c5:=R v;by_cases i0:m<o
          ·have k6:∀a,J wr a→a.cell? ⟨h4,m,none⟩=some (.bool (c2.getD m false)):=fun a c=>aE (aw ((U g1).trans c) (U n0)) (qq (by rw[U m4];exact i0));have e2:=fun(a:World)(c:J wr a)=>ye p s _ m (c2.getD m false) a ((U Z).kept (v.trans c)) (U g2) (U m5) (U a2) (U e8) (by rw[U c4];exact i0);generalize k5:c2.getD m false=a5 at*;have i9:=R k5;have g6:Hid (∀a,J wr a→a.cell? ⟨j,0,none⟩=some (.slice A o x)∧a.cell? ⟨j,1,none⟩=some (.int .i64 s.now)∧a.cell? ⟨j,2,none⟩=some (.slice C B y)∧a.cell? ⟨j,3,none⟩=some (.slice K b I)∧a.cell? ⟨j,4,none⟩=some (.slice (some ⟨k,0,none⟩) b b)∧a.cell? ⟨h4,m,none⟩=some (.bool a5)):=R (fun a c=>by obtain⟨D,E,F,G,H⟩:=(U a3) a (v.trans c);exact⟨D,E,F,G,H,k6 a c⟩);have p3:(m:Int)<(o:Int):=by omega
           have p5:(0:Int)≤(m:Int):=by omega
           clear k6 k5 v D E F G H;by_cases c0:fN p s m a5=true
           ·have e9:Hid (∀a,J wr a→Calls prog 127 #[.agg #[.slice A o x,.int .i64 s.now,.slice C B y,.slice K b I,.slice (some ⟨k,0,none⟩) b b],.int .i64 m,.bool a5] a fun e c1=>e=.returned (.tuple #[])∧J a c1):=R (fun a c=>by have:=e2 a c;rw[c0]at this;exact this);have m6:=R c0;clear e2 c0;go_wp2_with fail;go_region_held3(fun a=>a.cell? ⟨j,0,none⟩=some (.slice A o x)∧a.cell? ⟨j,1,none⟩=some (.int .i64 s.now)∧a.cell? ⟨j,2,none⟩=some (.slice C B y)∧a.cell? ⟨j,3,none⟩=some (.slice K b I)∧a.cell? ⟨j,4,none⟩=some (.slice (some ⟨k,0,none⟩) b b)∧a.cell? ⟨h4,m,none⟩=some (.bool a5))(first|exact(U g6) _ (J.trans (J.trans (by repeat(first|exact J.refl _|refine J.drew ?_|refine J.alloc ?_ _)) O) (by repeat(first|exact J.refl _|refine J.drew ?_|refine J.alloc ?_ _)))|exact(U g6) _ (by repeat(first|exact J.refl _|refine J.drew ?_|refine J.alloc ?_ _)))(first|(go_at_call 127;refine((U e9) _ (by repeat(first|exact J.refl _|refine J.drew ?_|refine J.alloc ?_ _))).mono ?_;rintro e e6⟨rfl,O⟩));all_goals go_wp2_with fail
            go_roundw;case rel=>
             refine⟨m+1,by omega,by go_num,?_,R (J.trans (U g1) (J.trans (by repeat(first|exact J.refl _|refine J.drew ?_|refine J.alloc ?_ _)) O))⟩;intro h e3;by_cases e:h=m;·subst e;rw[U i9];exact U m6
             ·exact(U j7) h (by omega)
            case measure=>simp[intOf];omega
           ·have h7:fN p s m a5=false:=by simpa using c0
            have e9:Hid (∀a,J wr a→Calls prog 127 #[.agg #[.slice A o x,.int .i64 s.now,.slice C B y,.slice K b I,.slice (some ⟨k,0,none⟩) b b],.int .i64 m,.bool a5] a fun e c1=>e=left 1∧J a c1):=R (fun a c=>by have:=e2 a c;rw[h7]at this;exact this);have t:X=1:=by rw[←U W];refine qU (U a2) ?_;unfold iA;rw[U e8,U j3,Bool.true_and];rw[Bool.eq_false_iff];intro b7;have:=gM.1 b7 m (by rw[U c4];exact i0);rw[U i9,h7]at this;cases this
            subst t;clear e2 c0 h7;go_wp2_with fail;obtain⟨D,E,F,G,H,q3⟩:=(U g6) wr (J.refl _);go_still_tail 6,(by kernel_rfl);go_wp2_with(go_at_call 127;refine((U e9) _ (J.refl wr).drew).mono ?_;rintro e e6⟨rfl,O⟩;dsimp only[left]);have Q:J wr e6:=((J.refl wr).drew).trans O;refine leaves_cons (f:=122) (args:=#[.pointer (some ⟨g,0,none⟩)]) (by simp) (by simp[go_sem]) ?_;refine(kQ g 0 1 [] _ (aw ((U c5).trans Q) (U q))).mono ?_;rintro e L a9⟨rfl,rfl,rfl⟩;have r:World.cell? _ ⟨g,0,none⟩=some (Value.int .i64 1):=aE (ay (aw ((U c5).trans Q) (U q)) 0 (.int .i64 1)) rfl;simp[Leaves,settle,results,results88,go_sem];exact⟨_,by rw[r],rfl,((U V).trans ((U c5).trans Q)).setCell (p:=⟨g,0,none⟩) (U T) _⟩
          ·have t:X=0:=by rw[←U W];refine Dc (U a2) ?_;unfold iA;rw[U e8,U j3,Bool.true_and];exact gM.2 (fun h e3=>(U j7) h (by have:=U c4;omega))
           subst t;have e1:=aw v (U q);have o0:wr.cell? ⟨g,0,none⟩=some (.int .i64 0):=aE e1 rfl;have o1:=an e1 0;have n1:=R e1;clear e1 D E F G H;go_wp2;refine leaves_cons (f:=122) (args:=#[.pointer (some ⟨g,0,none⟩)]) (by simp) (by simp[go_sem]) ?_;refine(yD g _).mono ?_;rintro e L a9⟨rfl,rfl,rfl⟩;have r:World.cell? _ ⟨g,0,none⟩=some (Value.int .i64 0):=aE (ay (U n1) 0 (.int .i64 0)) rfl;simp[Leaves,settle,results,results88,go_sem];exact⟨_,by rw[r],rfl,((U V).trans (U c5)).setCell (p:=⟨g,0,none⟩) (U T) _⟩
       ·have h1:(s.I.all fun g8=>g8.U.all (bK p))=false:=by simpa using b6
        have b8:=sO p s _ e5 ((U Z).kept (i.trans l)) (U g2) false h1;have c3:=R b8;have t:X=1:=by rw[←U W];exact qU (U a2) (by unfold iA;rw[h1];rfl)
        subst t;clear b8 b6 h1;go_wp2_with fail;refine(U c3).mono ?_;rintro e l9⟨rfl,z⟩;dsimp only[eZ,left];go_wp2_with fail;refine leaves_cons (f:=122) (args:=#[.pointer (some ⟨g,0,none⟩)]) (by simp) (by simp[go_sem]) ?_;refine(kQ g 0 1 [] _ (aw ((i.trans l).trans z) (U q))).mono ?_;rintro e L a9⟨rfl,rfl,rfl⟩;have r:World.cell? _ ⟨g,0,none⟩=some (Value.int .i64 1):=aE (ay (aw ((i.trans l).trans z) (U q)) 0 (.int .i64 1)) rfl;simp[Leaves,settle,results,results88,go_sem];exact⟨_,by rw[r],rfl,((U V).trans ((i.trans l).trans z)).setCell (p:=⟨g,0,none⟩) (U T) _⟩
      ·have h0:(fu s.now s.I.length&&jo s.I s.I.length)=false:=by simpa using b5
       have t:X=3:=by rw[←U W];exact qT (by rw[nX,U e7,if_pos rfl,if_pos a4,h0];rfl) (by decide)
       subst t;unfold lu at u;rw[if_pos a4,h0]at u;have a1:=R u;clear u b5 h0 i5 i6 i7 i8 b0 a0;go_wp2_with fail;refine(U a1).mono ?_;rintro e e5⟨rfl,l⟩;dsimp only[eZ,left];go_wp2_with fail;refine leaves_cons (f:=122) (args:=#[.pointer (some ⟨g,0,none⟩)]) (by simp) (by simp[go_sem]) ?_;refine(kQ g 0 3 [] _ (aw (i.trans l) (U q))).mono ?_;rintro e L a9⟨rfl,rfl,rfl⟩;have r:World.cell? _ ⟨g,0,none⟩=some (Value.int .i64 3):=aE (ay (aw (i.trans l) (U q)) 0 (.int .i64 3)) rfl;simp[Leaves,settle,results,results88,go_sem];exact⟨_,by rw[r],rfl,((U V).trans (i.trans l)).setCell (p:=⟨g,0,none⟩) (U T) _⟩
     ·have t:X=5:=by rw[←U W];exact qT (by rw[nX,U e7,if_pos rfl,if_neg a4]) (by decide)
      subst t;unfold lu at u;rw[if_neg a4]at u;have a1:=R u;clear u i5 i6 i7 i8 b0 a0;go_wp2_with fail;refine(U a1).mono ?_;rintro e e5⟨rfl,l⟩;dsimp only[left];go_wp2_with fail;refine leaves_cons (f:=122) (args:=#[.pointer (some ⟨g,0,none⟩)]) (by simp) (by simp[go_sem]) ?_;refine(kQ g 0 5 [] _ (aw (i.trans l) (U q))).mono ?_;rintro e L a9⟨rfl,rfl,rfl⟩;have r:World.cell? _ ⟨g,0,none⟩=some (Value.int .i64 5):=aE (ay (aw (i.trans l) (U q)) 0 (.int .i64 5)) rfl;simp[Leaves,settle,results,results88,go_sem];exact⟨_,by rw[r],rfl,((U V).trans (i.trans l)).setCell (p:=⟨g,0,none⟩) (U T) _⟩
    ·have g9:(decide (s.I.length≤5∧s.out.length≤30)&&mE s.I)=false:=by simpa using b1
     have b9:=sP p s _ wr (U Z) false g9;have a0:=R b9;have t:X=2:=by rw[←U W];exact qT (by rw[nX,g9];rfl) (by decide)
     subst t;clear b9 b1 g9;go_wp2_with(go_at_call 123;refine(U a0).mono ?_;rintro e l8⟨rfl,i⟩;dsimp only[eZ,left]);refine leaves_cons (f:=122) (args:=#[.pointer (some ⟨g,0,none⟩)]) (by simp) (by simp[go_sem]) ?_;refine(kQ g 0 2 [] _ (aw (i) (U q))).mono ?_;rintro e L a9⟨rfl,rfl,rfl⟩;have r:World.cell? _ ⟨g,0,none⟩=some (Value.int .i64 2):=aE (ay (aw (i) (U q)) 0 (.int .i64 2)) rfl;simp[Leaves,settle,results,results88,go_sem];exact⟨_,by rw[r],rfl,((U V).trans (i)).setCell (p:=⟨g,0,none⟩) (U T) _⟩
def kR(p:List Fn)(s:St):Int:=if aL p=0 then gR p s else aL p
theorem yZ(p:List Fn)(s:St):kR p s=ba p s:=by
 unfold kR ba;by_cases a:aL p=0;·rw[if_pos a,if_pos a,Dd (yo a)]
 ·rw[if_neg a,if_neg a]
theorem rY(p:List Fn)(s:St)(h u:Value)(w:World)(l:aK w h p)(m:cy w u s)(k:bm w):Calls prog 59 #[h,u] w fun d r=>d=.returned (.int .i64 (ba p s))∧J w r:=by
 rw[←yZ];have f:∀a,J w a→Calls prog 25 #[h] a fun d r=>d=.returned (.int .i64 (aL p))∧J a r:=fun a e=>ko p h a (l.kept e) (k.kept e);obtain⟨C,D,rfl,x,h2⟩:=id m;obtain⟨n,i,rfl,-,-⟩:=x;obtain⟨o,j,rfl,-,-⟩:=h2;by_cases c:aL p=0
 ·have g:kR p s=gR p s:=by unfold kR;rw[if_pos c]
  rw[g];rw[c]at f;have q:=R f;have v:=R (fun(a:World)(e:J w a)=>De p s h _ a (l.kept e) (m.kept e) (k.kept e) c);clear f g l m k c;go_enter func59,ntmps59;go_wp2_with fail;refine((U q) _ ((J.refl w).alloc _)).mono ?_;rintro d z⟨rfl,b⟩;have F:=b.cell (show(w.alloc (.cells #[.slice n s.I.length i,.int .i64 s.now,.slice o s.out.length j] 44)).cell? ⟨w.heap.size,0,none⟩=some (.slice n s.I.length i)by simp);have G:=b.cell (show(w.alloc (.cells #[.slice n s.I.length i,.int .i64 s.now,.slice o s.out.length j] 44)).cell? ⟨w.heap.size,1,none⟩=some (.int .i64 s.now)by simp);have H:=b.cell (show(w.alloc (.cells #[.slice n s.I.length i,.int .i64 s.now,.slice o s.out.length j] 44)).cell? ⟨w.heap.size,2,none⟩=some (.slice o s.out.length j)by simp);have t:=R (((J.refl w).alloc _).trans b);clear b;go_wp2_with fail;refine((U v) _ (U t)).mono ?_;rintro d E⟨rfl,y⟩;go_wp2_with fail;go_ret;exact⟨rfl,(U t).trans y⟩
 ·have g:kR p s=aL p:=by unfold kR;rw[if_neg c]
  rw[g];have A:(aL p !=0)=true:=by rw[bne_iff_ne];exact c
  have q:=R f;generalize aL p=B at*;clear f g l m k c;go_enter func59,ntmps59;go_wp2_with fail;refine((U q) _ ((J.refl w).alloc _)).mono ?_;rintro d z⟨rfl,b⟩;go_wp2;go_ret;exact⟨rfl,((J.refl w).alloc _).trans b⟩
