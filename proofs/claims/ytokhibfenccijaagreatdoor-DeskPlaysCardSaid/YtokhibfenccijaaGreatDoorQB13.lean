import Derived.Test.YtokhibfenccijaaGreatDoorQB12
import Derived.Lib.LaidU8
import Derived.LaidSub
set_option maxRecDepth 100000
set_option maxHeartbeats 8000000
namespace Go.Proofs.YtokhibfenccijaaGreatDoor
open Go.Proofs.Tryz
open Go.RowKit Go.Shelf
theorem tq(p:List Fn)(g:Fn)(h:Option Addr)(f e:Nat)(j:Option Addr)(b d B:Nat)(o:World)(k:b=g.code.length):∀(n:Nat)(H:List Int)(a:Nat)(c:Int)(w:World),pC o w p g (.slice h f e) (.slice j b d) B H→0≤c→c≤8→dE H<n→Calls prog 86 #[.agg #[.slice h f e,.slice j b d,.slice (some ⟨B,0,none⟩) b b],.int .i64 a,.int .i64 c] w fun D m=>lY p g n H a c B w D m
 |0,H,a,c,w,_,_,_,r=>by omega
 |n+1,H,a,c,w,i,F,G,r=>by
  by_cases N:b≤a;·exact zm n p g h j f e b d B H a c w i.hs k (by omega)
  ·by_cases h2:H.getD a 0=-1;·obtain⟨l,s⟩:∃l,g.code[a]?=some l:=⟨_,List.getElem?_eq_getElem (by omega)⟩;obtain⟨O,A,K,_,I⟩:=id i.code;obtain⟨q,t,rfl,L,M⟩:=I a l s;obtain⟨rfl,-,-⟩:=(by simpa using K:j=some ⟨q,t,none⟩∧b=g.code.length∧d=A);exact zn n p g h q t f e b d B H a c l o w i k (by omega) s L M h2 F G r (fun u x E m v y z C=>tq p g h f e _ b d B o k n u x E m v y z C)
   ·exact zo n p g h j f e b d B H a c w i.hs k i.len (by omega) h2
def bN(w:World)(v:Value)(l:List Int):Prop:=∃d f,v=.slice d l.length f∧l.length≤8796093022208∧∀b e,l[b]?=some e→∃a c,d=some ⟨a,c,none⟩∧w.cell? ⟨a,c+b,none⟩=some (.int .i64 e)
theorem bN.kept{w w':World}(e:J w w'){v:Value}{l:List Int}(h:bN w v l):bN w' v l:=by obtain⟨n,b,c,i,g⟩:=h;refine⟨n,b,c,i,fun k o j=>?_⟩;obtain⟨a,m,d,f⟩:=g k o j;exact⟨a,m,d,e.cell f⟩
theorem bN.nil(w:World):bN w (.slice none 0 0) []:=⟨none,0,rfl,by simp,fun b c a=>by simp at a⟩
def bH(p:List Fn)(f:Int):List Int×Int:=if bo p f=0 then match bG p (p.getD f.toNat Fn.zero).code with|some a=>(a,0)|none=>([],1)else([],bo p f)
def iO(p:List Fn)(f:Int)(w:World)(e:Ending)(w':World):Prop:=∃a,e=.returned (.tuple #[a,.int .i64 (bH p f).2])∧bN w' a (bH p f).1∧J w w'
theorem CB(p:List Fn)(v:Value)(f:Int)(w:World)(a:aK w v p)(g:bm w)(b:bo p f≠0):Calls prog 57 #[v,.int .i64 f] w fun d m=>iO p f w d m:=by
 obtain⟨r,o,rfl,_,_⟩:=id a;have q:(bo p f !=0)=true:=by rw[bne_iff_ne];exact b
 have i:bH p f=([],bo p f):=by unfold bH;rw[if_neg b]
 have c:=R i;have l:=R a;have k:=R g;clear a g b i;go_enter func57,ntmps57;go_wp2_with fail;refine(pW p _ f _ (U l) (U k)).mono ?_;rintro d t⟨rfl,h⟩;have j:=R h;clear h;generalize e:bo p f=s at*;have n:=R e;clear e;go_wp2;go_ret2;exact⟨.slice none 0 0,by rw[U c];rfl,by rw[U c];exact bN.nil _,U j⟩
theorem iE:(prog.info? 3).map (fun a=>(a.zero,a.size,a.bytes))=some (some (.int .i64 0),1,8):=by kernel_rfl
theorem DG(m:Nat):madeCells #[.int .i64 0] m=((List.replicate m (0:Int)).map (fun a=>Value.int .i64 a)).toArray:=by
 apply Array.ext;·simp[madeCells]
 ·intro c b h2;simp[madeCells,Nat.mod_one]
theorem jB(m:Nat)(h:m≤1000000)(u:World):(Instr.makeSlice 30 (.int .i64 m) (.int .i64 m)).run prog u=.ok (.slice (some ⟨u.heap.size,0,none⟩) m m) (u.alloc (.cells ((List.replicate m (0:Int)).map (fun g=>Value.int .i64 g)).toArray 3)):=by obtain⟨f,b,c,d,e⟩:=info_parts iE;have a:=run_make (P:=prog) u 30 3 f (.int .i64 0) underlying30 b c .i64 .i64 (m:Int) (m:Int) (by omega) (Int.le_refl _) (by rw[e];omega) (by omega);rw[Int.toNat_natCast]at a;rw[←DG];simpa[d,Value.cells]using a
theorem tU{k m:Nat}(d:k<m):(List.replicate k (-1:Int)++List.replicate (m-k) 0).set k (-1)=List.replicate (k+1) (-1)++List.replicate (m-(k+1)) 0:=by
 obtain⟨a,rfl⟩:∃a,m=k+1+a:=⟨m-(k+1),by omega⟩;rw[List.set_append_right _ _ (by simp)];have b:k+1+a-k=a+1:=by omega
 have c:k+1+a-(k+1)=a:=by omega
 rw[b,c,List.replicate_succ];simp[List.replicate_succ',List.append_assoc]
theorem nN{w:World}{B m:Nat}(a:w.heap[B]?=some (.cells (Array.replicate m (.int .i64 0)) 3)):bT w B (List.replicate m 0):=by unfold bT;rw[a];simp
theorem CE(p:List Fn)(g:Fn)(i b o cap:Nat)(j:Option Addr)(m e:Nat)(w:World)(u:bm w)(b1:aK w (.slice (some ⟨b,o,none⟩) p.length cap) p)(g1:i<p.length)(a4:p.getD i Fn.zero=g)(W:w.cell? ⟨b,o+i*3+2,none⟩=some (.slice j m e))(a1:ev w (.slice j m e) g.code)(a7:m=g.code.length)(g3:m≤24)(q:bo p i=0)(b0:dY p g g.code=0):Calls prog 57 #[.slice (some ⟨b,o,none⟩) p.length cap,.int .i64 i] w fun f e7=>iO p i w f e7:=by
 have P:=R u;have S:=R b1;have b6:=R a4;have b5:=R a1;have t:=R a7;have T:=R q;have c2:=R b0;have b4:=R W;clear u b1 a4 a1 a7 q b0 W;go_enter func57,ntmps57;go_wp2_with fail;refine(za p _ i 0 _ (U S) (U P) (U T)).mono ?_;rintro f c⟨rfl,E⟩;have B:=E.cell (U b4);have r:=R E;clear E;have c7:∀h,(c.alloc h).cell? ⟨b,o+i*3+2,none⟩=some (.slice j m e):=fun h=>((J.refl c).alloc h).cell B;have c8:∀h K,((c.alloc h).alloc K).cell? ⟨b,o+i*3+2,none⟩=some (.slice j m e):=fun h K=>(((J.refl c).alloc h).alloc K).cell B;have e3:=jB m (by omega);go_wp2_with fail;go_cut[7](fun e6 wx=>∃d k,e6=.pointer (some ⟨k,0,none⟩)∧Hid (wx.heap[k]?=some (.cells #[.slice (some ⟨b,o,none⟩) p.length cap,.slice j m e,.slice (some ⟨d,0,none⟩) m m] 139))∧Hid (bT wx d (List.replicate m 0))∧c.heap.size≤d∧c.heap.size≤k∧d≠k∧Hid (J c wx));case first=>
  go_region;all_goals go_wp2_with fail
  all_goals go_meet
  ·exact⟨c.heap.size,c.heap.size+1,rfl,R (aW (ah (by simp))),R (nN (aW (au (ah rfl) _))),Nat.le_refl _,Nat.le_succ _,by omega,R ((((J.refl _).alloc _).alloc _).drew)⟩
  ·exact⟨c.heap.size+1,c.heap.size,rfl,R (aW (au (ah rfl) _)),R (nN (aW (ah (by simp)))),Nat.le_succ _,Nat.le_refl _,by omega,R ((((J.refl _).alloc _).alloc _).drew)⟩
 case rest=>
  obtain⟨d,k,rfl,V,b7,C,g0,a9,b9⟩:=hcut;have c9:=ab (U V) 2;simp only[List.getElem?_toArray,List.getElem?_cons_zero,List.getElem?_cons_succ]at c9;clear B c7 c8 e3;go_wp2;go_loopw[32](fun L wr=>∃a:Nat,a≤m∧L=.int .i64 a∧Hid (wr.heap[k]?=some (.cells #[.slice (some ⟨b,o,none⟩) p.length cap,.slice j m e,.slice (some ⟨d,0,none⟩) m m] 139))∧Hid (bT wr d (List.replicate a (-1)++List.replicate (m-a) 0))∧Hid (J c wr))(fun L _=>m-(intOf L).toNat);case atStart=>exact⟨0,Nat.zero_le _,rfl,V,by simpa using b7,b9⟩
  case round=>
   obtain⟨a,g2,rfl,l,s,A⟩:=hrel;have X:=ab (U l) 0;have Y:=ab (U l) 1;have Z:=ab (U l) 2;simp only[List.getElem?_toArray,List.getElem?_cons_zero,List.getElem?_cons_succ]at X Y Z;by_cases e2:a<m
   ·have e5:=(U s).cell (k:=a) (by simp;omega);have g4:=(U s).frozen a;have I:=(U s).set a (-1);rw[tU e2]at I;have c5:=R I;generalize(List.replicate a (-1:Int)++List.replicate (m-a) 0).getD a 0=e9 at e5;clear I;go_wp2;go_roundw;case rel=>exact⟨a+1,by omega,by go_num,bD (U l) (fun f=>a9 f.symm) _,U c5,(U A).setCell (p:=⟨d,a,none⟩) C _⟩
    case measure=>simp[intOf];omega
   ·have a5:a=m:=by omega
    have b2:List.replicate a (-1:Int)++List.replicate (m-a) 0=start g.code:=by have:=U t;rw[a5,Nat.sub_self];simp[start,this]
    have D:=U s;rw[b2]at D;have b3:=si (start g.code);rw[show(start g.code).length=g.code.length by simp[start]]at b3;have G:∀x,x∈g.code→bu p g x=0:=fun x e4=>gh (U c2) x e4;have a3:=tq p g (some ⟨b,o,none⟩) p.length cap j m e d c (U t) (g.code.length+1) (start g.code) 0 0 wr ⟨(U S).kept (U r),(U b5).kept (U r),(U P).kept (U r),G,by have:=U t;omega,U A,C,D,by simp[start]⟩ (by omega) (by omega) (by omega);have N:=R a3;have c3:=R G;clear a3 G b3 D b2 a5;go_wp2_with fail;refine(U N).mono ?_;clear N;rintro f e8⟨c6,z,a2,rfl,a0,F⟩;have bd:bH p i=match bG p g.code with|some y=>(y,0)|none=>([],1):=by unfold bH;rw[if_pos (U T),Int.toNat_natCast,U b6]
    have a6:J w e8:=(U r).trans (aA.kept (U A) C F);have e0:=ab (F.JP (fun f=>a9 f.symm) (U l)) 2;simp only[List.getElem?_toArray,List.getElem?_cons_zero,List.getElem?_cons_succ]at e0;have O:=R bd;have Q:=R a6;have M:=R a2;have b8:=R a0;clear bd a6 a2 a0 F X Y Z;have n:du p g.code:=⟨g,rfl,U c3⟩;cases c6 with
    |false=>
     have a8:bG p g.code=none:=by
      cases e1:bG p g.code with
      |none=>rfl
      |some y=>have:=(xw n).2 y e1;unfold py at this;rw[U M]at this;cases this
     have c1:=R a8;clear a8 n;go_wp2;go_ret2;have bd:=U O;rw[U c1]at bd;exact⟨.slice none 0 0,by rw[bd];rfl,by rw[bd];exact bN.nil _,U Q⟩
    |true=>
     have H:bG p g.code=some z:=(xw n).1 z (U M);have v:z.length=m:=by rw[(iV n H).1.len];exact(U t).symm
     have c4:=R H;have c0:=R v;clear H v n;go_wp2;go_ret2;have bd:=U O;rw[U c4]at bd;refine⟨.slice (some ⟨d,0,none⟩) m m,by rw[bd];rfl,?_,U Q⟩;rw[bd];have v:=U c0;refine⟨_,m,by rw[v],by simp only;omega,fun a e9 q=>⟨d,0,rfl,?_⟩⟩;have u:=(List.getElem?_eq_some_iff.1 q).1;have:=(U b8).cell (k:=a) u;rw[Nat.zero_add,this];simp[List.getD,q]
theorem mG(p:List Fn)(v:Value)(f:Int)(w:World)(a:aK w v p)(g:bm w):Calls prog 57 #[v,.int .i64 f] w fun l s=>iO p f w l s:=by
 by_cases b:bo p f=0;·obtain⟨c,rfl,e,n,z,o⟩:=gN b;obtain⟨A,j,rfl,y,m⟩:=id a;obtain⟨h,q,x,rfl,t,u,i,d⟩:=m c _ (aD p c Fn.zero e);obtain⟨r,k,rfl,_,_⟩:=id d;exact CE p _ c h q j r _ k w g a e rfl i d rfl n b o
 ·exact CB p v f w a g b
open Go.RowKit
theorem uB{p:List Fn}{k:Nat}(a:bo p k=0):(bH p k).2=eh p k:=by unfold bH eh codeOf;rw[if_pos a,Int.toNat_natCast];cases bG p (p.getD k Fn.zero).code<;>rfl
theorem Gk(b:Option Addr)(n cap:Nat)(w:World)(d:5<(n:Int)):Calls prog 25 #[.slice b n cap] w fun a c=>a=.returned (.int .i64 2)∧J w c:=by go_enter func25,ntmps25;go_wp2;go_ret;exact⟨rfl,J.refl _⟩
theorem Gl(b:Option Addr)(cap:Nat)(w:World):Calls prog 25 #[.slice b 0 cap] w fun a c=>a=.returned (.int .i64 5)∧J w c:=by go_enter func25,ntmps25;go_wp2;go_ret;exact⟨rfl,J.refl _⟩
theorem Gh(b o n cap:Nat)(a:Int)(w:World)(f:¬5<(n:Int))(g:((n:Int)==0)=false)(i:0<n)(e:w.cell? ⟨b,o,none⟩=some (.int .i64 a))(h:(a !=0)=true):Calls prog 25 #[.slice (some ⟨b,o,none⟩) n cap] w fun c d=>c=.returned (.int .i64 1)∧J w d:=by go_enter func25,ntmps25;go_wp2;go_ret;exact⟨rfl,J.refl _⟩
theorem Gi(p:List Fn)(b o n cap:Nat)(w:World)(G:aK w (.slice (some ⟨b,o,none⟩) n cap) p)(E:bm w)(F:n=p.length)(W:¬5<(n:Int))(X:((n:Int)==0)=false)(Y:0<n)(V:w.cell? ⟨b,o,none⟩=some (.int .i64 0))(I:Int)(f:(if dn (fun a=>bo p a) 0 p.length=0 then dn (eh p) 0 p.length else dn (fun a=>bo p a) 0 p.length)=I):Calls prog 25 #[.slice (some ⟨b,o,none⟩) n cap] w fun l Q=>l=.returned (.int .i64 I)∧J w Q:=by
 have x:=R f;clear f;have A:=R G;have z:=R E;have v:=R F;clear G E F;go_enter func25,ntmps25;go_wp2;go_loopw[21](fun i wr=>∃a:Nat,a≤n∧i=.int .i64 a∧Hid (dn (fun a=>bo p a) a (n-a)=dn (fun a=>bo p a) 0 p.length)∧Hid (J w wr))(fun i _=>n-(intOf i).toNat);case atStart=>exact⟨0,Nat.zero_le _,rfl,by have:=U v;subst this;rfl,J.refl _⟩
 case round=>
  obtain⟨a,N,rfl,e,t⟩:=hrel;by_cases y:a<n
  ·have c:=nI (e:=fun a=>bo p a) y;have g:=R c;have m:=pW p (.slice (some ⟨b,o,none⟩) n cap) a wr ((U A).kept (U t)) ((U z).kept (U t));have j:=R m;clear c m;go_wp2_with fail;refine(U j).mono ?_;clear j;rintro l S⟨rfl,q⟩;have k:=R ((U t).trans q);clear q;by_cases d:bo p a=0
   ·have c:=U g;simp only[d,if_true]at c;have h:=R (c.symm.trans (U e));rw[d];clear c d g e;go_wp2;go_roundw;case rel=>exact⟨a+1,by omega,by go_num,h,k⟩
    case measure=>simp[intOf];omega
   ·have c:=U g;simp only[d,if_false]at c;have r:=c.symm.trans (U e);have O:(bo p a !=0)=true:=by rw[bne_iff_ne];exact d
    generalize bo p a=P at*;have h:=R r;have M:=R d;clear c d g e r;go_wp2;go_ret;have f:=U x;rw[←U h,if_neg (U M)]at f;exact⟨by rw[←f];rfl,U k⟩
  ·have B:dn (fun a=>bo p a) 0 p.length=0:=by rw[←U e,show n-a=0 by omega];rfl
   have u:=R B;clear B e;go_wp2;go_loopw[33](fun i T=>∃a:Nat,a≤n∧i=.int .i64 a∧Hid (dn (eh p) a (n-a)=dn (eh p) 0 p.length)∧Hid (J w T))(fun i _=>n-(intOf i).toNat);case atStart=>exact⟨0,Nat.zero_le _,rfl,by have:=U v;subst this;rfl,t⟩
   case round=>
    obtain⟨a,N,rfl,e,s⟩:=hrel;by_cases y:a<n
    ·have c:=nI (e:=eh p) y;have H:bo p a=0:=my (U u) a (by omega) (by have:=U v;omega);have D:=uB H;have g:=R c;have m:=mG p (.slice (some ⟨b,o,none⟩) n cap) a _ ((U A).kept (U s)) ((U z).kept (U s));have j:=R m;have L:=R D;clear c m D H;go_wp2_with fail;refine(U j).mono ?_;clear j;rintro l S⟨Z,rfl,_,q⟩;have k:=R ((U s).trans q);clear q;rw[U L];by_cases d:eh p a=0
     ·have c:=U g;simp only[d,if_true]at c;have h:=R (c.symm.trans (U e));rw[d];clear c d g e;go_wp2;go_roundw;case rel=>exact⟨a+1,by omega,by go_num,h,k⟩
      case measure=>simp[intOf];omega
     ·have c:=U g;simp only[d,if_false]at c;have r:=c.symm.trans (U e);have O:(eh p a !=0)=true:=by rw[bne_iff_ne];exact d
      generalize eh p a=P at*;have h:=R r;clear c d g e r;go_wp2;go_ret;have f:=U x;rw[if_pos (U u),←U h]at f;exact⟨by rw[←f];rfl,U k⟩
    ·have C:dn (eh p) 0 p.length=0:=by rw[←U e,show n-a=0 by omega];rfl
     have K:=R C;clear C e;go_wp2;go_ret;have f:=U x;rw[if_pos (U u),U K]at f;exact⟨by rw[←f];rfl,U s⟩
theorem ko(p:List Fn)(v:Value)(w:World)(h:aK w v p)(m:bm w):Calls prog 25 #[v] w fun k n=>k=.returned (.int .i64 (aL p))∧J w n:=by
 obtain⟨j,b,rfl,t,l⟩:=id h;unfold aL;by_cases g:5<p.length;·rw[if_pos g];exact Gk j p.length b w (by omega)
 ·rw[if_neg g];by_cases d:p.length=0;·rw[if_pos d,d];exact Gl j b w
  ·rw[if_neg d];have f:((p.length:Int)==0)=false:=by rw[beq_eq_false_iff_ne];omega
   obtain⟨e,i,r,rfl,a,o,q,s⟩:=l 0 _ (aD p 0 Fn.zero (by omega));simp only[Nat.zero_mul,Nat.add_zero]at a;by_cases c:(p.getD 0 Fn.zero).args=0;·rw[if_neg (not_not_intro c)];rw[c]at a;exact Gi p e i p.length b w h m rfl (by omega) f (by omega) a _ rfl
   ·rw[if_pos c];exact Gh e i p.length b _ w (by omega) f (by omega) a (by rw[bne_iff_ne];exact c)
theorem Gj(p:List Fn)(v:Value)(a:Int)(w:World)(e:aK w v p)(d:bm w)(c:aL p=a):Calls prog 25 #[v] w fun b f=>b=.returned (.int .i64 a)∧J w f:=by have:=ko p v w e d;rw[c]at this;exact this
open Go.RowKit Go.Maps
def dm(l:List UInt8):List Fn×Int:=if l.length≤8192 then match eH l with|some a=>if aL a=0 then(a,0)else([],1)|none=>([],1)else([],2)
def mi(l:List UInt8)(w:World)(e:Ending)(w':World):Prop:=∃c a b,e=.returned (.tuple #[.slice c a b,.int .i64 (dm l).2])∧a=(dm l).1.length∧aK w' (.slice c a b) (dm l).1∧J w w'∧∃d f,w.heap.size≤d∧cx d f w' (.slice c a b) (dm l).1
theorem rE(w:World):aK w (.slice none 0 0) []:=⟨none,0,rfl,by simp,fun c b a=>by simp at a⟩
theorem uf:∀(ls:List (List UInt8))(p b:List Fn)(k:Nat),dG p ls=some b→ml p k→ml b (k+ls.length)
 |[],p,b,k,a,d=>by cases a;exact d
 |e::ls,p,b,k,a,d=>by
  cases c:stepT p (ao 32 e)with
  |none=>simp only[dG,c]at a;cases a
  |some f=>simp only[dG,c]at a;have:=uf ls f b (k+1) a (stepT_size c d);rw[List.length_cons,show k+(ls.length+1)=k+1+ls.length by omega];exact this
theorem Jv{l:List UInt8}{p:List Fn}(a:eH l=some p)(d:l.length≤8192):p.length≤8193:=by
 unfold eH at a;cases b:dj l with
 |none=>rw[b]at a;cases a
 |some e=>rw[b]at a;have g:=(ri b d).1;have h2:=(uf e [] p 0 a ⟨by simp,fun f c=>by simp at c⟩).1;omega
theorem wo(w:World)(l:List UInt8)(v:eL w)(x:bm w):Calls prog 12 #[.string ⟨l.toArray⟩] w (mi l w):=by
 have a1:(ByteArray.mk l.toArray).size=l.length:=by simp[ByteArray.size]
 have t:Hid (∀b,J w b→∃r A,w.heap.size≤r∧cx r A b (.slice none 0 0) []):=R fun b z=>⟨_,_,z.size,cx.nil _ b (Nat.le_refl _)⟩;by_cases h:l.length≤8192
 ·have p:=R (Jw w l h v);have E:Hid (∀b n a,J w b→aK b n a→Calls prog 25 #[n] b fun D W=>D=.returned (.int .i64 (aL a))∧J b W):=R fun b n a z N=>ko a n b N (x.kept z);have M:¬(8192:Int)<(l.length:Int):=by omega
  have g:Hid (dm l=match eH l with|some a=>if aL a=0 then(a,0)else([],1)|none=>([],1)):=R (by unfold dm;rw[if_pos h]);have q:Hid (∀a,eH l=some a→a.length≤8193):=R fun a L=>Jv L h;generalize(ByteArray.mk l.toArray)=H at*;generalize l.length=G at*;clear v x h;go_enter func12,ntmps12;go_wp2_with fail;refine(U p).mono ?_;intro D X m;unfold mq at m;cases c:eH l with
  |none=>rw[c]at m;obtain⟨rfl,f⟩:=m;have e:Hid (dm l=([],1)):=R (by rw[U g,c]);have B:=R f;clear f c p g q;go_wp2_with fail;go_ret2;unfold mi;rw[U e];exact⟨none,0,0,rfl,rfl,rE _,U B,(U t) _ (U B)⟩
  |some a=>
   rw[c]at m;obtain⟨n,r,A,rfl,u,s,f⟩:=m;have a0:=(U q) a c;have k:=s.prog (by omega);obtain⟨O,I,rfl,_⟩:=id k;have j:=R ((U E) X _ a f k);have C:=R (And.intro k (And.intro s (And.intro f u)));generalize y:a.length=P at*;have F:=R y;by_cases i:aL a=0;·have e:Hid (dm l=(a,0)):=R (by rw[U g,c];simp only[i,if_true]);rw[i]at j;clear k s f c p g q y i u;go_wp2_with fail;refine(U j).mono ?_;rintro _ Y⟨rfl,d⟩;have o:=R d;clear d j;go_wp2_with fail;go_ret2;unfold mi;rw[U e];obtain⟨Q,S,T,V⟩:=U C;have d:=U o;exact⟨O,P,I,rfl,(U F).symm,Q.kept d,T.trans d,r,A,V,S.kept d⟩
   ·have e:Hid (dm l=([],1)):=R (by rw[U g,c];simp only[i,if_false]);have Z:=R i;generalize aL a=K at*;have a2:(K==0)=false:=by simpa using i
    clear k s f c p g q y u;go_wp2_with fail;refine(U j).mono ?_;rintro _ Y⟨rfl,d⟩;have o:=R ((U C).2.2.1.trans d);clear d j;go_wp2_with fail;go_ret2;unfold mi;rw[U e];exact⟨none,0,0,rfl,rfl,rE _,U o,(U t) _ (U o)⟩
 ·have e:Hid (dm l=([],2)):=R (by unfold dm;rw[if_neg h]);have M:(8192:Int)<(l.length:Int):=by omega
  generalize(ByteArray.mk l.toArray)=H at*;generalize l.length=G at*;clear v x h;go_enter func12,ntmps12;go_wp2_with fail;go_ret2;unfold mi;rw[U e];exact⟨none,0,0,rfl,rfl,rE _,J.refl w,(U t) _ (J.refl w)⟩
theorem vQ:∀(l:List UInt8)(b v:Nat)(c:UInt8),Lib.parseUint10 b l=.ok v→Lib.parseUint10 b (l++[c])=Lib.parseUint10 v [c]
 |[],b,v,c,a=>by simp only[Lib.parseUint10,Lib.NumEnd.ok.injEq]at a;subst a;rfl
 |e::l,b,v,c,a=>by
  rw[List.cons_append];unfold Lib.parseUint10 at a⊢;split at a
  ·rename_i d;rw[if_pos d];split at a;·cases a
   ·rename_i h2;rw[if_neg h2];split at a;·cases a
    ·rename_i h3;rw[if_neg h3];exact vQ l _ v c a
  ·cases a
theorem kW{d:Nat}(a:d<10):(UInt8.ofNat (48+d)).toNat=48+d:=by rw[UInt8.toNat_ofNat'];omega
theorem FG(n:Nat):n<1000000→Lib.parseUint10 0 (Lib.decDigits n)=.ok n:=by
 induction n using Nat.strongRecOn with
 |ind n b=>
  intro c;unfold Lib.decDigits;split;·rename_i a;unfold Lib.parseUint10;rw[kW a,if_pos (by omega),if_neg (by omega),if_neg (by omega)];simp[Lib.parseUint10]
  ·rename_i a;rw[vQ _ 0 (n/10) _ (b (n/10) (by omega) (by omega))];unfold Lib.parseUint10;rw[kW (by omega),if_pos (by omega),if_neg (by omega),if_neg (by omega)];simp only[Lib.parseUint10,Lib.NumEnd.ok.injEq];omega
theorem qd(n:Nat):∀b∈Lib.decDigits n,48≤b.toNat∧b.toNat≤57:=by
 induction n using Nat.strongRecOn with
 |ind n d=>
  unfold Lib.decDigits;split;·rename_i c;intro b a;obtain rfl:=List.mem_singleton.1 a;rw[kW c];omega
  ·rename_i c;intro b a;rcases List.mem_append.1 a with a|a;·exact d (n/10) (by omega) b a
   ·obtain rfl:=List.mem_singleton.1 a;rw[kW (by omega)];omega
theorem qe(n:Nat):Lib.decDigits n≠[]:=by unfold Lib.decDigits;split<;>simp
theorem vw{k:Nat}(g:k<1000000)(h:(Lib.decDigits k).length≤6):cu (Lib.decDigits k)=some (k:Int):=by
 have f:Lib.itoa (k:Int)=Lib.decDigits k:=by unfold Lib.itoa;rw[if_neg (by omega),Int.toNat_natCast]
 have e:Lib.atoiAll (Lib.decDigits k)=.ok (k:Int):=by
  have c:=FG k g;have b:=qd k;have i:=qe k;cases d:Lib.decDigits k with
  |nil=>exact absurd d i
  |cons a l=>rw[d]at c b;have j:=b a (by simp);unfold Lib.atoiAll;simp only;rw[if_neg (show¬(a.toNat=43∨a.toNat=45)by omega)];unfold Lib.parseMag;rw[if_neg (by simp),c];simp only;rw[if_neg (by omega),if_neg (by omega),if_neg (by omega)]
 unfold cu;rw[e];simp only;rw[if_pos ⟨by omega,h,f⟩]
theorem nR(k:Nat):Lib.itoa (k:Int)=Lib.decDigits k:=by unfold Lib.itoa;rw[if_neg (by omega),Int.toNat_natCast]
theorem km{n:Int}(a:0≤n)(c:n≤999):cu (Lib.itoa n)=some n:=by obtain⟨b,rfl⟩:=Int.eq_ofNat_of_zero_le a;rw[nR];exact vw (by omega) (by have:=kV b 3 (by omega) (by omega);omega)
theorem vu{w:List UInt8}{v:Int}(a:cu w=some v):Lib.itoa v=w:=by
 unfold cu at a;split at a
 ·split at a;·rename_i b;cases a;exact b.2.2
  ·cases a
 ·cases a
theorem vC:∀{b:List (List UInt8)}{l:List Int},eD b=some l→b=l.map Lib.itoa
 |[],l,a=>by cases a;rfl
 |f::b,l,a=>by
  unfold eD at a;split at a;·cases a
  ·rename_i g d;split at a;·cases a
   ·rename_i e c;cases a;simp[vu d,vC c]
theorem rs:∀{l:List Int},(∀a∈l,0≤a∧a≤999)→eD (l.map Lib.itoa)=some l
 |[],_=>rfl
 |a::l,b=>by have c:=km (b a (by simp)).1 (b a (by simp)).2;have h2:=rs (l:=l) (fun e d=>b e (by simp[d]));simp only[List.map_cons,eD,c,h2]
theorem xj(k:Nat):(aJ.getD k ([],0)).2≤1:=by
 by_cases a:k<17;·revert a;revert k;decide
 ·rw[show aJ.getD k ([],0)=([],0)by simp[List.getD,List.getElem?_eq_none (show aJ.length≤k by simp[aJ];omega)]];simp
theorem uT{wd:List UInt8}{k:Nat}(a:dW wd=some k):(aJ.getD k ([],0)).1=wd:=by unfold dW at a;rw[List.findIdx?_eq_some_iff_getElem]at a;obtain⟨b,h2,_⟩:=a;rw[pq]at h2;simpa using h2
theorem IF{p l:List Fn}{x:List UInt8}(a:stepT p (ao 32 x)=some l):bI l=bI p++(x++[10]):=by
 have j:=nT 32 x;cases k:ao 32 x with
 |nil=>exact absurd k (gV 32 x)
 |cons d t=>
  rw[k]at a j;cases g:eD t with
  |none=>simp only[stepT,g]at a;cases a
  |some c=>
   simp only[stepT,g]at a;have q:x++[10]=cJ d c:=by rw[←j,vC g];rfl
   rw[q];by_cases h:d=[102,117,110,99]
   ·rw[if_pos h]at a;by_cases h2:c.length=2;·rw[if_pos h2]at a;cases a;match c,h2 with|[n,v],_=>simp[bI,bL,h]
    ·rw[if_neg h2]at a;cases a
   ·rw[if_neg h]at a;by_cases e:p=[];·rw[if_pos e]at a;cases a
    ·rw[if_neg e]at a;cases b:gd d c with
     |none=>rw[b]at a;cases a
     |some u=>
      rw[b]at a;cases a;have r:cM u=cJ d c:=by
       unfold gd at b;cases f:dW d with
       |none=>rw[f]at b;cases b
       |some s=>
        rw[f]at b;simp only at b;split at b
        ·rename_i w;cases b;unfold cM;simp only[Int.toNat_natCast,uT f];have:=xj s;split;·rename_i o;have:c=[]:=List.eq_nil_of_length_eq_zero (by omega);rw[this]
         ·rename_i o;match c,(show c.length=1 by omega)with|[n],_=>rfl
        ·cases b
      rw[←r];obtain⟨m,i,rfl⟩:∃m i,p=m++[i]:=⟨p.dropLast,p.getLast e,(List.dropLast_concat_getLast e).symm⟩;simp[fI,bI,bL]
theorem ui:∀(ls:List (List UInt8))(p b:List Fn),dG p ls=some b→bI b=bI p++ls.flatMap (·++[10])
 |[],p,b,a=>by cases a;simp
 |e::ls,p,b,a=>by
  cases c:stepT p (ao 32 e)with
  |none=>simp only[dG,c]at a;cases a
  |some d=>simp only[dG,c]at a;rw[ui ls d b a,IF c];simp
theorem qt(c:UInt8):∀{ls:List (List UInt8)},ls≠[]→ls.flatMap (·++[c])=Lib.join ls [c]++[c]
 |[],d=>absurd rfl d
 |[b],_=>by simp[Lib.join_one]
 |b::a::ls,_=>by
  have e:=qt c (ls:=a::ls) (by simp);rw[List.flatMap_cons,e,Lib.join_cons b (a::ls)];have:Lib.joinTail [c] (a::ls)=c::Lib.join (a::ls) [c]:=by rw[Lib.join_cons];simp[Lib.joinTail]
  rw[this];simp
theorem Jz{l:List UInt8}{p:List Fn}(b:eH l=some p):bI p=l:=by
 unfold eH at b;cases a:dj l with
 |none=>rw[a]at b;cases b
 |some f=>
  rw[a]at b;have e:=ui f [] p b;rw[e];unfold dj at a;split at a;·rename_i c;cases a;subst c;rfl
  ·split at a;·rename_i c h2;cases a;rw[qt 10 (gV 10 _),nT];have d:l≠[]:=c;rw[List.getLast?_eq_some_getLast d,Option.some.injEq]at h2;have:=List.dropLast_concat_getLast d;rw[h2]at this;simpa[bI]using this
   ·cases a
def ga(wd:List UInt8)(l:List Int):List UInt8:=Lib.join (wd::l.map Lib.itoa) [32]
def fw(x:Int×Int):List UInt8:=if(aJ.getD x.1.toNat ([],0)).2=0 then ga (aJ.getD x.1.toNat ([],0)).1 []else ga (aJ.getD x.1.toNat ([],0)).1 [x.2]
def eu(p:List Fn):List (List UInt8):=p.flatMap fun a=>ga [102,117,110,99] [a.args,a.locals]::a.code.map fw
theorem Fu(x:Int×Int):cM x=fw x++[10]:=by unfold cM fw;split<;>rfl
theorem wT(p:List Fn):bI p=(eu p).flatMap (·++[10]):=by
 have d:∀b:List (Int×Int),b.flatMap cM=(b.map fw).flatMap (·++[10]):=fun b=>by
  induction b with
  |nil=>rfl
  |cons e b c=>simp[c,Fu]
 induction p with
 |nil=>rfl
 |cons a p c=>
  have:bI (a::p)=bL a++bI p:=by simp[bI]
  rw[this,c];have h2:eu (a::p)=(ga [102,117,110,99] [a.args,a.locals]::a.code.map fw)++eu p:=by simp[eu]
  rw[h2];simp[bL,cJ,ga,d]
theorem uL{z:Int}(c:0≤z):(10:UInt8)∉Lib.itoa z∧(32:UInt8)∉Lib.itoa z:=by
 have b:Lib.itoa z=Lib.decDigits z.toNat:=by unfold Lib.itoa;rw[if_neg (by omega)]
 rw[b];constructor;·intro a;have:=qd _ _ a;simp at this
 ·intro a;have:=qd _ _ a;simp at this
theorem uP{c d:UInt8}(h:c≠d):∀{xs:List (List UInt8)},(∀b∈xs,c∉b)→c∉Lib.join xs [d]
 |[],_=>by simp[Lib.join_nil]
 |[b],e=>by rw[Lib.join_one];exact e b (by simp)
 |b::f::g,e=>by
  have j:=uP h (xs:=f::g) (fun k i=>e k (by simp[i]));rw[Lib.join_cons];have:Lib.joinTail [d] (f::g)=d::Lib.join (f::g) [d]:=by rw[Lib.join_cons];simp[Lib.joinTail]
  rw[this];intro a;rcases List.mem_append.1 a with a|a;·exact e b (by simp) a
  ·rcases List.mem_cons.1 a with a|a;·exact h a
   ·exact j a
theorem xy{wd:List UInt8}{l:List Int}(f:(10:UInt8)∉wd∧(32:UInt8)∉wd)(e:∀c∈l,0≤c):(∀b∈wd::l.map Lib.itoa,(10:UInt8)∉b)∧∀b∈wd::l.map Lib.itoa,(32:UInt8)∉b:=by
 constructor
 ·intro b a;rcases List.mem_cons.1 a with rfl|a;·exact f.1
  ·obtain⟨c,d,rfl⟩:=List.mem_map.1 a;exact(uL (e c d)).1
 ·intro b a;rcases List.mem_cons.1 a with rfl|a;·exact f.2
  ·obtain⟨c,d,rfl⟩:=List.mem_map.1 a;exact(uL (e c d)).2
theorem jA{wd:List UInt8}{l:List Int}(b:(10:UInt8)∉wd∧(32:UInt8)∉wd)(a:∀c∈l,0≤c):ao 32 (ga wd l)=wd::l.map Lib.itoa∧(10:UInt8)∉ga wd l:=⟨pd (by simp) (xy b a).2,uP (by decide) (xy b a).1⟩
theorem mZ(k:Nat):(10:UInt8)∉(aJ.getD k ([],0)).1∧(32:UInt8)∉(aJ.getD k ([],0)).1:=by
 by_cases a:k<17;·revert a;revert k;decide
 ·rw[show aJ.getD k ([],0)=([],0)by simp[List.getD,List.getElem?_eq_none (show aJ.length≤k by simp[aJ];omega)]];simp
theorem se(k:Nat)(a:k<17):(aJ.getD k ([],0)).1≠[102,117,110,99]:=by revert a;revert k;decide
theorem pr(k:Nat)(a:k<17):dW (aJ.getD k ([],0)).1=some k:=by revert a;revert k;decide
theorem ID(p:List Fn){a b:Int}(d:0≤a∧a≤999)(e:0≤b∧b≤999):stepT p (ao 32 (ga [102,117,110,99] [a,b]))=some (p++[⟨a,b,[]⟩]):=by rw[(jA (wd:=[102,117,110,99]) (l:=[a,b]) (by decide) (by simp;omega)).1];have c:eD ([a,b].map Lib.itoa)=some [a,b]:=rs (by simp;omega);simp only[stepT,c,if_true];rfl
theorem IE(q:List Fn)(f:Fn){x:Int×Int}(j:0≤x.1∧x.1<17)(h2:0≤x.2∧x.2≤999)(h3:(aJ.getD x.1.toNat ([],0)).2=0→x.2=0):stepT (q++[f]) (ao 32 (fw x))=some (q++[⟨f.args,f.locals,f.code++[x]⟩]):=by
 obtain⟨a,c⟩:=x;obtain⟨a,rfl⟩:=Int.eq_ofNat_of_zero_le j.1;simp only[Int.toNat_natCast]at h3⊢;have g:a<17:=by omega
 have i:∀b:List Int,(∀e∈b,0≤e∧e≤999)→b.length=(aJ.getD a ([],0)).2→b.getLastD 0=c→stepT (q++[f]) (ao 32 (ga (aJ.getD a ([],0)).1 b))=some (q++[⟨f.args,f.locals,f.code++[((a:Int),c)]⟩]):=fun b h l k=>by
  rw[(jA (mZ a) (fun e n=>(h e n).1)).1];have m:gd (aJ.getD a ([],0)).1 b=some ((a:Int),c):=by unfold gd;rw[pr a g];simp only[l,if_true,k]
  simp only[stepT,rs h,if_neg (se a g),if_neg (show¬(q++[f]=[])by simp),m];simp[fI]
 unfold fw;simp only[Int.toNat_natCast];by_cases d:(aJ.getD a ([],0)).2=0;·rw[if_pos d];exact i [] (by simp) (by rw[d];rfl) (by rw[h3 d];rfl)
 ·rw[if_neg d];exact i [c] (by simpa using h2) (by have:=xj a;rw[List.length_singleton];omega) rfl
theorem ud:∀(xs b:List (List UInt8))(p q:List Fn),dG p xs=some q→dG p (xs++b)=dG q b
 |[],b,p,q,a=>by cases a;rfl
 |e::xs,b,p,q,a=>by
  rw[List.cons_append];cases c:stepT p (ao 32 e)with
  |none=>simp only[dG,c]at a;cases a
  |some d=>simp only[dG,c]at a⊢;exact ud xs b d q a
theorem uh(q:List Fn)(a b:Int):∀(c e:List (Int×Int)),(∀d∈c,(0≤d.1∧d.1<17)∧(0≤d.2∧d.2≤999)∧((aJ.getD d.1.toNat ([],0)).2=0→d.2=0))→dG (q++[⟨a,b,e⟩]) (c.map fw)=some (q++[⟨a,b,e++c⟩])
 |[],e,_=>by simp[dG]
 |d::c,e,f=>by obtain⟨g,h2,h3⟩:=f d (by simp);have h:=IE q ⟨a,b,e⟩ g h2 h3;simp only[List.map_cons,dG,h];rw[uh q a b c (e++[d]) (fun j i=>f j (by simp[i]))];simp
theorem ug:∀(p q:List Fn),(∀c∈p,(0≤c.args∧c.args≤4)∧(0≤c.locals∧c.locals≤4)∧c.code.length≤24∧∀d∈c.code,(0≤d.1∧d.1<17)∧(0≤d.2∧d.2≤999)∧((aJ.getD d.1.toNat ([],0)).2=0→d.2=0))→dG q (eu p)=some (q++p)
 |[],q,_=>by simp[eu,dG]
 |c::p,q,e=>by
  obtain⟨l,h2,_,h⟩:=e c (by simp);have f:eu (c::p)=(ga [102,117,110,99] [c.args,c.locals]::c.code.map fw)++eu p:=by simp[eu]
  have k:=ID q (a:=c.args) (b:=c.locals) (by omega) (by omega);have i:dG q (ga [102,117,110,99] [c.args,c.locals]::c.code.map fw)=some (q++[c]):=by simp only[dG,k];rw[uh q c.args c.locals c.code [] h];rfl
  rw[f,ud _ _ _ _ i,ug p (q++[c]) (fun g j=>e g (by simp[j]))];simp
theorem ve{p:List Fn}(d:gL p):∀b∈eu p,(10:UInt8)∉b:=by
 intro b a;obtain⟨c,f,a⟩:=List.mem_flatMap.1 a;obtain⟨i,h2,_,e⟩:=d.fn c f;rcases List.mem_cons.1 a with rfl|a;·exact(jA (by decide) (by simp;omega)).2
 ·obtain⟨h,g,rfl⟩:=List.mem_map.1 a;obtain⟨_,j,_⟩:=e h g;unfold fw;split;·exact(jA (mZ _) (by simp)).2
  ·exact(jA (mZ _) (by simp;omega)).2
theorem Jy{p:List Fn}(b:gL p):eH (bI p)=some p:=by
 have c:=ug p [] b.fn;simp only[List.nil_append]at c;unfold eH;have d:dj (bI p)=some (eu p):=by
  rw[wT];by_cases a:eu p=[];·rw[a];rfl
  ·rw[qt 10 a];unfold dj;rw[if_neg (by simp),if_pos (by simp),List.dropLast_concat,pd a (ve b)]
 rw[d];exact c
theorem uK{z:Int}(b:0≤z∧z≤999):(Lib.itoa z).length≤3:=by
 have a:Lib.itoa z=Lib.decDigits z.toNat:=by unfold Lib.itoa;rw[if_neg (by omega)]
 rw[a];exact kV z.toNat 3 (by omega) (by omega)
theorem ra(wd:List UInt8)(l:List Int)(c:wd.length≤6)(f:l.length≤2)(d:∀a∈l,0≤a∧a≤999):(cJ wd l).length≤22:=by
 have:=kZ (wd::l.map Lib.itoa) 6 (fun g b=>by
  rcases List.mem_cons.1 b with rfl|b;·exact c
  ·obtain⟨a,e,rfl⟩:=List.mem_map.1 b;have:=uK (d a e);omega);simp only[List.length_cons,List.length_map]at this;have h2:(l.length+1)*(6+1)≤3*7:=Nat.mul_le_mul (by omega) (by omega);simp only[cJ,List.length_append,List.length_cons,List.length_nil];omega
theorem Hq{p:List Fn}(c:gL p):(bI p).length≤8192:=by
 have b:∀a∈p,(bL a).length≤550:=fun a b=>by
  obtain⟨g,h2,h3,e⟩:=c.fn a b;have i:=ra [102,117,110,99] [a.args,a.locals] (by simp) (by simp) (by simp;omega);have j:=jZ cM 22 a.code (fun d f=>by
   have:=mY d.1.toNat;unfold cM;split;·exact ra _ _ (by omega) (by simp) (by simp)
   ·exact ra _ _ (by omega) (by simp) (by simp;exact(e d f).2.1));have:a.code.length*22≤24*22:=Nat.mul_le_mul_right _ h3;simp only[bL,List.length_append];omega
 have:=jZ bL 550 p b;have h:p.length*550≤5*550:=Nat.mul_le_mul_right _ c.len;unfold bI;omega
theorem wt{p:List Fn}(a:aL p=0):dm (bI p)=(p,0):=by unfold dm;rw[if_pos (Hq (kq a)),Jy (kq a)];simp only[a,if_true]
theorem rH{l:List UInt8}(a:(dm l).2=0):aL (dm l).1=0∧bI (dm l).1=l:=by
 unfold dm at a⊢;by_cases c:l.length≤8192
 ·rw[if_pos c]at a⊢;cases b:eH l with
  |none=>rw[b]at a;cases a
  |some e=>
   rw[b]at a;simp only at a⊢;by_cases d:aL e=0;·simp only[d,if_true];exact⟨trivial,Jz b⟩
   ·simp only[d,if_false]at a;cases a
 ·rw[if_neg c]at a;cases a
def pb(p:List Fn):List UInt8×Int:=if aL p=0 then(bI p,0)else([],aL p)
theorem Hs(w:World)(p:List Fn)(a:Value)(d:aK w a p)(c:bm w)(i:aL p≠0):Calls prog 9 #[a] w fun g j=>g=.returned (.tuple #[.string ⟨#[]⟩,.int .i64 (aL p)])∧J w j:=by
 have b:=R (ko p a w d c);obtain⟨n,k,rfl,_⟩:=d;generalize aL p=h at*;generalize p.length=m at*;have l:(h==0)=false:=by simpa using i
 clear c;go_enter func9,ntmps9;go_wp2_with fail;refine(U b).mono ?_;rintro _ o⟨rfl,e⟩;have f:=R e;clear e b;go_wp2_with fail;go_ret2;exact⟨rfl,U f⟩
theorem Hp(w:World)(p:List Fn)(b:Value)(c:aK w b p)(e:eL w)(f:bm w):Calls prog 9 #[b] w fun g h=>g=.returned (.tuple #[.string ⟨(pb p).1.toArray⟩,.int .i64 (pb p).2])∧J w h:=by
 unfold pb;by_cases a:aL p=0;·rw[if_pos a];have d:=ko p b w c f;rw[a]at d;exact Ht w p b c (kq a) e.Kc e.kinds (R d)
 ·rw[if_neg a];exact Hs w p b c f a
open Go.RowKit Go.ChangeShapes Go.WideShapes Go.ChangeAt
theorem Dp{H:Type}(i:Nat)(a:i<17):([.agg [.lit (.string [112,117,115,104]),.lit (.int .i64 1)],.agg [.lit (.string [112,111,112]),.lit (.int .i64 0)],.agg [.lit (.string [108,111,97,100]),.lit (.int .i64 1)],.agg [.lit (.string [115,116,111,114,101]),.lit (.int .i64 1)],.agg [.lit (.string [97,100,100]),.lit (.int .i64 0)],.agg [.lit (.string [115,117,98]),.lit (.int .i64 0)],.agg [.lit (.string [109,117,108]),.lit (.int .i64 0)],.agg [.lit (.string [108,101,115,115]),.lit (.int .i64 0)],.agg [.lit (.string [115,97,109,101]),.lit (.int .i64 0)],.agg [.lit (.string [106,117,109,112]),.lit (.int .i64 1)],.agg [.lit (.string [122,101,114,111]),.lit (.int .i64 1)],.agg [.lit (.string [99,97,108,108]),.lit (.int .i64 1)],.agg [.lit (.string [114,101,116,117,114,110]),.lit (.int .i64 0)],.agg [.lit (.string [109,97,107,101]),.lit (.int .i64 1)],.agg [.lit (.string [114,101,115,117,109,101]),.lit (.int .i64 0)],.agg [.lit (.string [121,105,101,108,100]),.lit (.int .i64 0)],.agg [.lit (.string [112,117,116]),.lit (.int .i64 0)]]:List (DataW H))[i]?=some (.agg [.lit (.string (aJ.getD i ([],0)).1),.lit (.int .i64 ((aJ.getD i ([],0)).2:Nat))]):=by
 have:i=0∨i=1∨i=2∨i=3∨i=4∨i=5∨i=6∨i=7∨i=8∨i=9∨i=10∨i=11∨i=12∨i=13∨i=14∨i=15∨i=16:=by omega
 rcases this with rfl|rfl|rfl|rfl|rfl|rfl|rfl|rfl|rfl|rfl|rfl|rfl|rfl|rfl|rfl|rfl|rfl<;>rfl
theorem qA:prog.globalNamed "glebe/text.kinds"=some 0:=by kernel_rfl
theorem Ch:(prog.globals[0]?).map (·.type)=some 108:=by kernel_rfl
theorem yI:prog.cellsOf 107=2:=by kernel_rfl
theorem yH:prog.cellsOf 9=1:=by kernel_rfl
theorem yF:prog.cellsOf 3=1:=by kernel_rfl
theorem Jr:∃a b:Field,prog.underlying 107=some (.struct #[a,b])∧a.type=9∧a.offset=0∧b.type=3∧b.offset=1:=⟨_,_,underlying107,rfl,rfl,rfl,rfl⟩
theorem IY{d:World}(n:Lib.VarReads prog d "glebe/text.kinds" Rows.laid_glebe_text_kinds):iR d:=by
 obtain⟨K,P,F,I,O,p,t,i,o⟩:=n;obtain rfl:=Option.some.inj (qA.symm.trans p);obtain rfl:=Option.some.inj (Ch.symm.trans t);obtain⟨k,M,_,v,_,L,q⟩:=DataW.trod_array underlying108 o;have h:(Rows.laid_glebe_text_kinds:DataW Unit)=.agg (k.map (·.1)):=congrArg Prod.fst v;have r:∀a,a<17→(k[a]?).map (·.1)=some (.agg [.lit (.string (aJ.getD a ([],0)).1),.lit (.int .i64 ((aJ.getD a ([],0)).2:Nat))]):=by intro a b;rw[←List.getElem?_map,←Dp a b];unfold Rows.laid_glebe_text_kinds at h;rw[←DataW.agg.inj h]
 intro a b;have g:=q a b;obtain⟨Q,w,c⟩:=Option.map_eq_some_iff.1 (r a b);rw[w,yI]at g;obtain⟨G,H,u,D,y,E,z⟩:=Jr;obtain⟨S,T,N,x,_,e,f⟩:=trod_struct2 u g;rw[D,y,yH]at e;rw[E,z,yF]at f;obtain⟨j,l,B,_⟩:=DataW.trod_string underlying9 e;obtain⟨V,m,C,_⟩:=DataW.trod_int underlying3 f;rw[x,B,C]at c;simp only[DataW.agg.injEq,List.cons.injEq,DataW.lit.injEq,Lit.string.injEq,Lit.int.injEq,true_and,and_true]at c;obtain⟨A,rfl⟩:=c;have s:Value.string j=aG (aJ.getD a ([],0)).1:=by rw[←A];cases j;simp[aG]
 rw[World.var?_cell qA i,World.var?_cell qA i,←s];constructor;·have:=congrArg (·[0]?) l;simpa[List.getElem?_take,List.getElem?_drop]using this
 ·have:=congrArg (·[0]?) m;simpa[List.getElem?_take,List.getElem?_drop,Nat.add_comm,Nat.add_left_comm]using this
theorem tN{a:World}{n q:String}{d:DataW Unit}{g:Nat}{ti:TypeId}{p:Array (String×TypeId)}(i:prog.globalNamed n=some g)(l:(prog.globals[g]?).map (·.type)=some ti)(k:prog.underlying ti=some (.interface p))(f:Lib.VarReads prog a n (.iface q d)):∃r b,a.var? prog n=some #[.iface r b]:=by obtain⟨v,w,c,u,b,j,m,o,h⟩:=f;obtain rfl:=Option.some.inj (i.symm.trans j);obtain rfl:=Option.some.inj (l.symm.trans m);obtain⟨_,s,t,e,_⟩:=iface_of_trod k h;refine⟨s,t,o.trans (congrArg some ?_)⟩;cases c;simpa using e
structure Fr where
 fn:Int
 at_:Int
 locals:List Int
 stack:List Int
structure Fb where
 U:List Fr
 caller:Int
structure St where
 I:List Fb
 now:Int
 out:List Int
def Fr.zero:Fr:=⟨0,0,[],[]⟩
def Fb.zero:Fb:=⟨[],0⟩
def St.zero:St:=⟨[],0,[]⟩
structure dt where
 line:St→List Int
 kind:St→Nat→Int
 trim:List Fn
 Kg:Int→List Int×Int
 run:St→Int→St×Nat×Int
 JS:St
def aP(l:List Int):List (List UInt8):=l.map Lib.itoa
def br(e:Int):List (List UInt8):=[[101,114,114,111,114],Lib.itoa e]
def dC(p:List Fn):Int:=(p.map (fun a=>(a.code.length:Int))).sum
def kP(b:dt)(s:St)(a:List UInt8):(St×List (List UInt8))⊕Int:=if a=[111,117,116]then .inl (s,aP s.out)else if a=[108,105,110,101]then .inl (s,aP (b.line s))else if a=[107,105,110,100,115]then .inl (s,aP ((List.range s.I.length).map fun c=>b.kind s c))else if a=[116,114,105,109]then .inl (s,aP [dC b.trim])else if a=[97,103,97,105,110]then .inl (b.JS,[[111,107]])else .inr 1
def eV(b:dt)(s:St)(a:List UInt8)(n:Int):(St×List (List UInt8))⊕Int:=if a=[115,116,101,112]then(if(b.run s n).2.2=3 then .inr 3 else .inl ((b.run s n).1,aP [((b.run s n).2.1:Int)]++if(b.run s n).2.2=0 then[]else br (b.run s n).2.2))else if a=[104,101,105,103,104,116,115]then(if(b.Kg n).2=0 then .inl (s,aP (b.Kg n).1)else .inr (b.Kg n).2)else .inr 1
def dU(b:dt)(s:St)(e:List (List UInt8)):(St×List (List UInt8))⊕Int:=match e with
 |[a]=>kP b s a
 |[a,c]=>match cu c with
  |some d=>eV b s a d
  |none=>.inr 1
 |_=>.inr 1
def aQ(b:dt)(s:St)(e:List (List UInt8)):St×List (List UInt8):=match dU b s e with|.inl (d,a)=>(d,if a=[]then[[45]]else a)|.inr c=>(s,br c)
def aY(a:dt):St→List (List UInt8)→St×List UInt8
 |b,[]=>(b,[])
 |b,c::d=>((aY a (aQ a b (ao 32 c)).1 d).1,Lib.join (aQ a b (ao 32 c)).2 [32]++[10]++(aY a (aQ a b (ao 32 c)).1 d).2)
def cr(b:Nat)(w:World)(v:Value)(l:List (List UInt8)):Prop:=w.ownsRow b 9 1 v l.length (l.map aG)∧∃c a,v=.slice (some ⟨c,0,none⟩) l.length a
theorem cr.kept{b:Nat}{w w':World}{v:Value}{l:List (List UInt8)}(a:cr b w v l)(k:J w w'):cr b w' v l:=⟨ks a.1 k,a.2⟩
theorem cr.one(w:World)(x:List UInt8):cr w.heap.size (w.alloc (.cells #[.string ⟨x.toArray⟩] 9)) (.slice (some ⟨w.heap.size,0,none⟩) 1 1) [x]:=⟨⟨rfl,.inr ⟨w.heap.size,1,_,rfl,Nat.le_refl _,ah rfl,Nat.le_refl _,by unfold maxLen;omega,rfl,rfl⟩⟩,_,_,rfl⟩
theorem cr.low{a b:Nat}{w:World}{v:Value}{l:List (List UInt8)}(c:cr b w v l)(i:a≤b):cr a w v l:=by
 obtain⟨⟨h,h2⟩,h3⟩:=c;refine⟨⟨h,?_⟩,h3⟩;rcases h2 with c|⟨g,d,e,f,j,k⟩;·exact .inl c
 ·exact .inr ⟨g,d,e,f,Nat.le_trans i j,k⟩
theorem cr.cells{b:Nat}{w:World}{v:Value}{l:List (List UInt8)}(e:cr b w v l):∃a c,v=.slice (some ⟨a,0,none⟩) l.length c∧(0<l.length→a<w.heap.size∧l.length≤c)∧∀(j:Nat)g,l[j]?=some g→w.cell? ⟨a,j,none⟩=some (aG g):=by
 obtain⟨⟨r,h2⟩,a,c,rfl⟩:=e;refine⟨a,c,rfl,?_,?_⟩<;>rcases h2 with⟨e,q⟩|⟨p,n,o,d,s,h,i,t,u,k⟩;·cases e
 ·simp only[Value.slice.injEq,Option.some.injEq,Addr.mk.injEq,and_true,true_and]at d;obtain⟨rfl,rfl⟩:=d;exact fun _=>⟨(Array.getElem?_eq_some_iff.1 h).1,i⟩
 ·cases e
 ·simp only[Value.slice.injEq,Option.some.injEq,Addr.mk.injEq,and_true,true_and]at d;obtain⟨rfl,rfl⟩:=d;intro j g m;have f:(l.map aG)[j]?=some (aG g):=by rw[List.getElem?_map,m];rfl
  rw[←k,List.getElem?_take]at f;split at f;·rw[ab h];simpa using f
  ·cases f
theorem cr.app{b:Nat}{w:World}{v u:Value}{xs c:List (List UInt8)}(i:cr b w v xs)(z:cr b w u c)(j:b≤w.heap.size)(m:xs.length≤100000)(G:c.length≤100000):∃f e,(Builtin.append_ #[38,38] 38 #[v,u]).run prog w=.ok f e∧(0<xs.length+c.length→cr b e f (xs++c))∧Below b w e:=by
 obtain⟨D,s,A,B,C⟩:=info_parts mW;obtain⟨d,g,rfl,_,p⟩:=z.cells;obtain⟨f,e,x,t,r,_,_⟩:=run_append_own_at (P:=prog) (w:=w) b 38 38 9 D _ 1 16 underlying38 s A B C rfl (by decide) v xs.length (xs.map aG) i.1 ⟨d,0,none⟩ c.length g (c.map aG) (by simp) (fun h u k=>by
  have:((⟨d,0,none⟩:Addr).add h)=⟨d,h,none⟩:=by unfold Addr.add;split<;>simp_all
  rw[this];rw[List.getElem?_map,Option.map_eq_some_iff]at k;obtain⟨n,m,rfl⟩:=k;exact p h n m) (fun u y=>by obtain⟨n,_,rfl⟩:=List.mem_map.1 y;rfl) (by unfold maxLen;omega) (by omega) j;have l:e.ownsRow b 9 1 f (xs++c).length ((xs++c).map aG):=by simpa using t
 refine⟨f,e,x,fun F=>⟨l,?_⟩,Below.grown (a:=w) (w:=w) ⟨rfl,rfl,rfl,Nat.le_refl _,fun _ _=>rfl⟩ r j (fun d q=>(World.ownsRow.lt i.1 d q).1)⟩;obtain⟨_,⟨_,o⟩|⟨d,g,E,rfl,_⟩⟩:=l;·rw[List.length_append]at o;omega
 ·exact⟨d,g,rfl⟩
theorem lC(w:World)(d:Value)(l:List Int)(k:bC w d l)(q:l.length≤1000)(s:∀t∈l,aI t)(r:dv w):Calls prog 58 #[d] w fun h e=>∃a,h=.returned (.slice (some ⟨a,0,none⟩) l.length l.length)∧cr w.heap.size e (.slice (some ⟨a,0,none⟩) l.length l.length) (aP l)∧J w e:=by
 refine(vA w d l k q s r).mono ?_;rintro h e⟨a,n,⟨g,h2,i,m⟩,o,p⟩;have b:(aP l).length=l.length:=by simp[aP]
 refine⟨a,n,⟨⟨by simp,.inr ⟨a,l.length,g,by rw[b],o,h2,by rw[b];exact Nat.le_refl _,by unfold maxLen;omega,by simpa using i,?_⟩⟩,a,l.length,by rw[b]⟩,p⟩;have v:g.size=l.length:=by simpa using i
 apply List.ext_getElem?;intro c;rw[List.getElem?_take];by_cases u:c<l.length;·obtain⟨f,j⟩:∃f,(aP l)[c]?=some f:=⟨_,List.getElem?_eq_getElem (by omega)⟩;rw[if_pos (by omega),List.getElem?_map,j];have:=m c f j;simpa using this
 ·rw[if_neg (by omega),List.getElem?_eq_none (by simp;omega)]
def la(e:Int):Ending:=.panicked [{v:=.iface 22 (.int .i64 e),recovered:=false}]
theorem mM(w:World):Calls prog 37 #[.int .i64 0] w fun a b=>a=.returned (.tuple #[])∧b=w:=by go_enter func37,ntmps37;go_wp2_with fail;go_end0;exact⟨rfl,rfl⟩
theorem Ef(w:World)(z:Int)(a:z≠0):Calls prog 37 #[.int .i64 z] w fun b c=>b=la z∧c=w:=by
 have d:(z==0)=false:=by simpa using a
 have h2:(z !=0)=true:=by rw[bne_iff_ne];exact a
 go_enter func37,ntmps37;go_wp2_with fail;exact⟨rfl,rfl,rfl⟩
theorem tO(w:World)(z:Int)(q:aI z)(p:dv w):Calls prog 41 #[.int .i64 z] w fun v r=>∃e k,v=.returned (.slice (some ⟨e,0,none⟩) 2 k)∧cr w.heap.size r (.slice (some ⟨e,0,none⟩) 2 k) (br z)∧J w r:=by
 have i:=R (lC ((w.alloc (.cells #[.string ⟨#[101,114,114,111,114]⟩] 9)).alloc (.cells #[.int .i64 z] 3)) (.slice (some ⟨w.heap.size+1,0,none⟩) 1 1) [z] ⟨_,_,rfl,by simp,fun y s b=>by
  have x:y=0:=by have:=(List.getElem?_eq_some_iff.1 b).1;simpa using this
  subst x;obtain rfl:z=s:=by simpa using b
  refine⟨_,_,rfl,?_⟩;have h2:((w.alloc (.cells #[.string ⟨#[101,114,114,111,114]⟩] 9)).alloc (.cells #[.int .i64 z] 3)).heap[w.heap.size+1]?=some (.cells #[.int .i64 z] 3):=ah (by simp);rw[ab h2];rfl⟩ (by simp) (fun s b=>by obtain rfl:=List.mem_singleton.1 b;exact q) (p.kept (((J.refl w).alloc _).alloc _)));have h:=R (cr.one w [101,114,114,111,114]);have c:=R (((J.refl w).alloc (.cells #[.string ⟨#[101,114,114,111,114]⟩] 9)).alloc (.cells #[.int .i64 z] 3));have j:=R ((J.refl (w.alloc (.cells #[.string ⟨#[101,114,114,111,114]⟩] 9))).alloc (.cells #[.int .i64 z] 3));clear q p;go_enter func41,ntmps41;go_wp2_with fail;refine(U i).mono ?_;rintro _ E⟨e,rfl,n,g⟩;have f:=(U c).trans g;obtain⟨D,A,o,a,l⟩:=cr.app (((U h).kept (U j)).kept g) (n.low (U c).size) f.size (by simp) (by simp[aP]);have m:J w A:=Below.trans f l;have a:=a (by simp[aP]);obtain⟨_,C,B,rfl⟩:=id a;have d:=R o;have u:=R a;have t:=R m;clear o n a m l f g i h c j;simp only[List.length_cons,List.length_nil,Nat.zero_add]at d⊢;go_wp2_with(at_builtin;refine U ?_);refine R ?_;refine ir _ rfl _ _ 38 rfl rfl rfl (U d) ?_;clear d;go_wp2_with fail;go_ret;exact⟨_,_,rfl,U u,U t⟩
def fx(v:Value):Option (DataW Value×List MemPlace):=some (.held v,[])
abbrev bP(f:FuncId)(a:Nat):Value:=.func (Fn.func f) #[.pointer (some ⟨a,0,none⟩)] #[]
def dT(a:Nat):DataW Value:=(((((DataW.map []).put (.string [111,117,116]) (.held (bP 102 a))).put (.string [108,105,110,101]) (.held (bP 103 a))).put (.string [107,105,110,100,115]) (.held (bP 104 a))).put (.string [116,114,105,109]) (.held (bP 105 a))).put (.string [97,103,97,105,110]) (.held (bP 15 a))
def fB(a:Nat):DataW Value:=((DataW.map []).put (.string [115,116,101,112]) (.held (bP 107 a))).put (.string [104,101,105,103,104,116,115]) (.held (bP 108 a))
theorem uU:Keyed prog 9:=string_keyed underlying9
theorem DK(u:World):(Instr.makeMap 119 none).run prog u=.ok (.map (some u.heap.size)) (u.alloc (.map #[] 0)):=by simp[Instr.makeMap,Result.andThen]
theorem DR(u:World):(Instr.makeMap 125 none).run prog u=.ok (.map (some u.heap.size)) (u.alloc (.map #[] 0)):=by simp[Instr.makeMap,Result.andThen]
theorem kv{t e:TypeId}(i:prog.underlying t=some (.map 9 e)){b w:World}{n:Nat}{c:DataW Value}(g:w.ownsMap prog 9 fx b.heap.size n c)(f:J b w)(m:n≤10)(k:List UInt8)(l:k.length≤100)(v:Value):∃a,(Instr.mapUpdate t (.map (some b.heap.size)) (.string ⟨k.toArray⟩) v).run prog w=.ok () a∧a.ownsMap prog 9 fx b.heap.size (n+1) (c.put (.string k) (.held v))∧J b a:=by obtain⟨a,h,h2,h3⟩:=g.update (key:=.string ⟨k.toArray⟩) (val:=v) (kl:=.string k) (d:=.held v) (ps:=[]) uU i (by unfold maxLen;omega) (by have:=Go.WideMaps.keyOf_string_mk underlying9 (s:=⟨k.toArray⟩) (by simp[ByteArray.size,maxLen];omega);simpa using this) rfl;exact⟨a,h,h2,Below.grown f h3 f.size (fun j e=>by cases e;exact Nat.le_refl _)⟩
theorem kU(w:World)(a:Nat):Calls prog 70 #[.pointer (some ⟨a,0,none⟩)] w fun o m=>o=.returned (.map (some w.heap.size))∧m.ownsMap prog 9 fx w.heap.size 5 (dT a)∧J w m:=by have u:=DK w;have b:=underlying119;obtain⟨v,p,h,c⟩:=kv b (World.ownsMap_made w _ _ _) ((J.refl w).alloc _) (by omega) [111,117,116] (by decide) (bP 102 a);obtain⟨x,q,i,d⟩:=kv b h c (by omega) [108,105,110,101] (by decide) (bP 103 a);obtain⟨y,r,j,e⟩:=kv b i d (by omega) [107,105,110,100,115] (by decide) (bP 104 a);obtain⟨z,s,k,f⟩:=kv b j e (by omega) [116,114,105,109] (by decide) (bP 105 a);obtain⟨A,t,l,g⟩:=kv b k f (by omega) [97,103,97,105,110] (by decide) (bP 15 a);have n:=R (And.intro l g);clear h i j k l c d e f g b;dsimp only[bP]at p q r s t;go_enter func70,ntmps70;go_wp2_with fail;go_ret;exact⟨rfl,U n⟩
theorem nE(w:World)(a:Nat):Calls prog 72 #[.pointer (some ⟨a,0,none⟩)] w fun i g=>i=.returned (.map (some w.heap.size))∧g.ownsMap prog 9 fx w.heap.size 2 (fB a)∧J w g:=by have l:=DR w;have b:=underlying125;obtain⟨m,j,e,c⟩:=kv b (World.ownsMap_made w _ _ _) ((J.refl w).alloc _) (by omega) [115,116,101,112] (by decide) (bP 107 a);obtain⟨n,k,f,d⟩:=kv b e c (by omega) [104,101,105,103,104,116,115] (by decide) (bP 108 a);have h:=R (And.intro f d);clear e f c d b;dsimp only[bP]at j k;go_enter func72,ntmps72;go_wp2_with fail;go_ret;exact⟨rfl,U h⟩
theorem bN.wide{w:World}{v:Value}{l:List Int}(c:bN w v l):bC w v l:=by obtain⟨e,a,b,f,d⟩:=c;exact⟨e,a,b,by omega,d⟩
theorem bC.small{w:World}{v:Value}{l:List Int}(c:bC w v l)(e:l.length≤8796093022208):bN w v l:=by obtain⟨f,a,b,g,d⟩:=c;exact⟨f,a,b,e,d⟩
def fD(w:World)(v:Value)(l:List Fr):Prop:=∃f e,v=.slice f l.length e∧(l.length≤8796093022208∧l.length≤e)∧∀c b,l[c]?=some b→∃a d g h,f=some ⟨a,d,none⟩∧w.cell? ⟨a,d+c*4,none⟩=some (.int .i64 b.fn)∧w.cell? ⟨a,d+c*4+1,none⟩=some (.int .i64 b.at_)∧w.cell? ⟨a,d+c*4+2,none⟩=some g∧w.cell? ⟨a,d+c*4+3,none⟩=some h∧bC w g b.locals∧bC w h b.stack
def iw(w:World)(v:Value)(l:List Fb):Prop:=∃e g,v=.slice e l.length g∧l.length≤8796093022208∧∀c b,l[c]?=some b→∃a d f,e=some ⟨a,d,none⟩∧w.cell? ⟨a,d+c*2,none⟩=some f∧w.cell? ⟨a,d+c*2+1,none⟩=some (.int .i64 b.caller)∧fD w f b.U
def cy(w:World)(v:Value)(s:St):Prop:=∃a b,v=.agg #[a,.int .i64 s.now,b]∧iw w a s.I∧bC w b s.out
theorem fD.kept{w w':World}(a:J w w'){v:Value}{l:List Fr}(n:fD w v l):fD w' v l:=by obtain⟨r,c,d,o,m⟩:=n;refine⟨r,c,d,o,fun p f k=>?_⟩;obtain⟨b,q,s,t,e,g,h2,h3,h,i,j⟩:=m p f k;exact⟨b,q,s,t,e,a.cell g,a.cell h2,a.cell h3,a.cell h,i.kept a,j.kept a⟩
theorem iw.kept{w w':World}(a:J w w'){v:Value}{l:List Fb}(j:iw w v l):iw w' v l:=by obtain⟨o,c,d,k,i⟩:=j;refine⟨o,c,d,k,fun m f h=>?_⟩;obtain⟨b,n,p,e,g,h2,h3⟩:=i m f h;exact⟨b,n,p,e,a.cell g,a.cell h2,h3.kept a⟩
theorem cy.kept{w w':World}(a:J w w'){v:Value}{s:St}(d:cy w v s):cy w' v s:=by obtain⟨e,f,b,c,h2⟩:=d;exact⟨e,f,b,c.kept a,h2.kept a⟩
theorem fD.nil(w:World):fD w (.slice none 0 0) []:=⟨none,0,rfl,by simp,fun b c a=>by simp at a⟩
theorem iw.nil(w:World):iw w (.slice none 0 0) []:=⟨none,0,rfl,by simp,fun b c a=>by simp at a⟩
theorem yw{w u:World}(a:J w u)(c:Array Value)(t:TypeId):J w (u.alloc (.cells c t))∧(u.alloc (.cells c t)).heap[u.heap.size]?=some (.cells c t):=⟨a.alloc _,ah rfl⟩
