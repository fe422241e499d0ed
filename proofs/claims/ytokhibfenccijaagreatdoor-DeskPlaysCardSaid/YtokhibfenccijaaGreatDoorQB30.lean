import Derived.Test.YtokhibfenccijaaGreatDoorQB29
set_option maxRecDepth 100000
set_option maxHeartbeats 8000000
namespace Go.Proofs.YtokhibfenccijaaGreatDoor
open Go.Proofs.Tryz
open Go.RowKit
theorem CN:(prog.info? 69).map (fun a=>(a.zero,a.size,a.bytes))=some (some (.agg #[.int .i64 0,.int .i64 0,.slice none 0 0]),3,40):=by kernel_rfl
theorem DM(m:Nat)(g:m≤1000000)(u:World):(Instr.makeSlice 27 (.int .i64 m) (.int .i64 m)).run prog u=.ok (.slice (some ⟨u.heap.size,0,none⟩) m m) (u.alloc (.cells (madeCells #[.int .i64 0,.int .i64 0,.slice none 0 0] (m*3)) 69)):=by obtain⟨f,b,c,d,e⟩:=info_parts CN;have a:=run_make (P:=prog) u 27 69 f (.agg #[.int .i64 0,.int .i64 0,.slice none 0 0]) underlying27 b c .i64 .i64 (m:Int) (m:Int) (by omega) (by omega) (by rw[e];omega) (by omega);rw[Int.toNat_natCast]at a;simpa[d,Value.cells]using a
def gI(N:Nat)(w:World)(B n:Nat)(q:Nat→Fn)(k:Nat):Prop:=∃b:Array Value,w.heap[B]?=some (.cells b 69)∧b.size=n*3∧∀a,a<k→∃c,b[a*3]?=some (.int .i64 (q a).args)∧b[a*3+1]?=some (.int .i64 (q a).locals)∧b[a*3+2]?=some c∧dR N w c (q a).code
theorem gI.kept{N:Nat}{w w':World}{B n k:Nat}{q:Nat→Fn}(h:gI N w B n q k)(a:J w w'):gI N w' B n q k:=by obtain⟨e,i,h2,h3⟩:=h;refine⟨e,aw a i,h2,fun l j=>?_⟩;obtain⟨f,b,c,d,g⟩:=h3 l j;exact⟨f,b,c,d,g.kept a⟩
theorem gI.there{N:Nat}{w:World}{B n k:Nat}{q:Nat→Fn}(c:gI N w B n q k){j:Nat}(e:j<n*3):(∃d,w.cell? ⟨B,j,none⟩=some d)∧w.frozen? ⟨B,j,none⟩=false:=by obtain⟨b,a,h2,_⟩:=c;refine⟨⟨b[j]'(by omega),?_⟩,an a j⟩;rw[ab a];exact Array.getElem?_eq_getElem _
theorem gI.step{N:Nat}{w:World}{B n k:Nat}{q:Nat→Fn}(l:gI N w B n q k)(t:k<n)(b:B<N){a:Value}(o:dR N w a (q k).code):gI N (((w.setCell ⟨B,k*3,none⟩ (.int .i64 (q k).args)).setCell ⟨B,k*3+1,none⟩ (.int .i64 (q k).locals)).setCell ⟨B,k*3+2,none⟩ a) B n q (k+1):=by
 obtain⟨r,m,h2,h3⟩:=l;have c:aA B w (((w.setCell ⟨B,k*3,none⟩ (.int .i64 (q k).args)).setCell ⟨B,k*3+1,none⟩ (.int .i64 (q k).locals)).setCell ⟨B,k*3+2,none⟩ a):=(((aA.refl B w).setCell (p:=⟨B,k*3,none⟩) (.inl rfl) _).setCell (p:=⟨B,k*3+1,none⟩) (.inl rfl) _).setCell (p:=⟨B,k*3+2,none⟩) (.inl rfl) _;refine⟨_,ay (ay (ay m _ _) _ _) _ _,by simp[h2],fun d s=>?_⟩;by_cases j:d=k
 ·subst j;refine⟨a,?_,?_,?_,o.Ks b c⟩;·simp only[Array.getElem?_setIfInBounds,Array.size_setIfInBounds];rw[if_neg (by omega),if_neg (by omega),if_pos trivial,if_pos (by omega)]
  ·simp only[Array.getElem?_setIfInBounds,Array.size_setIfInBounds];rw[if_neg (by omega),if_pos trivial,if_pos (by omega)]
  ·simp only[Array.getElem?_setIfInBounds,Array.size_setIfInBounds];rw[if_pos trivial,if_pos (by omega)]
 ·obtain⟨h,e,f,g,i⟩:=h3 d (by omega);refine⟨h,?_,?_,?_,i.Ks b c⟩;·simp only[Array.getElem?_setIfInBounds,Array.size_setIfInBounds];rw[if_neg (by omega),if_neg (by omega),if_neg (by omega)];exact e
  ·simp only[Array.getElem?_setIfInBounds,Array.size_setIfInBounds];rw[if_neg (by omega),if_neg (by omega),if_neg (by omega)];exact f
  ·simp only[Array.getElem?_setIfInBounds,Array.size_setIfInBounds];rw[if_neg (by omega),if_neg (by omega),if_neg (by omega)];exact g
theorem gI.prog{N:Nat}{w:World}{B n:Nat}{p q:List Fn}{cap:Nat}(l:gI N w B n (dQ p) n)(o:n=p.length)(r:q=ej p)(t:n≤8796093022208):aK w (.slice (some ⟨B,0,none⟩) n cap) q:=by
 subst r;obtain⟨s,b,h2,h3⟩:=l;have d:(ej p).length=n:=by simp[ej,o]
 refine⟨_,cap,by rw[d],by omega,fun a j c=>?_⟩;have m:a<n:=by rw[←d];exact(List.getElem?_eq_some_iff.1 c).1
 obtain rfl:dQ p a=j:=by have:=pv (p:=p) (k:=a) (by omega);simp only[List.getD,c,Option.getD_some]at this;exact this.symm
 obtain⟨h,e,f,g,i⟩:=h3 a m;refine⟨B,0,h,rfl,?_,?_,?_,i.code⟩;·rw[ab b,Nat.zero_add];exact e
 ·rw[ab b,Nat.zero_add];exact f
 ·rw[ab b,Nat.zero_add];exact g
def eT(p:List Fn):List Fn:=if aL p=0 then ej p else[]
def mn(p:List Fn)(w:World)(e:Ending)(w':World):Prop:=∃a,e=.returned (.tuple #[a,.int .i64 (aL p)])∧aK w' a (eT p)∧J w w'
theorem IW{p:List Fn}(a:aL p=0){k:Nat}(b:k<p.length):je p k=(dQ p k,0):=by
 obtain⟨_,_,c⟩:=fO a;have d:(bH p k).2=0:=by rw[uB (c k b)];unfold eh;rw[mR a b]
 unfold je;rw[if_pos d,Int.toNat_natCast]
theorem Jf(p:List Fn)(v:Value)(w:World)(a:aK w v p)(f:bm w)(b:aL p≠0):Calls prog 141 #[v] w fun d j=>mn p w d j:=by
 obtain⟨m,k,rfl,_,_⟩:=id a;have l:(aL p !=0)=true:=by rw[bne_iff_ne];exact b
 have h:eT p=[]:=by unfold eT;rw[if_neg b]
 have e:=ko p _ w a f;have c:=R e;unfold mn;rw[h];generalize aL p=n at*;clear a f b e h;go_enter func141,ntmps141;go_wp2_with fail;refine(U c).mono ?_;rintro d o⟨rfl,g⟩;have i:=R g;clear g c;go_wp2;go_ret2;exact⟨.slice none 0 0,rfl,Em _,U i⟩
theorem Jg(p:List Fn)(r:Option Addr)(n cap:Nat)(w:World)(C:n=p.length)(o:aK w (.slice r n cap) p)(f:bm w)(c:aL p=0):Calls prog 141 #[.slice r n cap] w fun i S=>mn p w i S:=by
 obtain⟨a2,P,_⟩:=fO c;have D:eT p=ej p:=by unfold eT;rw[if_pos c]
 have E:∀a:Nat,a<n→je p a=(dQ p a,0):=fun a f=>IW c (by omega);have y:=Gj p _ 0 w o f c;have a1:=DM n (by omega);unfold mn;rw[D,c];have a3:n≤5:=by omega
 have t:=R y;have M:=R o;have I:=R f;have L:=R C;have N:=R E;clear o f c y C D E P;go_enter func141,ntmps141;go_wp2_with fail;refine(U t).mono ?_;rintro i b⟨rfl,z⟩;have e:=R z;have F:Hid (gI (b.heap.size+1) (b.alloc (.cells (madeCells #[.int .i64 0,.int .i64 0,.slice none 0 0] (n*3)) 69)) b.heap.size n (dQ p) 0):=⟨_,ah rfl,size_madeCells _ _,fun q Z=>by omega⟩;clear z t;go_wp2;go_loopw[17](fun s wr=>∃a:Nat,a≤n∧s=.int .i64 a∧Hid (gI (b.heap.size+1) wr b.heap.size n (dQ p) a)∧Hid (aA b.heap.size b wr)∧b.heap.size+1≤wr.heap.size)(fun s _=>n-(intOf s).toNat);case atStart=>exact⟨0,Nat.zero_le _,rfl,F,aA.of ((J.refl _).alloc _),by simp⟩
 case round=>
  obtain⟨a,a0,rfl,u,h,Q⟩:=hrel;by_cases B:a<n
  ·have m:J w wr:=aA.kept (U e) (U e).size (U h);have l:=Jh p (.slice r n cap) a wr ((U M).kept m) ((U I).kept m);rw[(U N) a B]at l;have v:=R l;clear l m;go_wp2_with fail;refine(U v).mono ?_;rintro i a6⟨V,rfl,j,g⟩;have d:=(U u).kept g;obtain⟨⟨u0,W⟩,a7⟩:=d.there (j:=a*3) (by omega);obtain⟨⟨u1,X⟩,a8⟩:=d.there (j:=a*3+1) (by omega);obtain⟨⟨u2,Y⟩,a9⟩:=d.there (j:=a*3+2) (by omega);have x:=d.step B (Nat.lt_succ_self _) (j.mono Q);obtain⟨a5,T,O,_,_⟩:=id j;subst O;have G:=R x;have a4:=g.size;have K:=R ((U h).trans (.of g));clear v d x j g;go_wp2;go_roundw;case rel=>exact⟨a+1,by omega,by go_num,G,(((U K).setCell (p:=⟨b.heap.size,a*3,none⟩) (.inl rfl) _).setCell (p:=⟨b.heap.size,a*3+1,none⟩) (.inl rfl) _).setCell (p:=⟨b.heap.size,a*3+2,none⟩) (.inl rfl) _,by simp[World.setCell];omega⟩
   case measure=>simp[intOf];omega
  ·have A:a=n:=by omega
   have k:=U u;rw[A]at k;have H:=R k;clear A k;go_wp2;go_ret2;exact⟨_,rfl,(U H).prog (U L) rfl (by omega),aA.kept (U e) (U e).size (U h)⟩
theorem Je(p:List Fn)(v:Value)(w:World)(a:aK w v p)(b:bm w):Calls prog 141 #[v] w fun e g=>mn p w e g:=by
 by_cases c:aL p=0;·obtain⟨f,d,rfl,_,_⟩:=id a;exact Jg p f _ d w rfl a b c
 ·exact Jf p v w a b c
theorem yp(p:List Fn):aS p=⟨[⟨[dM p 0 []],-1⟩],0,[]⟩:=by simp[aS,dM]
theorem pT{p:List Fn}(a:aL p=0):ba p (aS p)=0:=by
 obtain⟨_,d,_⟩:=fO a;have h:0≤(p.getD 0 Fn.zero).locals:=by have:=oM a d;omega
 obtain⟨e,g⟩:=qv a (f:=0) (by omega) (by omega) (vals:=[]) (by simpa using h);refine uz (l:=[0]) ⟨a,by simp[aS],by simp[aS],fun c b=>?_,?_,by simp,.inr rfl,by simp[aS],fun i=>absurd (by simp) i,fun c b=>?_⟩
 ·obtain rfl:c=0:=by simp[aS]at b;omega
  simp[aa,aS]
 ·simp[Path,aS,bw]
 ·obtain rfl:c=0:=by simp[aS]at b;omega
  rw[yp];simp[aa,eA,iD,e,g];rfl
theorem sV{w:World}{b1 a b lo:Nat}(e:w.heap[b1]?=some (.cells (ints (List.replicate lo 0)).toArray 3))(h2:w.heap[a]?=some (.cells #[.int .i64 0,.int .i64 0,.slice (some ⟨b1,0,none⟩) lo lo,.slice none 0 0] 92))(h3:w.heap[b]?=some (.cells #[.slice (some ⟨a,0,none⟩) 1 1,.int .i64 (-1)] 95))(m:lo≤1000):cy w (.agg #[.slice (some ⟨b,0,none⟩) 1 1,.int .i64 0,.slice none 0 0]) ⟨[⟨[⟨0,0,List.replicate lo 0,[]⟩],-1⟩],0,[]⟩:=by
 refine⟨_,_,rfl,⟨some ⟨b,0,none⟩,1,rfl,by simp,fun i k c=>?_⟩,bC.nil _⟩;have f:i=0:=by have:=(List.getElem?_eq_some_iff.1 c).1;simpa using this
 subst f;simp at c;subst c;refine⟨b,0,_,rfl,aE h3 rfl,aE h3 rfl,some ⟨a,0,none⟩,1,rfl,⟨by simp,by simp⟩,fun j l d=>?_⟩;have g:j=0:=by have:=(List.getElem?_eq_some_iff.1 d).1;simpa using this
 subst g;simp at d;subst d;refine⟨a,0,_,_,rfl,aE h2 rfl,aE h2 rfl,aE h2 rfl,aE h2 rfl,⟨some ⟨b1,0,none⟩,lo,by simp,by simp;omega,fun n o h=>⟨b1,0,rfl,?_⟩⟩,bC.nil _⟩;rw[Nat.zero_add];exact aE e (by rw[List.getElem?_toArray];exact mH h)
def xE(lo:Nat)(w:World)(e:Ending)(w':World):Prop:=∃b1 a b,e=.returned (.tuple #[.agg #[.slice (some ⟨b,0,none⟩) 1 1,.int .i64 0,.slice none 0 0],.int .i64 0])∧w.heap.size≤b1∧w.heap.size≤a∧w.heap.size≤b∧w'.heap[b1]?=some (.cells (ints (List.replicate lo 0)).toArray 3)∧w'.heap[a]?=some (.cells #[.int .i64 0,.int .i64 0,.slice (some ⟨b1,0,none⟩) lo lo,.slice none 0 0] 92)∧w'.heap[b]?=some (.cells #[.slice (some ⟨a,0,none⟩) 1 1,.int .i64 (-1)] 95)∧J w w'
theorem yq(p:List Fn)(b o n t lo:Nat)(w:World)(K:aK w (.slice (some ⟨b,o,none⟩) n t) p)(I:bm w)(M:aL p=0)(l:w.cell? ⟨b,o+1,none⟩=some (.int .i64 lo))(b9:0<n)(b7:lo≤1000):Calls prog 29 #[.slice (some ⟨b,o,none⟩) n t] w (xE lo w):=by
 have H:∀k,J w k→Calls prog 25 #[.slice (some ⟨b,o,none⟩) n t] k fun G b2=>G=.returned (.int .i64 0)∧J k b2:=fun k L=>by have:=ko p _ k (K.kept L) (I.kept L);rwa[M]at this
 have O:=R H;have b8:=jB lo (by omega);have c0:(0:Int)<(n:Int):=by omega
 have P:=R l;have b1:=bJ l;simp only at b1;clear H K I M l;go_enter func29,ntmps29;go_wp2_with fail;refine((U O) _ ((J.refl w).alloc _)).mono ?_;rintro G h⟨rfl,q⟩;have j:h.heap[w.heap.size]?=some (.cells #[.slice none 0 0,.int .i64 0,.slice none 0 0] 44):=aw q (ah rfl);have l:h.cell? ⟨b,o+1,none⟩=some (.int .i64 lo):=(((J.refl w).alloc _).trans q).cell (U P);have a0:h.cell? ⟨w.heap.size,0,none⟩=some (.slice none 0 0):=aE j rfl;have a1:h.cell? ⟨w.heap.size,1,none⟩=some (.int .i64 0):=aE j rfl;have a2:h.cell? ⟨w.heap.size,2,none⟩=some (.slice none 0 0):=aE j rfl;have b3:=an j 0;have b4:=an j 1;have b5:=an j 2;have T:=R j;have Q:=R (((J.refl w).alloc _).trans q);have b0:w.heap.size<h.heap.size:=(Array.getElem?_eq_some_iff.1 j).1;have c1:b<h.heap.size:=by omega
 have Y:∀d e f g,((((h.alloc d).alloc e).alloc f).alloc g).cell? ⟨w.heap.size,0,none⟩=some (.slice none 0 0):=fun d e f g=>aE (au (au (au (au j d) e) f) g) rfl;have a5:∀d e f g,((((h.alloc d).alloc e).alloc f).alloc g).frozen? ⟨w.heap.size,0,none⟩=false:=fun d e f g=>an (au (au (au (au j d) e) f) g) 0;have Z:∀d e f g,((((h.alloc d).alloc e).alloc f).alloc g).cell? ⟨w.heap.size,1,none⟩=some (.int .i64 0):=fun d e f g=>aE (au (au (au (au j d) e) f) g) rfl;have a6:∀d e f g,((((h.alloc d).alloc e).alloc f).alloc g).frozen? ⟨w.heap.size,1,none⟩=false:=fun d e f g=>an (au (au (au (au j d) e) f) g) 1;have a3:∀d e f g,((((h.alloc d).alloc e).alloc f).alloc g).cell? ⟨w.heap.size,2,none⟩=some (.slice none 0 0):=fun d e f g=>aE (au (au (au (au j d) e) f) g) rfl;have h2:∀d e f g,((((h.alloc d).alloc e).alloc f).alloc g).frozen? ⟨w.heap.size,2,none⟩=false:=fun d e f g=>an (au (au (au (au j d) e) f) g) 2;clear j q;go_wp2;have a7:Array.replicate lo (Value.int .i64 0)=(ints (List.replicate lo 0)).toArray:=by simp[ints]
 rw[a7];generalize u:h.heap.size=c at*;generalize b6:w.heap.size=i at*;have C:((((h.alloc (.cells (ints (List.replicate lo 0)).toArray 3)).alloc (.cells #[.int .i64 0,.int .i64 0,.slice (some ⟨c,0,none⟩) lo lo,.slice none 0 0] 92)).alloc (.cells #[.int .i64 0,.int .i64 0,.slice (some ⟨c,0,none⟩) lo lo,.slice none 0 0] 92)).alloc (.cells #[.slice (some ⟨c+1+1,0,none⟩) 1 1,.int .i64 (-1)] 95)).heap[c]?=some (.cells (ints (List.replicate lo 0)).toArray 3):=au (au (au (ah u) _) _) _;have D:((((h.alloc (.cells (ints (List.replicate lo 0)).toArray 3)).alloc (.cells #[.int .i64 0,.int .i64 0,.slice (some ⟨c,0,none⟩) lo lo,.slice none 0 0] 92)).alloc (.cells #[.int .i64 0,.int .i64 0,.slice (some ⟨c,0,none⟩) lo lo,.slice none 0 0] 92)).alloc (.cells #[.slice (some ⟨c+1+1,0,none⟩) 1 1,.int .i64 (-1)] 95)).heap[c+1+1]?=some (.cells #[.int .i64 0,.int .i64 0,.slice (some ⟨c,0,none⟩) lo lo,.slice none 0 0] 92):=au (ah (by simp[u])) _;have E:((((h.alloc (.cells (ints (List.replicate lo 0)).toArray 3)).alloc (.cells #[.int .i64 0,.int .i64 0,.slice (some ⟨c,0,none⟩) lo lo,.slice none 0 0] 92)).alloc (.cells #[.int .i64 0,.int .i64 0,.slice (some ⟨c,0,none⟩) lo lo,.slice none 0 0] 92)).alloc (.cells #[.slice (some ⟨c+1+1,0,none⟩) 1 1,.int .i64 (-1)] 95)).heap[c+1+1+1]?=some (.cells #[.slice (some ⟨c+1+1,0,none⟩) 1 1,.int .i64 (-1)] 95):=ah (by simp[u]);have B:=au (au (au (au (U T) (.cells (ints (List.replicate lo 0)).toArray 3)) (.cells #[.int .i64 0,.int .i64 0,.slice (some ⟨c,0,none⟩) lo lo,.slice none 0 0] 92)) (.cells #[.int .i64 0,.int .i64 0,.slice (some ⟨c,0,none⟩) lo lo,.slice none 0 0] 92)) (.cells #[.slice (some ⟨c+1+1,0,none⟩) 1 1,.int .i64 (-1)] 95);have F:=((((U Q).alloc (.cells (ints (List.replicate lo 0)).toArray 3)).alloc (.cells #[.int .i64 0,.int .i64 0,.slice (some ⟨c,0,none⟩) lo lo,.slice none 0 0] 92)).alloc (.cells #[.int .i64 0,.int .i64 0,.slice (some ⟨c,0,none⟩) lo lo,.slice none 0 0] 92)).alloc (.cells #[.slice (some ⟨c+1+1,0,none⟩) 1 1,.int .i64 (-1)] 95);clear Y Z a3 a5 a6 h2;generalize(((h.alloc (.cells (ints (List.replicate lo 0)).toArray 3)).alloc (.cells #[.int .i64 0,.int .i64 0,.slice (some ⟨c,0,none⟩) lo lo,.slice none 0 0] 92)).alloc (.cells #[.int .i64 0,.int .i64 0,.slice (some ⟨c,0,none⟩) lo lo,.slice none 0 0] 92)).alloc (.cells #[.slice (some ⟨c+1+1,0,none⟩) 1 1,.int .i64 (-1)] 95)=A at*;have m:∀{s:Nat}{N:Obj},i<s→A.heap[s]?=some N→(((A.setCell ⟨i,0,none⟩ (.slice (some ⟨c+1+1+1,0,none⟩) 1 1)).setCell ⟨i,1,none⟩ (.int .i64 0)).setCell ⟨i,2,none⟩ (.slice none 0 0)).heap[s]?=some N:=fun y a4=>bD (bD (bD a4 (a:=⟨i,0,none⟩) (Nat.ne_of_gt y) _) (a:=⟨i,1,none⟩) (Nat.ne_of_gt y) _) (a:=⟨i,2,none⟩) (Nat.ne_of_gt y) _;have V:=m b0 C;have W:=m (by omega) D;have X:=m (by omega) E;have r:=ay (ay (ay B 0 (.slice (some ⟨c+1+1+1,0,none⟩) 1 1)) 1 (.int .i64 0)) 2 (.slice none 0 0);have x:w.heap.size≤i:=by omega
 have S:=R (((F.setCell (p:=⟨i,0,none⟩) x (.slice (some ⟨c+1+1+1,0,none⟩) 1 1)).setCell (p:=⟨i,1,none⟩) x (.int .i64 0)).setCell (p:=⟨i,2,none⟩) x (.slice none 0 0));clear m B C D E F;generalize((A.setCell ⟨i,0,none⟩ (.slice (some ⟨c+1+1+1,0,none⟩) 1 1)).setCell ⟨i,1,none⟩ (.int .i64 0)).setCell ⟨i,2,none⟩ (.slice none 0 0)=z at*;have k0:z.cell? ⟨i,0,none⟩=some (.slice (some ⟨c+1+1+1,0,none⟩) 1 1):=aE r (by simp);have a8:z.cell? ⟨i,1,none⟩=some (.int .i64 0):=aE r (by simp);have a9:z.cell? ⟨i,2,none⟩=some (.slice none 0 0):=aE r (by simp);refine bodyPost_ret (v:=.tuple #[.agg #[.slice (some ⟨c+1+1+1,0,none⟩) 1 1,.int .i64 0,.slice none 0 0],.int .i64 0]) (by simp[results,results29,go_sem,k0,a8,a9]) rfl ?_;exact⟨_,_,_,rfl,by omega,by omega,by omega,V,W,X,U S⟩
open Go.RowKit Go.Maps
def opsOf(p:List Fn):dt:=⟨dx p,eP p,eT p,bH p,be p,aS p⟩
def fG(p:List Fn)(s:St):Prop:=ba p s=0∧aV s
theorem Piece.cells{base:Nat}{w:World}{V:Key→Value}{s:St}{k:Key}(b:Piece base w V s k):∀a,(V k).ownBlock=some a→base≤a∧∃g d,¬ed d∧w.heap[a]?=some (.cells g d):=by
 have c:∀{e:TypeId}{n:Nat}{i:Value}{m:Nat}{f:List Value},¬ed e→w.ownsRow base e n i m f→∀a,i.ownBlock=some a→base≤a∧∃g d,¬ed d∧w.heap[a]?=some (.cells g d):=fun{e n i m f}r u a j=>by
  rcases u.2 with⟨rfl,_⟩|⟨p,x,o,rfl,q,t,_⟩;·cases j
  ·obtain rfl:p=a:=by simpa[Value.ownBlock]using j
   exact⟨q,o,e,r,t⟩
 cases k using Key.by with
 |fibers=>obtain⟨f,h,h2⟩:=b;exact c (by unfold ed;decide) h
 |out=>exact c (by unfold ed;decide) b
 |frames l=>obtain⟨f,h,h2⟩:=b;exact c (by unfold ed;decide) h
 |locals l v=>exact c (by unfold ed;decide) b
 |stack l v=>exact c (by unfold ed;decide) b
theorem Own.new{N:Nat}{w:World}{V:Key→Value}{s:St}(b:Own N w V s)(h:Small s):eX N w (.agg #[V .I,.int .i64 s.now,V .out]) s:=fun k f=>by refine(b.same fun i a g e=>?_).reads h;obtain⟨d,c,j,h2,h3⟩:=(b.piece i g).cells a e;rw[h3];exact f a c j d h2 h3
theorem sW(p:List Fn)(g:Value)(w:World)(e:aK w g p)(q:bm w)(f:aL p=0):Calls prog 29 #[g] w (hU (aS p) [.int .i64 0] w):=by
 obtain⟨_,b,n⟩:=fO f;obtain⟨E,k,rfl,_,m⟩:=id e;obtain⟨h,A,B,rfl,_,d,_,_⟩:=m 0 _ (aD p 0 Fn.zero b);have u:0≤(p.getD 0 Fn.zero).locals∧(p.getD 0 Fn.zero).locals≤4:=by
  obtain⟨v,D,_,_,t,_⟩:=gN (n 0 b);obtain rfl:v=0:=by omega
  have:=fg.1 t;omega
 obtain⟨c,s⟩:∃c:Nat,(p.getD 0 Fn.zero).locals=c:=⟨(p.getD 0 Fn.zero).locals.toNat,by omega⟩;unfold aS;rw[s]at d u⊢;rw[Int.toNat_natCast];refine(yq p h A _ k c w e q f (by simpa using d) b (by omega)).mono ?_;rintro C F⟨b1,i,j,o,x,y,z,l,h2,h3,r⟩;refine⟨_,_,_,_,_,_,_,o,fun G a=>?_,r⟩;exact sV (a b1 _ _ x (by unfold ed;decide) l) (a i _ _ y (by unfold ed;decide) h2) (a j _ _ z (by unfold ed;decide) h3) (by omega)
theorem vP{w w':World}{e:Ending}{a:St×Nat×Int}(l:Small a.1)(c:∃b,e=.returned (.tuple #[.agg #[b .I,.int .i64 a.1.now,b .out],.int .i64 a.2.1,.int .i64 a.2.2])∧Own w.heap.size w' b a.1∧J w w'):hU a.1 [.int .i64 (a.2.1:Int),.int .i64 a.2.2] w e w':=by obtain⟨b,rfl,k,j⟩:=c;have d:=k.new l;obtain⟨q,r,e,h,i⟩:=d w' (fun _ _ _ _ _ c=>c);simp only[Value.agg.injEq,Array.mk.injEq,List.cons.injEq,and_true,true_and]at e;obtain⟨o,m,f,_⟩:=h;obtain⟨p,n,g,_⟩:=i;rw[←e.1]at f;rw[←e.2]at g;rw[f,g]at d⊢;exact⟨_,_,_,_,_,_,_,rfl,d,j⟩
theorem Hg(p:List Fn)(s:St)(a b:Value)(n:Int)(w:World)(f:aK w a p)(g:cy w b s)(e:bm w)(c:fG p s):Calls prog 30 #[a,b,.int .i64 n] w (hU (be p s n).1 [.int .i64 ((be p s n).2.1:Int),.int .i64 (be p s n).2.2] w):=by
 have h:Small (be p s n).1:=by
  unfold be;split;·rw[if_pos c.1];exact jH (oU _ c.1)
  ·exact xD
 exact(Hc p s a b n w f g e).mono fun _ _ d=>vP h d
theorem xi{l:List Int}(a:jn l):(aP l).length≤1000∧(Lib.join (aP l) [32]).length≤21000:=by
 have f:(aP l).length=l.length:=by simp[aP]
 have:=kZ (aP l) 20 (fun g b=>by obtain⟨d,c,rfl⟩:=List.mem_map.1 b;exact gP (a.2 d c));have e:=a.1;have h2:(aP l).length*21≤1000*21:=Nat.mul_le_mul_right _ (by omega);omega
theorem oI{p:List Fn}{s:St}(b:ba p s=0):s.I.length≤5∧s.out.length≤30:=by
 obtain⟨_,a,_⟩:=im b;unfold dX at a;split at a;·assumption
 ·cases a
theorem Du:∀(N:Nat)(l:List Int),l.Nodup→(∀b∈l,0≤b∧b<N)→l.length≤N:=fun N l e d=>by
 have f:=yt (l:=l) (N:=N) (fun b c=>(d b c).2);have h2:∀a:Nat,below l a≤a:=fun a=>by
  induction a with
  |zero=>rw[yu (fun b c=>(d b c).1)];exact Nat.le_refl _
  |succ a g=>rw[sZ l e a];split<;>omega
 have:=h2 N;omega
theorem rf{p:List Fn}{s:St}(b:ba p s=0):jn (dx p s):=by
 have a:=Dv b;have e:=(oI b).1;refine⟨?_,fun d c=>?_⟩;·have:=Du _ _ a.nodup a.inside;omega
 ·have:=a.inside d c;unfold aI;omega
theorem qW(p:List Fn)(s:St)(k:Nat):aI (eP p s k):=by
 unfold eP aI;split;·omega
 split;·omega
 split;·omega
 split<;>omega
theorem vK(p:List Fn)(f:Fn):∀a,0≤dY p f a∧dY p f a≤9
 |[]=>by simp[dY]
 |b::e=>by
  have d:=vK p f e;have c:0≤bu p f b∧bu p f b≤9:=by
   unfold bu;split
   ·split;·split<;>omega
    ·omega
   ·omega
  unfold dY;split;·exact d
  ·exact c
theorem zg(p:List Fn)(f:Int):0≤bo p f∧bo p f≤9:=by
 have:=vK p (p.getD f.toNat Fn.zero) (p.getD f.toNat Fn.zero).code;unfold bo;split
 ·simp only;split;·omega
  ·split;·exact this
   ·omega
 ·omega
theorem qH{p:List Fn}(a:aL p=0)(f:Int):jn (bH p f).1∧aI (bH p f).2:=by
 unfold bH;split
 ·rename_i k;obtain⟨d,rfl,h,n,_⟩:=gN k;rw[Int.toNat_natCast];cases l:bG p (p.getD d Fn.zero).code with
  |none=>exact⟨⟨by simp,fun e a=>by cases a⟩,by unfold aI;simp⟩
  |some b=>
   have g:bd p d=b:=by unfold bd codeOf;rw[l];rfl
   have m:b.length=(codeOf p d).length:=by rw[←g];exact(kT a h).1.len
   refine⟨⟨?_,fun e c=>?_⟩,by unfold aI;simp⟩;·simp only;rw[m];unfold codeOf;omega
   ·replace c:e∈b:=c;obtain⟨i,j,rfl⟩:=List.getElem_of_mem c;have:=qG a h i;rw[g]at this;simp[List.getD,j]at this;unfold aI;omega
 ·refine⟨⟨by simp,fun e a=>by cases a⟩,?_⟩;have:=zg p f;unfold aI;simp only;omega
theorem sh{p:List Fn}(c:aL p=0):(eT p).length≤100∧∀a∈eT p,a.code.length≤1000:=by have b:=kq (Jn c).1;unfold eT;rw[if_pos c];exact⟨by have:=b.len;omega,fun a d=>by have:=(b.fn a d).2.2.1;omega⟩
theorem xm{p:List Fn}(b:aL p=0):aI (dC (eT p)):=by obtain⟨a,h2⟩:=sh b;have:=rv (eT p) 1000 h2;have h3:(eT p).length*1000≤100*1000:=Nat.mul_le_mul_right _ a;unfold aI;omega
theorem rK{p:List Fn}{s:St}(b:ba p s=0)(n:Int):(dF (be p s n).2.2∨(be p s n).2.2=3)∧(be p s n).2.1≤500:=by
 unfold be;by_cases a:ax n 0 500=true
 ·rw[if_pos a,if_pos b];obtain⟨c,h2⟩:=rQ p n.toNat s;have:n≤500:=by have:=a;unfold ax at this;simp at this;omega
  exact⟨.inl c,by omega⟩
 ·rw[if_neg a];exact⟨.inr rfl,Nat.zero_le _⟩
theorem GU{p:List Fn}(d:aL p=0){s:St}(a:fG p s)(n:Int)(b:(be p s n).2.2≠3):fG p (be p s n).1:=by
 unfold be at b⊢;by_cases c:ax n 0 500=true;·rw[if_pos c,if_pos a.1];exact⟨oU _ a.1,a.2.run (kq d) _⟩
 ·rw[if_neg c]at b;exact absurd rfl b
theorem tP(e:Int)(b:aI e):(br e).length≤3∧(Lib.join (br e) [32]).length≤100:=by
 have:=kZ (br e) 20 (fun d a=>by
  unfold br at a;simp only[List.mem_cons,List.not_mem_nil,or_false]at a;rcases a with rfl|rfl;·simp
  ·exact gP b);have c:(br e).length=2:=rfl;rw[c]at this;omega
theorem qi{p:List Fn}(f:aL p=0){s:St}(c:fG p s)(u:List (List UInt8)):match dU (opsOf p) s u with|.inl g=>fG p g.1∧g.2.length≤1000∧(Lib.join g.2 [32]).length≤90000|.inr h=>aI h:=by
 have k:aI 1:=by unfold aI;omega
 have h3:aI 3:=by unfold aI;omega
 have l:∀m,jn m→(aP m).length≤1000∧(Lib.join (aP m) [32]).length≤90000:=fun m t=>by have:=xi t;omega
 have t:=oI c.1;match u with
  |[]=>exact k
  |[b]=>
   show match kP (opsOf p) s b with|.inl g=>_|.inr h=>_;unfold kP;by_cases i:b=[111,117,116];·rw[if_pos i];exact⟨c,l _ ⟨by omega,c.2.out⟩⟩
   rw[if_neg i];by_cases j:b=[108,105,110,101];·rw[if_pos j];exact⟨c,l _ (rf c.1)⟩
   rw[if_neg j];by_cases d:b=[107,105,110,100,115];·rw[if_pos d];exact⟨c,l _ ⟨by simp;omega,fun h f=>by obtain⟨z,_,rfl⟩:=List.mem_map.1 f;exact qW p s z⟩⟩
   rw[if_neg d];by_cases o:b=[116,114,105,109];·rw[if_pos o];exact⟨c,l _ ⟨by simp,fun h y=>by obtain rfl:=List.mem_singleton.1 y;exact xm f⟩⟩
   rw[if_neg o];by_cases q:b=[97,103,97,105,110];·rw[if_pos q];exact⟨⟨pT f,aV.begin p⟩,by simp,by simp[Lib.join_one]⟩
   rw[if_neg q];exact k
  |[b,n]=>
   show match(match cu n with|some a=>eV (opsOf p) s b a|none=>.inr 1)with|.inl g=>_|.inr h=>_;cases cu n with
   |none=>exact k
   |some a=>
    show match eV (opsOf p) s b a with|.inl g=>_|.inr h=>_;unfold eV;by_cases i:b=[115,116,101,112]
    ·rw[if_pos i];obtain⟨x,D⟩:=rK c.1 a;by_cases d:((opsOf p).run s a).2.2=3;·rw[if_pos d];exact h3
     ·rw[if_neg d];have w:aI (be p s a).2.2:=by unfold dF at x;unfold aI;omega
      refine⟨GU f c a d,?_⟩;have C:=kZ (aP [((be p s a).2.1:Int)]++if(be p s a).2.2=0 then[]else br (be p s a).2.2) 20 (fun g e=>by
       rcases List.mem_append.1 e with e|e;·obtain⟨h,f,rfl⟩:=List.mem_map.1 e;obtain rfl:=List.mem_singleton.1 f;exact gP (by unfold aI;omega)
       ·split at e;·cases e
        ·unfold br at e;simp only[List.mem_cons,List.not_mem_nil,or_false]at e;rcases e with rfl|rfl;·simp
         ·exact gP w);have v:(aP [((be p s a).2.1:Int)]++if(be p s a).2.2=0 then[]else br (be p s a).2.2).length≤3:=by split<;>simp[aP,br]
      have B:(aP [((be p s a).2.1:Int)]++if(be p s a).2.2=0 then[]else br (be p s a).2.2).length*21≤3*21:=Nat.mul_le_mul_right _ v;exact⟨by show(aP [((be p s a).2.1:Int)]++if(be p s a).2.2=0 then[]else br (be p s a).2.2).length≤1000;omega,by show(Lib.join (aP [((be p s a).2.1:Int)]++if(be p s a).2.2=0 then[]else br (be p s a).2.2) [32]).length≤90000;omega⟩
    rw[if_neg i];by_cases j:b=[104,101,105,103,104,116,115]
    ·rw[if_pos j];have r:=qH f a;by_cases d:((opsOf p).Kg a).2=0;·rw[if_pos d];exact⟨c,l _ r.1⟩
     ·rw[if_neg d];exact r.2
    rw[if_neg j];exact k
  |b::n::A::E=>exact k
theorem nP{w:World}{v:Value}{l:List Int}(e:bN w v l):∃b d a,v=.slice b d a∧bC w (.slice b d a) l:=by have c:=e.wide;obtain⟨b,a,rfl,_⟩:=id c;exact⟨b,_,a,rfl,c⟩
theorem vV(w:World)(p:List Fn)(l:aL p=0)(E:eL w)(L:bm w):sG w p (opsOf p) (fG p):=by
 refine⟨fun C m g d r P n k h=>?_,fun C g r n=>sW p g C n (L.kept r) l,⟨pT l,aV.begin p⟩,fun d t h=>?_,fun d t I h v=>?_,fun d t h=>?_⟩
 ·have A:∀c,J C c→dv c:=fun c a=>E.Kc.kept (r.trans a);have u:∀c,J C c→bm c:=fun c a=>L.kept (r.trans a);have K:∀c i,J C c→cy c i d→Hid (∀b,aK b g p→cy b i d→bm b→Calls prog 59 #[g,i] b fun y D=>y=.returned (.int .i64 (ba p d))∧J b D):=fun c i _ _=>R fun b F h2 h3=>rY p d g i b F h2 h3;have Z:=oI h.1;refine⟨fun c a=>?_,fun c a=>?_,fun c a=>?_,fun c a=>?_,fun c a=>?_,fun c e a=>?_,fun c e a=>?_,k,E.Kc.kept r,E.Kp.kept r⟩;·exact zR c m g d (k.kept a) ⟨by omega,h.2.out⟩ (A c a)
  ·refine zQ c m g d (dx p d) (k.kept a) (rf h.1) (A c a) (R fun b i f q=>?_);refine(tf p d g i b (n.kept (a.trans f)) q (u b (a.trans f)) (K b i (a.trans f) q)).mono ?_;rintro y D⟨M,rfl,h2,h3⟩;obtain⟨B,e,x,rfl,z⟩:=nP h2;exact⟨B,e,x,by rw[h.1],z,h3⟩
  ·refine zP c m g d (fun s=>eP p d s) (k.kept a) (by omega) (fun s=>qW p d s) (A c a) (R fun b i s f q T=>?_);have:=yJ p d (s:Int) g i b (n.kept (a.trans f)) q (u b (a.trans f)) (K b i (a.trans f) q);have G:jx p d (s:Int)=(eP p d s,0):=by unfold jx;rw[if_pos h.1,if_pos ⟨by omega,by omega⟩,Int.toNat_natCast]
   rwa[G]at this
  ·refine zT c m g d (eT p) (k.kept a) (sh l) (A c a) (R fun b f=>?_);refine(Je p g b (n.kept (a.trans f)) (u b (a.trans f))).mono ?_;rintro y D⟨M,rfl,h2,h3⟩;obtain⟨B,x,rfl,_⟩:=id h2;exact⟨B,_,x,by rw[l],h2,h3⟩
  ·exact tv c m g d (aS p) (k.kept a) (R fun b f=>sW p g b (n.kept (a.trans f)) (u b (a.trans f)) l)
  ·obtain⟨G,T⟩:=rK h.1 e;have Q:aI (be p d e).2.2:=by unfold dF at G;unfold aI;omega
   refine(zS c m g d (be p d e).1 e (be p d e).2.1 (be p d e).2.2 (k.kept a) (by unfold aI;omega) Q (fun b f=>E.Kc.kept (aA.kept (r.trans a) P f)) (R fun b i f q=>Hg p d g i e b (n.kept (a.trans f)) q (u b (a.trans f)) h)).mono ?_;rintro y D⟨h3,z⟩;unfold eV;rw[if_pos rfl];by_cases j:((opsOf p).run d e).2.2=3;·rw[if_pos j];exact h3 j
   ·rw[if_neg j];exact z j
  ·have S:=qH l e;have N:∀b,J c b→Calls prog 57 #[g,.int .i64 e] b (nt (bH p e).1 (bH p e).2 b):=fun b f=>by refine(mG p g e b (n.kept (a.trans f)) (u b (a.trans f))).mono ?_;rintro y D⟨M,rfl,h2,h3⟩;obtain⟨B,W,x,rfl,z⟩:=nP h2;exact⟨B,W,x,rfl,z,h3⟩
   have o:=N c (J.refl c);have V:([104,101,105,103,104,116,115]:List UInt8)≠[115,116,101,112]:=by decide
   unfold eV;rw[if_neg V,if_pos rfl];by_cases j:((opsOf p).Kg e).2=0;·rw[if_pos j];have O:(bH p e).2=0:=j;rw[O]at o;exact zN c m g d e (bH p e).1 (k.kept a) S.1 (A c a) (R o)
   ·rw[if_neg j];exact zO c m g d e (bH p e).2 (bH p e).1 (k.kept a) j (R o)
 ·have:=qi l h t;unfold aQ;cases v:dU (opsOf p) d t with
  |inl b=>rw[v]at this;exact this.1
  |inr I=>exact h
 ·have:=qi l h t;rw[v]at this;exact this
 ·have:=qi l h t;unfold aQ;cases v:dU (opsOf p) d t with
  |inl b=>
   rw[v]at this;obtain⟨_,F,h2⟩:=this;obtain⟨a0,H⟩:=b;by_cases o:H=[];·simp[o,Lib.join_one]
   ·simp only[if_neg o];have X:(Lib.join H [32]).length≤90000:=h2;refine⟨F,by omega,?_⟩;cases H with
    |nil=>exact absurd rfl o
    |cons=>simp
  |inr I=>rw[v]at this;have Y:=tP I this;exact⟨by simp only;omega,by simp only;omega,by simp[br]⟩
theorem rD(w:World)(p:List Fn)(a:List UInt8)(ls:List (List UInt8))(f:aL p=0)(b:eL w)(d:bm w)(j:a.length≤8192)(k:Lib.countByte a 10≤40)(l:dj a=some ls):Calls prog 5 #[.string ⟨(bI p).toArray⟩,.string ⟨a.toArray⟩] w fun h q=>h=.returned (.tuple #[.string ⟨(aY (opsOf p) (aS p) ls).2.toArray⟩,.int .i64 0])∧J w q:=by refine FT w (bI p) a p (opsOf p) (fG p) ls b (vV w p f b d) (R fun o e=>?_) j k l;exact(wo o (bI p) (b.kept e) (d.kept e)).mono fun _ _⟨n,m,g,c,_,h3,i,_⟩=>by rw[wt f]at c h3;exact⟨n,m,g,c,h3,i⟩
theorem FO(w:World)(g m:ByteArray)(a:Int)(c:a≠0)(f:Hid (∀d,J w d→Calls prog 12 #[.string g] d fun b e=>∃k j h,b=.returned (.tuple #[.slice k j h,.int .i64 a])∧J d e)):Calls prog 5 #[.string g,.string m] w fun b e=>b=.returned (.tuple #[.string ⟨#[]⟩,.int .i64 a])∧J w e:=by
 have n:(a==0)=false:=by simpa using c
 have h2:(a !=0)=true:=by rw[bne_iff_ne];exact c
 clear c;go_enter func5,ntmps5;go_wp2_with fail;refine((U f) w (J.refl w)).mono ?_;rintro _ o⟨k,j,h,rfl,i⟩;have l:=R i;clear i f;go_wp2_with fail;go_ret2;exact⟨rfl,U l⟩
theorem FP(w:World)(e f:ByteArray)(l:(8192:Int)<(f.size:Int))(d:Hid (∀b,J w b→Calls prog 12 #[.string e] b fun a c=>∃j i g,a=.returned (.tuple #[.slice j i g,.int .i64 0])∧J b c)):Calls prog 5 #[.string e,.string f] w fun a c=>a=.returned (.tuple #[.string ⟨#[]⟩,.int .i64 2])∧J w c:=by go_enter func5,ntmps5;go_wp2_with fail;refine((U d) w (J.refl w)).mono ?_;rintro _ m⟨j,i,g,rfl,h⟩;have k:=R h;clear h d;go_wp2_with fail;go_ret2;exact⟨rfl,U k⟩
theorem FR(w:World)(f d:ByteArray)(h:Int)(n:¬(8192:Int)<(d.size:Int))(o:(40:Int)<h)(e:Hid (∀a,J w a→Calls prog 12 #[.string f] a fun b c=>∃k j g,b=.returned (.tuple #[.slice k j g,.int .i64 0])∧J a c))(l:Hid (∀a,Calls prog 13 #[.string d,.string ⟨#[10]⟩] a fun b c=>b=.returned (.int .i64 h)∧a=c)):Calls prog 5 #[.string f,.string d] w fun b c=>b=.returned (.tuple #[.string ⟨#[]⟩,.int .i64 2])∧J w c:=by go_enter func5,ntmps5;go_wp2_with fail;refine((U e) w (J.refl w)).mono ?_;rintro _ p⟨k,j,g,rfl,i⟩;have m:=R i;clear i e;go_wp2_with fail;refine((U l) _).mono ?_;rintro _ _⟨rfl,rfl⟩;go_wp2_with fail;go_ret2;exact⟨rfl,U m⟩
theorem FQ(w:World)(i e:ByteArray)(k:Int)(p:¬(8192:Int)<(e.size:Int))(q:¬(40:Int)<k)(h:Hid (∀a,J w a→Calls prog 12 #[.string i] a fun b c=>∃o n j,b=.returned (.tuple #[.slice o n j,.int .i64 0])∧J a c))(f:Hid (∀a,Calls prog 13 #[.string e,.string ⟨#[10]⟩] a fun b c=>b=.returned (.int .i64 k)∧a=c))(g:Hid (∀a,J w a→Calls prog 14 #[.string e] a fun b c=>b=.returned (.tuple #[.slice none 0 0,.bool false])∧J a c)):Calls prog 5 #[.string i,.string e] w fun b c=>b=.returned (.tuple #[.string ⟨#[]⟩,.int .i64 1])∧J w c:=by go_enter func5,ntmps5;go_wp2_with fail;refine((U h) w (J.refl w)).mono ?_;rintro _ r⟨o,n,j,rfl,l⟩;have d:=R l;clear l h;go_wp2_with fail;refine((U f) _).mono ?_;rintro _ _⟨rfl,rfl⟩;go_wp2_with fail;refine((U g) _ (U d)).mono ?_;rintro _ s⟨rfl,m⟩;replace d:=R ((U d).trans m);clear m f g;go_wp2_with fail;go_ret2;exact⟨rfl,U d⟩
def lI(S a:List UInt8):List UInt8×Int:=if(dm S).2=0 then(if a.length≤8192∧Lib.countByte a 10≤40 then match dj a with|some b=>((aY (opsOf (dm S).1) (aS (dm S).1) b).2,0)|none=>([],1)else([],2))else([],(dm S).2)
theorem FN(w:World)(S a:List UInt8)(k:eL w)(p:bm w):Calls prog 5 #[.string ⟨S.toArray⟩,.string ⟨a.toArray⟩] w fun d e=>d=.returned (.tuple #[.string ⟨(lI S a).1.toArray⟩,.int .i64 (lI S a).2])∧J w e:=by
 have l:(ByteArray.mk a.toArray).size=a.length:=by simp[ByteArray.size]
 have g:∀b,J w b→Calls prog 12 #[.string ⟨S.toArray⟩] b fun d e=>∃n m i,d=.returned (.tuple #[.slice n m i,.int .i64 (dm S).2])∧J b e:=fun b h=>(wo b S (k.kept h) (p.kept h)).mono fun _ _⟨n,m,i,c,_,_,r,_⟩=>⟨n,m,i,c,r⟩;have o:Hid (∀b,Calls prog 13 #[.string ⟨a.toArray⟩,.string ⟨#[10]⟩] b fun d e=>d=.returned (.int .i64 (Lib.countByte a 10))∧b=e):=R fun b=>by have:=strings_Count_one ⟨a.toArray⟩ 10 b;exact this.mono fun d e⟨c,h2⟩=>⟨by simpa using c,h2.symm⟩
 unfold lI;by_cases f:(dm S).2=0
 ·rw[if_pos f];obtain⟨t,s⟩:=rH f;rw[f]at g;by_cases c:a.length≤8192
  ·by_cases h2:Lib.countByte a 10≤40
   ·rw[if_pos ⟨c,h2⟩];cases q:dj a with
    |some u=>have:=rD w (dm S).1 a u t k p c h2 q;rwa[s]at this
    |none=>refine FQ w _ _ _ (by rw[l];omega) (by omega) (R g) o (R fun b h=>?_);have:=rj b a (by omega) (k.kept h);unfold jk at this;rw[q]at this;exact this
   ·rw[if_neg (fun j=>h2 j.2)];exact FR w _ _ _ (by rw[l];omega) (by omega) (R g) o
  ·rw[if_neg (fun j=>c j.1)];exact FP w _ _ (by rw[l];omega) (R g)
 ·rw[if_neg f];exact FO w _ _ _ f (R g)
def lj(l:List Int):List UInt8:=if l=[]then[45]else Lib.join (aP l) [32]
theorem jI(a b:List UInt8)(c:a.length+b.length≤1000000000000):(ByteArray.mk a.toArray)++(ByteArray.mk b.toArray)=⟨(a++b).toArray⟩∧¬9223372036854775807<(ByteArray.mk a.toArray).size+(ByteArray.mk b.toArray).size:=by refine⟨mX a b,?_⟩;simp only[ByteArray.size,List.size_toArray];omega
theorem Db{xs:List (List UInt8)}(a:xs≠[])(y:List UInt8):Lib.join (xs++[y]) [32]=Lib.join xs [32]++[32]++y:=by
 cases xs with
 |nil=>exact absurd rfl a
 |cons c b=>simp[Lib.join_cons,Lib.joinTail]
theorem Ex{l:List Int}{k:Nat}{z:Int}(a:l[k]?=some z):aP (l.take (k+1))=aP (l.take k)++[Lib.itoa z]:=by unfold aP;rw[List.take_add_one,a];simp
theorem nY(w:World)(v:Value)(l:List Int)(Z:bC w v l)(t:jn l)(Q:Hid (∀b,aI b→∀M:World,Calls prog 11 #[.int .i64 b] M fun e x=>e=.returned (aG (Lib.itoa b))∧J M x)):Calls prog 49 #[v] w fun e x=>e=.returned (.string ⟨(lj l).toArray⟩)∧J w x:=by
 obtain⟨b2,a7,rfl,_,G⟩:=Z;have S:=R G;have A:=R t;have b0:=t.1;generalize E:l.length=m at*;have g:=R E;clear G t E;go_enter func49,ntmps49;go_wp2_with fail;go_loopw[3,4](fun a0 u wr=>∃a:Nat,a≤m∧u=.int .i64 (a:Int)∧a0=.string ⟨(Lib.join (aP (l.take a)) [32]).toArray⟩∧Hid (J w wr))(fun _ u _=>m-(intOf u).toNat);case atStart=>exact⟨0,Nat.zero_le _,rfl,rfl,R (J.refl w)⟩
 case round=>
  obtain⟨a,Y,rfl,rfl,h⟩:=hrel;have j:=(xi (l:=l.take a) ⟨by simp;omega,fun b d=>(U A).2 b (List.mem_of_mem_take d)⟩).2;by_cases X:a<m
  ·obtain⟨b,d⟩:∃b,l[a]?=some b:=⟨_,List.getElem?_eq_getElem (by rw[U g];exact X)⟩;obtain⟨a6,b1,rfl,i⟩:=(U S) a b d;replace i:=(U h).cell i;have K:=(U A).2 b (List.mem_of_getElem? d);have f:=R ((U Q) b K);have L:=gP K;unfold aG at f;have H:(0:Int)≤(a:Int):=by omega
   have a8:(a:Int)<(m:Int):=by omega
   have z:=R (Ex d);by_cases c:a=0
   ·subst c;obtain⟨y,q⟩:=jI [] (Lib.itoa b) (by simp only[List.length_nil];omega);have o:Hid (Lib.join (aP (l.take (0+1))) [32]=Lib.itoa b):=R (by rw[U z];simp[aP,Lib.join_one]);have I:Lib.join (aP (l.take 0)) [32]=[]:=rfl;rw[I];rw[Nat.add_zero]at i;rw[List.nil_append]at y;generalize F:(ByteArray.mk (Lib.itoa b).toArray)=W at*;have V:=R F;clear F d L j I;go_wp2_with fail;refine((U f) _).mono ?_;rintro _ a1⟨rfl,k⟩;have p:=R ((U h).trans k);clear k f i;go_wp2_with fail;go_roundw;case rel=>exact⟨1,by omega,by go_num,by rw[U o,U V],p⟩
    case measure=>simp[intOf];omega
   ·have a9:(0:Int)<(a:Int):=by omega
    have o:Hid (Lib.join (aP (l.take (a+1))) [32]=Lib.join (aP (l.take a)) [32]++[32]++Lib.itoa b):=R (by
     rw[U z];refine Db (fun e=>?_) _;have:=congrArg List.length e;simp[aP]at this;rcases this with r|r;·exact c r
     ·have B:=U g;rw[r]at B;simp at B;omega);obtain⟨y,q⟩:=jI (Lib.join (aP (l.take a)) [32]) [32] (by simp only[List.length_cons,List.length_nil];omega);obtain⟨O,a4⟩:=jI (Lib.join (aP (l.take a)) [32]++[32]) (Lib.itoa b) (by simp only[List.length_append,List.length_cons,List.length_nil];omega);rw[←U o]at O;generalize(ByteArray.mk (Lib.join (aP (l.take a)) [32]).toArray)=N at*;generalize(ByteArray.mk (Lib.join (aP (l.take a)) [32]++[32]).toArray)=a2 at*;generalize C:(ByteArray.mk (Lib.join (aP (l.take (a+1))) [32]).toArray)=a3 at*;generalize(ByteArray.mk (Lib.itoa b).toArray)=W at*;replace q:¬9223372036854775807<N.size+1:=q;have P:=R C;clear C d L j;go_wp2_with fail;refine((U f) _).mono ?_;rintro _ a1⟨rfl,k⟩;have p:=R ((U h).trans k);clear k f i;go_wp2_with fail;go_roundw;case rel=>exact⟨a+1,by omega,by go_num,by rw[U P],p⟩
    case measure=>simp[intOf];omega
  ·obtain rfl:a=m:=by omega
   have s:l.take a=l:=List.take_of_length_le (by rw[U g];exact Nat.le_refl _);rw[s]at j⊢;by_cases c:l=[]
   ·have H:a=0:=by rw[←U g,c];rfl
    subst H;have n:Hid (lj l=[45]):=R (if_pos c);clear j s;go_wp2_with fail;go_ret;exact⟨by rw[U n];rfl,U h⟩
   ·have Y:((a:Int)==0)=false:=by simp only[beq_eq_false_iff_ne,ne_eq];intro e;apply c;apply List.eq_nil_of_length_eq_zero;rw[U g];omega
    have n:Hid (lj l=Lib.join (aP l) [32]):=R (if_neg c);generalize D:(ByteArray.mk (Lib.join (aP l) [32]).toArray)=a5 at*;have T:=R D;clear j s D;go_wp2_with fail;go_ret;exact⟨by rw[U n,U T];rfl,U h⟩
abbrev gE(w:World)(x y z:Value):World:=(w.alloc (.cells #[x,y,z] 44)).alloc (.cells #[.slice none 0 0,.int .i64 0,.slice none 0 0] 44)
theorem cA(w:World)(x y z:Value):J w (gE w x y z):=((J.refl w).alloc _).alloc _
theorem dO{w w':World}{x y z:Value}(f:J (gE w x y z) w')(c d e:Value):(w'.cell? ⟨w.heap.size+1,0,none⟩=some (.slice none 0 0)∧w'.cell? ⟨w.heap.size+1,1,none⟩=some (.int .i64 0)∧w'.cell? ⟨w.heap.size+1,2,none⟩=some (.slice none 0 0)∧w'.frozen? ⟨w.heap.size+1,0,none⟩=false∧w'.frozen? ⟨w.heap.size+1,1,none⟩=false∧w'.frozen? ⟨w.heap.size+1,2,none⟩=false)∧(w'.cell? ⟨w.heap.size,0,none⟩=some x∧w'.cell? ⟨w.heap.size,1,none⟩=some y∧w'.cell? ⟨w.heap.size,2,none⟩=some z)∧(dP w' (w.heap.size+1) c d e).cell? ⟨w.heap.size+1,0,none⟩=some c∧(dP w' (w.heap.size+1) c d e).cell? ⟨w.heap.size+1,1,none⟩=some d∧(dP w' (w.heap.size+1) c d e).cell? ⟨w.heap.size+1,2,none⟩=some e∧J w (dP w' (w.heap.size+1) c d e):=by have a:=aw f (ah (b:=w.heap.size+1) (by simp));have h:=aw f (au (ah rfl) _);have g:=ay (ay (ay a 0 c) 1 d) 2 e;exact⟨⟨ab a 0,ab a 1,ab a 2,an a 0,an a 1,an a 2⟩,⟨ab h 0,ab h 1,ab h 2⟩,ab g 0,ab g 1,ab g 2,iS ((cA w x y z).trans f) (Nat.le_succ _) _ _ _⟩
abbrev dS(w:World)(f:FuncId)(args:Array Value)(v:Value):Prop:=Hid (∀a,J w a→Calls prog f args a fun b c=>b=.returned v∧J a c)
abbrev gZ(w:World)(j:Value)(l:ByteArray)(f:Option Addr)(d a:Nat)(c:Int)(g:Option Addr)(e b:Nat)(h:ByteArray):Prop:=Calls prog 23 #[j,.agg #[.slice f d a,.int .i64 c,.slice g e b],.string l] w fun i k=>i=.returned (.tuple #[.agg #[.slice f d a,.int .i64 c,.slice g e b],.string h])∧J w k
theorem Ge(w:World)(n:Value)(h:Option Addr)(g f:Nat)(c:Int)(d:Option Addr)(b a:Nat)(e:ByteArray)(i:dS w 49 #[.slice d b a] (.string e)):gZ w n ⟨#[111,117,116]⟩ h g f c d b a e:=by
 go_enter func23,ntmps23;go_wp2_with fail;go_region_with(go_at_call 49;refine((U i) _ ?_).mono ?_;(repeat(first|exact J.refl _|refine J.drew ?_|refine J.alloc ?_ _));rintro o A⟨rfl,k⟩;obtain⟨⟨s,t,u,p,q,r⟩,⟨x,y,z⟩,k0,l,m,j⟩:=dO ((J.refl _).drew.trans k) (.slice h g f) (.int .i64 c) (.slice d b a));all_goals go_wp2_with fail
 all_goals exact bodyPost_ret (v:=.tuple #[.agg #[.slice h g f,.int .i64 c,.slice d b a],.string e]) (by simp[results,results23,go_sem,k0,l,m]) rfl ⟨rfl,j⟩
theorem Ga(w:World)(A:Value)(f:Option Addr)(d a:Nat)(c:Int)(g:Option Addr)(e b:Nat)(h:ByteArray)(p:Hid (∀m,J w m→Calls prog 50 #[.agg #[.slice f d a,.int .i64 c,.slice g e b]] m fun j n=>∃l k i,j=.returned (.slice l k i)∧dS n 49 #[.slice l k i] (.string h)∧J m n)):gZ w A ⟨#[108,105,110,101]⟩ f d a c g e b h:=by
 go_enter func23,ntmps23;go_wp2_with fail;go_region_with(first|(go_at_call 50;refine((U p) _ ?_).mono ?_;(repeat(first|exact J.refl _|refine J.drew ?_|refine J.alloc ?_ _));rintro j H⟨l,k,i,rfl,q,o⟩;obtain⟨-,⟨x,y,z⟩,-⟩:=dO ((J.refl _).drew.trans o) (.slice f d a) (.int .i64 c) (.slice g e b))|(go_at_call 49;refine((U q) _ ?_).mono ?_;(exact J.refl _);rintro j n⟨rfl,s⟩;obtain⟨⟨E,F,G,B,C,D⟩,⟨x,y,z⟩,k0,t,u,r⟩:=dO ((J.refl _).drew.trans (o.trans s)) (.slice f d a) (.int .i64 c) (.slice g e b)));all_goals go_wp2_with fail
 all_goals exact bodyPost_ret (v:=.tuple #[.agg #[.slice f d a,.int .i64 c,.slice g e b],.string h]) (by simp[results,results23,go_sem,k0,t,u]) rfl ⟨rfl,r⟩
theorem eX.boxed{N a B:Nat}{w:World}{v:Value}{s:St}(d:eX N w v s)(i:B<N)(j:a≤N)(x y z:Value):eX a (dP w B x y z) v s:=fun h h2=>d h fun b c g k f e=>h2 b c g (by omega) f (by rw[nD _ _ _ _ _ (by omega)];exact e)
abbrev xI(w:World)(f:FuncId)(args:Array Value)(s:St):Prop:=Hid (∀a,J w a→Calls prog f args a fun k j=>∃h e c b i g d,k=.returned (.agg #[.slice h e c,.int .i64 b,.slice i g d])∧eX a.heap.size j (.agg #[.slice h e c,.int .i64 b,.slice i g d]) s∧J a j)
theorem FU(w:World)(k:Value)(x:Option Addr)(t o:Nat)(c:Int)(y:Option Addr)(u p:Nat)(j:St)(l:xI w 22 #[k] j):Calls prog 23 #[k,.agg #[.slice x t o,.int .i64 c,.slice y u p],.string ⟨#[97,103,97,105,110]⟩] w (hU j [.string ⟨#[111,107]⟩] w):=by go_enter func23,ntmps23;go_wp2_with fail;refine((U l) _ (cA _ _ _ _)).mono ?_;rintro _ F⟨h,f,b,a,i,g,d,rfl,e,q⟩;obtain⟨⟨C,D,E,z,A,B⟩,-,k0,r,s,n⟩:=dO q (.slice h f b) (.int .i64 a) (.slice i g d);have m:=R e;clear e;go_wp2_with fail;exact bodyPost_ret (v:=.tuple #[.agg #[.slice h f b,.int .i64 a,.slice i g d],.string ⟨#[111,107]⟩]) (by simp[results,results23,go_sem,k0,r,s]) rfl ⟨_,_,_,_,_,_,_,rfl,(U m).boxed (by simp) (by simp;omega) _ _ _,n⟩
def ji(a:World)(b:Nat→Int)(k:Nat)(v:Value)(wr:World):Prop:=wr.ownsRow a.heap.size 3 1 v k (ints ((List.range k).map b))∧J a wr
theorem ji.add{d wr:World}{a:Nat→Int}{k:Nat}{v:Value}(e:ji d a k v wr)(j:k≤1000):∃b c,(Builtin.append_ #[30,30] 30 #[v,.slice (some ⟨wr.heap.size,0,none⟩) 1 1]).run prog (wr.alloc (.cells #[.int .i64 (a k)] 3))=.ok b c∧ji d a (k+1) b c:=by obtain⟨b,c,g,h,i,_⟩:=lM 3 30 1 8 (.int .i64 0) underlying30 (by kernel_rfl) rfl (by decide) (by decide) d.heap.size wr v k _ [.int .i64 (a k)] e.1 e.2.size (by omega) rfl (fun l f=>by obtain rfl:=List.mem_singleton.1 f;rfl);exact⟨b,c,g,by simpa[List.range_succ,ints]using h,Below.trans e.2 i⟩
theorem ji.Kf{a wr w':World}{d:Nat→Int}{k:Nat}{v:Value}(b:ji a d k v wr)(c:J wr w'):ji a d k v w':=⟨oT b.1 c,b.2.trans c⟩
theorem FZ(w:World)(D:Value)(h:Option Addr)(b e:Nat)(c:Int)(i:Option Addr)(g f:Nat)(l:ByteArray)(n:Nat→Int)(V:b≤5)(s:Hid (∀d a,J w d→a<b→Calls prog 51 #[D,.agg #[.slice h b e,.int .i64 c,.slice i g f],.int .i64 (a:Nat)] d fun m k=>m=.returned (.int .i64 (n a))∧J d k))(t:Hid (∀d p,J w d→bC d p ((List.range b).map n)→Calls prog 49 #[p] d fun m k=>m=.returned (.string l)∧J d k)):gZ w D ⟨#[107,105,110,100,115]⟩ h b e c i g f l:=by
 have q:Hid (ji (gE w (.slice h b e) (.int .i64 c) (.slice i g f)) n 0 (.slice none 0 0) (gE w (.slice h b e) (.int .i64 c) (.slice i g f))):=R ⟨World.ownsRow_nil _ _ _ _,J.refl _⟩;go_enter func23,ntmps23;go_wp2_with fail;go_loopw[9,10](fun O o wr=>∃a:Nat,a≤b∧o=.int .i64 (a:Int)∧Hid (ji (gE w (.slice h b e) (.int .i64 c) (.slice i g f)) n a O wr))(fun _ o _=>b-(intOf o).toNat);case atStart=>exact⟨0,Nat.zero_le _,rfl,q⟩
 case round=>
  obtain⟨a,T,rfl,j⟩:=hrel;clear q;obtain⟨-,⟨A,B,C⟩,-⟩:=dO (U j).2 (.slice h b e) (.int .i64 c) (.slice i g f);by_cases I:a<b
  ·have K:(a:Int)<(b:Int):=by omega
   have r:=R ((U s) wr a ((cA _ _ _ _).trans (U j).2) I);go_wp2_with fail;refine(U r).mono ?_;rintro _ a0⟨rfl,z⟩;obtain⟨Z,k,x,v⟩:=((U j).Kf z).add (by omega);have F:=R v;have u:=R x;clear v x z A B C r;go_wp2_with(at_builtin;refine U ?_);refine R ?_;refine ir _ rfl _ _ 30 rfl rfl rfl (U u) ?_;clear u;go_wp2_with fail;go_roundw;case rel=>exact⟨a+1,by omega,by go_num,F⟩
   case measure=>simp[intOf];omega
  ·obtain rfl:a=b:=by omega
   have K:¬(a:Int)<(a:Int):=by omega
   have G:dS wr 49 #[u9] (.string l):=R fun d y=>(U t) d u9 (((cA _ _ _ _).trans (U j).2).trans y) (.kept y (nO (by simpa using(U j).1) (by simp;omega)));have E:=R (U j).2;clear s t j;go_wp2_with fail;go_region_with(go_at_call 49;refine((U G) _ ?_).mono ?_;(repeat(first|exact J.refl _|refine J.drew ?_|refine J.alloc ?_ _));rintro m k⟨rfl,L⟩;obtain⟨⟨W,X,Y,P,Q,S⟩,⟨A,B,C⟩,k0,M,N,H⟩:=dO ((U E).drew.trans L) (.slice h a e) (.int .i64 c) (.slice i g f));all_goals go_wp2_with fail
   all_goals exact bodyPost_ret (v:=.tuple #[.agg #[.slice h a e,.int .i64 c,.slice i g f],.string l]) (by simp[results,results23,go_sem,k0,M,N]) rfl ⟨rfl,H⟩
theorem Bu(a b:Int)(d:Option Addr)(y c:Nat)(u:World):(Instr.field 69 (.agg #[.int .i64 a,.int .i64 b,.slice d y c]) 2).run prog u=.ok (.slice d y c) u:=by kernel_rfl
theorem Gg(w:World)(F:Option Addr)(b A:Nat)(h:Option Addr)(f d:Nat)(c:Int)(i:Option Addr)(g e:Nat)(l:ByteArray)(k:Nat→Nat)(fs:Nat→Int)(a4:b≤5)(p:fs 0=0∧∀a,a<b→fs (a+1)=fs a+(k a:Int)∧0≤fs a∧fs a≤100000∧k a≤1000)(z:Hid (∀t a,J w t→a<b→Calls prog 52 #[.slice F b A,.int .i64 (a:Nat)] t fun B G=>∃m n r o,B=.returned (.agg #[.int .i64 m,.int .i64 n,.slice r (k a) o])∧J t G))(H:dS w 11 #[.int .i64 (fs b)] (.string l)):gZ w (.slice F b A) ⟨#[116,114,105,109]⟩ h f d c i g e l:=by
 have y:=R p.2;have u:Hid (J (gE w (.slice h f d) (.int .i64 c) (.slice i g e)) (gE w (.slice h f d) (.int .i64 c) (.slice i g e))):=R (J.refl _);have q:=p.1;clear p;go_enter func23,ntmps23;go_wp2_with fail;go_loopw[11,12](fun V s wr=>∃a:Nat,a≤b∧V=.int .i64 (fs a)∧s=.int .i64 (a:Int)∧Hid (J (gE w (.slice h f d) (.int .i64 c) (.slice i g e)) wr))(fun _ s _=>b-(intOf s).toNat);case atStart=>exact⟨0,Nat.zero_le _,by rw[q],rfl,u⟩
 case round=>
  obtain⟨a,a3,rfl,rfl,j⟩:=hrel;clear u;obtain⟨-,⟨Q,S,T⟩,-⟩:=dO (U j) (.slice h f d) (.int .i64 c) (.slice i g e);by_cases D:a<b
  ·have M:(a:Int)<(b:Int):=by omega
   have x:=R ((U z) wr a ((cA _ _ _ _).trans (U j)) D);obtain⟨C,a1,h2,h3⟩:=(U y) a D;have I:=R C;generalize fs a=X at*;generalize k a=W at*;clear C q;go_wp2_with fail;refine(U x).mono ?_;rintro _ a8⟨m,n,r,o,rfl,E⟩;have K:=R ((U j).trans E);have a2:=Bu m n r W o;clear E x;go_wp2_with fail;go_roundw;case rel=>exact⟨a+1,by omega,by rw[U I],by go_num,K⟩
   case measure=>simp[intOf];omega
  ·obtain rfl:a=b:=by omega
   have M:¬(a:Int)<(a:Int):=by omega
   generalize fs a=X at*;clear z y q;go_wp2_with fail;go_region_with(go_at_call 11;refine((U H) _ ?_).mono ?_;(refine((cA _ _ _ _).trans (U j)).drew);rintro B G⟨rfl,N⟩;obtain⟨⟨a5,a6,a7,Y,Z,a0⟩,⟨Q,S,T⟩,k0,O,P,L⟩:=dO ((U j).drew.trans N) (.slice h f d) (.int .i64 c) (.slice i g e));all_goals go_wp2_with fail
   all_goals exact bodyPost_ret (v:=.tuple #[.agg #[.slice h f d,.int .i64 c,.slice i g e],.string l]) (by simp[results,results23,go_sem,k0,O,P]) rfl ⟨rfl,L⟩
theorem lK(w:World)(z:Int)(d:aI z)(h:Hid (∀z,aI z→∀f:World,Calls prog 11 #[.int .i64 z] f fun k l=>k=.returned (aG (Lib.itoa z))∧J f l)):dS w 48 #[.int .i64 z] (.string ⟨(Lib.join (br z) [32]).toArray⟩):=R fun m _=>by obtain⟨g,c⟩:=jI [101,114,114,111,114,32] (Lib.itoa z) (by have:=gP d;simp only[List.length_cons,List.length_nil];omega);have a:=R ((U h) z d m);have b:Hid ([101,114,114,111,114,32]++Lib.itoa z=Lib.join (br z) [32]):=R (by simp[br,Lib.join_cons,Lib.joinTail]);unfold aG at a;rw[U b]at g;generalize(ByteArray.mk (Lib.itoa z).toArray)=j at*;generalize(ByteArray.mk (Lib.join (br z) [32]).toArray)=n at*;replace c:¬9223372036854775807<6+j.size:=c;clear b;go_enter func48,ntmps48;go_wp2_with fail;refine(U a).mono ?_;rintro _ o⟨rfl,e⟩;have i:=R e;clear e a;go_wp2_with fail;go_ret;exact⟨rfl,U i⟩
abbrev pK(a:ByteArray):Prop:=(a.toList==[111,117,116])=false∧(a.toList==[108,105,110,101])=false∧(a.toList==[107,105,110,100,115])=false∧(a.toList==[116,114,105,109])=false∧(a.toList==[97,103,97,105,110])=false
theorem Gb(w:World)(D:Value)(h:ByteArray)(f:Option Addr)(d a:Nat)(c:Int)(g:Option Addr)(e b:Nat)(i:ByteArray)(n:Nat)(H:((n:Int)!=2)=true)(u:pK h)(m:Hid (∀k,J w k→Calls prog 43 #[.string h,.int .u8 32] k fun p r=>∃q o,p=.returned (.slice q n o)∧J k r))(s:dS w 48 #[.int .i64 1] (.string i)):gZ w D h f d a c g e b i:=by
 obtain⟨I,K,L,M,N⟩:=u;go_enter func23,ntmps23;go_wp2_with fail;refine((U m) _ (cA _ _ _ _)).mono ?_;rintro _ S⟨q,o,rfl,j⟩;have l:=R j;obtain⟨-,⟨A,B,C⟩,-⟩:=dO j (.slice f d a) (.int .i64 c) (.slice g e b);clear j m;go_wp2_with fail;go_region_with(go_at_call 48;refine((U s) _ ?_).mono ?_;(refine((cA _ _ _ _).trans (U l)).drew);rintro p r⟨rfl,x⟩;obtain⟨⟨O,P,Q,E,F,G⟩,⟨A,B,C⟩,k0,y,z,t⟩:=dO ((U l).drew.trans x) (.slice f d a) (.int .i64 c) (.slice g e b));all_goals go_wp2_with fail
 all_goals exact bodyPost_ret (v:=.tuple #[.agg #[.slice f d a,.int .i64 c,.slice g e b],.string i]) (by simp[results,results23,go_sem,k0,y,z]) rfl ⟨rfl,t⟩
