import Derived.Test.YtokhibfenccijaaGreatDoorQB24
import Derived.Laws.Cover3
set_option maxRecDepth 100000
set_option maxHeartbeats 8000000
namespace Go.Proofs.YtokhibfenccijaaGreatDoor
open Go.Proofs.Tryz
open Go.RowKit
theorem ry(N:Nat)(w:World):Own N w (fun _=>.slice none 0 0) St.zero:=by
 refine⟨fun b a=>?_,fun b k g a i d h=>by cases d⟩;cases b using Key.by with
 |fibers=>exact⟨[],World.ownsRow_nil _ _ _ _,fun j e=>by simp[St.zero]at e⟩
 |out=>exact World.ownsRow_nil _ _ _ _
 |frames c=>simp[live,St.zero]at a
 |locals c f=>simp[live,St.zero]at a
 |stack c f=>simp[live,St.zero]at a
theorem It(g:Nat)(x e:Int)(b:List PanicEntry)(w:World)(a:w.heap[g]?=some (.cells #[.int .i64 x] 22)):CallsD prog 131 #[.pointer (some ⟨g,0,none⟩)] (.panicking ({v:=.iface 22 (.int .i64 e),recovered:=false}::b)) w fun d i j=>d=.returned (.tuple #[])∧i=.panicking ({v:=.iface 22 (.int .i64 e),recovered:=true}::b)∧j=w.setCell ⟨g,0,none⟩ (.int .i64 e):=by have c:w.cell? ⟨g,0,none⟩=some (.int .i64 x):=aE a rfl;have k:=an a 0;refine callsD_of_wpS func131 rfl fun m l h=>?_;apply wpS_seq;apply wpS_region;simp[wpOpsS,go_sem,recoverD,h,ntmps131,Exit.thenS];have f:(#[Value.pointer (some ⟨g,0,none⟩)]++((Array.replicate 6 undef).setIfInBounds 1 (Value.iface 22 (.int .i64 e))).setIfInBounds 0 (Value.iface 22 (.int .i64 e)))=#[Value.pointer (some ⟨g,0,none⟩),Value.iface 22 (.int .i64 e),Value.iface 22 (.int .i64 e),undef,undef,undef,undef]:=rfl;rw[f];apply wpS_seq;apply wpS_region;simp[wpOpsS,go_sem,Exit.thenS];refine wpS_cond (t:=true) (by simp[Act.eval]) ?_;simp only[if_true];apply wpS_region;simp[wpOpsS,go_sem,sN,c,k,bodyPostS,results,results131]
theorem Is(g:Nat)(w:World):CallsD prog 131 #[.pointer (some ⟨g,0,none⟩)] .returning w fun b e f=>b=.returned (.tuple #[])∧e=.returning∧f=w:=by refine callsD_of_wpS func131 rfl fun a h d=>?_;apply wpS_seq;apply wpS_region;simp[wpOpsS,go_sem,recoverD,d,ntmps131,Exit.thenS];have c:(#[Value.pointer (some ⟨g,0,none⟩)]++((Array.replicate 6 undef).setIfInBounds 1 Value.nilIface).setIfInBounds 0 Value.nilIface)=#[Value.pointer (some ⟨g,0,none⟩),Value.nilIface,Value.nilIface,undef,undef,undef,undef]:=rfl;rw[c];apply wpS_seq;apply wpS_region;simp[wpOpsS,go_sem,Exit.thenS];refine wpS_cond (t:=false) (by simp[Act.eval]) ?_;simp only[Bool.false_eq_true,if_false];refine wpS_of_wp (wp_skip ?_);cases a;simp_all[bodyPostS,results,results131]
theorem qY{P:Program}{c:Func}{t t':Array Value}{f:Ending→World→Prop}(d:results c t=results c t'):∀(b:List Deferred)(u:FrameMode)(w:World),Leaves P c t f b u w→Leaves P c t' f b u w
 |[],.returning,w,⟨g,a,h2⟩=>⟨g,by rw[←d];exact a,h2⟩
 |[],.panicking _,_,a=>a
 |[],.run,_,a=>a
 |o::b,u,w,⟨m,l,i,k,h,a,h2,h3⟩=>⟨m,l,i,k,h,a,h2,h3.mono (by
  intro j s v e;cases j with
  |returned g=>exact qY d b _ _ e
  |panicked n=>exact qY d b _ _ e
  |outgrown=>exact e)⟩
theorem xe{K:Act→World→Prop}{b:Ending→World→Prop}{d:Nat}(f:d≠4∧d≠5)(v:Value):∀(c:List PanicEntry)(a:Act)(w:World),Exit.then K (bodyPostD prog f92 b) (.panic c) (a.put (some d) v) w→Exit.then K (bodyPostD prog f92 b) (.panic c) a w:=by intro c a w e;simp only[Exit.then,bodyPostD]at e⊢;refine qY ?_ _ _ _ e;unfold Act.put results;simp only[results92];simp[Array.getElem?_setIfInBounds,f.1,f.2]
def sI(base:Nat)(a:St×Int)(w:World)(e:Ending)(w':World):Prop:=∃V,e=.returned (.tuple #[.agg #[V .I,.int .i64 a.1.now,V .out],.int .i64 a.2])∧Own base w' V a.1∧Below base w w'
theorem AV(base:Nat)(V:Key→Value)(p:List Fn)(s:St)(k2:Value)(w S:World)(o1:aK S k2 p)(i2:J S w)(n2:S.heap.size≤base)(u:base≤w.heap.size)(a7:Own base w V s)(e5:ba p s=0)(n7:0≤s.now):Calls prog 92 #[k2,.agg #[V .I,.int .i64 s.now,V .out]] w (sI base (aU p s) w):=by
 obtain⟨⟨p9,a5,n0,m9⟩,h5,e0,_,_,_,⟨h2,G,h3,A,Z⟩,_⟩:=rJ e5 n7;obtain⟨a,x⟩:∃a:Nat,s.now=a:=⟨s.now.toNat,by omega⟩;rw[x,Int.toNat_natCast]at a5 e0;have j3:=jf x;rw[j3]at h2 G h3 A Z;have i1:=(h5 _ (ky a a5));have i8:aH s a:=⟨a5,e0,by omega,(i1.2 _ (qu a _ (by omega))).2⟩;obtain⟨j,a4⟩:∃j:Nat,(ae s a ((aa s a).U.length-1)).fn=j:=⟨(ae s a ((aa s a).U.length-1)).fn.toNat,by omega⟩;obtain⟨i,I⟩:∃i:Nat,(ae s a ((aa s a).U.length-1)).at_=i:=⟨(ae s a ((aa s a).U.length-1)).at_.toNat,by omega⟩;rw[a4,Int.toNat_natCast]at G A Z;rw[I,Int.toNat_natCast]at A;obtain⟨q2,r,rfl,q1,c9⟩:=o1;obtain⟨m,n,p2,rfl,m0,m1,g5,i0⟩:=c9 j _ (aD p j Fn.zero G);have h8:(p.getD j Fn.zero).code=codeOf p j:=rfl;rw[h8]at i0;obtain⟨q3,m3,rfl,_,h9⟩:=i0;obtain⟨m2,m4,rfl,M,N⟩:=h9 i _ (aD (codeOf p j) i (0,0) A);have e6:(codeOf p j).getD i (0,0)=opAt p (ae s a ((aa s a).U.length-1)):=by unfold opAt;rw[a4,I,Int.toNat_natCast,Int.toNat_natCast]
 rw[e6]at M N;generalize j4:opAt p (ae s a ((aa s a).U.length-1))=p0 at M N e6;obtain⟨b1,q⟩:=p0;simp only at M N;have E:∀{k1:Addr}{v:Value},S.cell? k1=some v→∀b,Below base w b→b.cell? k1=some v:=fun i7 b C=>(Below.cell C (Nat.lt_of_lt_of_le (bJ i7) n2)).trans (i2.cell i7);have l4:Hid (∀b h,Below base w b→ag base b h V s→Calls prog 133 #[aT h (.slice (some ⟨m,n,none⟩) p.length r)] b (sF base h V s (aj s a i) b1 q b)):=R (fun b h C B=>Bi base h V s a r m n p.length j i m2 m4 (codeOf p j).length m3 b1 q b B ⟨x,i8,a4,I,G,A,Z,fun t a8=>have c7:=Below.trans C a8;⟨E g5 t c7,E M t c7,E N t c7⟩⟩);have k4:Hid (∀b h,Below base w b→ag base b h V (aj s a i)→Calls prog 132 #[aT h (.slice (some ⟨m,n,none⟩) p.length r),.agg #[.int .i64 b1,.int .i64 q]] b (cE base h V (aj s a i) (aU p s) b)):=R (fun b h C B=>Ah base h V p s a i m n r b1 q b e5 x I j4 B (fun X n4 t a8=>by obtain⟨l9,o5,p3,m7,m5,m6,_,_⟩:=c9 X _ (aD p X Fn.zero n4);obtain⟨rfl,rfl⟩:=(by simpa using m7:m=l9∧n=o5);exact⟨E m5 t (Below.trans C a8),E m6 t (Below.trans C a8)⟩));have j5:(aU p s).2≠0→(aU p s).1=St.zero:=tL;have l7:=R j5;obtain⟨q5,j1,_⟩:=a7.piece .I trivial;obtain⟨j8,g6,c3,_⟩:=aR j1;have j2:=a7.piece .out trivial;obtain⟨j9,g7,c4,_⟩:=aR j2;have z:=R a7;have k7:=R c3;have k8:=R c4;rw[c3,c4,x];generalize n1:aU p s=c at*;generalize p.length=b3 at*;generalize s.I.length=g3 at*;generalize s.out.length=g2 at*;have l2:=R x;clear c9 E j5 j1 j2 a7 i2 j4 m0 m1 g5 M N h9 i8 i1 h5 e5 h2 G h3 A Z a4 I e6 e0 j3 h8 n1 x c3 c4 m9 n0 a5;have q0:∀(Y:Go.Fn)(h1 g8:Array Value)(w:World),(Instr.makeFunc Y h1 g8).run prog w=.ok (.func Y h1 g8) w:=fun _ _ _ _=>rfl;go_enter_defers func92,ntmps92;go_upto_region 3 with fail;generalize D:((((w.alloc (.cells #[.slice j8 g3 g6,.int .i64 a,.slice j9 g2 g7] 44)).alloc (.cells #[.slice none 0 0,.int .i64 0,.slice none 0 0] 44)).alloc (.cells #[.int .i64 0] 22)).alloc (.cells #[.pointer (some ⟨w.heap.size,0,none⟩),.slice (some ⟨m,n,none⟩) b3 r] 170))=l;have a6:J w l:=by rw[←D];exact((((J.refl w).alloc _).alloc _).alloc _).alloc _
 have j7:l.heap[w.heap.size]?=some (.cells #[.slice j8 g3 g6,.int .i64 a,.slice j9 g2 g7] 44):=by rw[←D];exact au (au (au (ah rfl) _) _) _
 have lA:l.heap[w.heap.size+1]?=some (.cells #[.slice none 0 0,.int .i64 0,.slice none 0 0] 44):=by rw[←D];exact au (au (ah (by simp)) _) _
 have j6:l.heap[w.heap.size+1+1]?=some (.cells #[.int .i64 0] 22):=by rw[←D];exact au (ah (by simp)) _
 have b2:l.heap[w.heap.size+1+1+1]?=some (.cells #[.pointer (some ⟨w.heap.size,0,none⟩),.slice (some ⟨m,n,none⟩) b3 r] 170):=by rw[←D];exact ah (by simp)
 have B:ag base l w.heap.size V s:=⟨by rw[U k7,U k8,U l2];exact j7,(U z).same (fun o3 g n6 n5=>a6.block g (((U z).piece o3 n6).block g n5).2),(U z).JU (.inl (Nat.le_refl _)),u⟩;have e2:Own.off V s (w.heap.size+1):=(U z).JU (.inl (by omega));have e3:Own.off V s (w.heap.size+1+1):=(U z).JU (.inl (by omega));have h7:Below base w l:=Below.mono a6 u;have g9:l.cell? ⟨w.heap.size+1+1+1,0,none⟩=some (.pointer (some ⟨w.heap.size,0,none⟩)):=ab b2 0;have h0:l.cell? ⟨w.heap.size+1+1+1,1,none⟩=some (.slice (some ⟨m,n,none⟩) b3 r):=ab b2 1;have F:=R B;have O:=R h7;have b7:=R lA;have b8:=R j6;have p1:=R a6;have l1:=R b2;have o0:Own.off V s (w.heap.size+1+1+1):=(U z).JU (.inl (by omega));clear D B h7 j7 lA j6 b2 a6;refine eW 3 [0,1] (fun b=>b.cell? ⟨w.heap.size+1+1+1,0,none⟩=some (.pointer (some ⟨w.heap.size,0,none⟩))∧b.cell? ⟨w.heap.size+1+1+1,1,none⟩=some (.slice (some ⟨m,n,none⟩) b3 r)) (by kernel_rfl) ?_;have c5:=And.intro g9 h0;refine cN (v:=?_) (hQ:=xe (d:=10) (by decide) _) c5 (fun b c6=>?_) ?_;rotate_left;·((try dsimp only at c6);go_simp)<;>with_reducible rfl
 try simp only[PS]
 refine cN (v:=?_) (hQ:=xe (d:=11) (by decide) _) c5 (fun b c6=>?_) ?_;rotate_left;·((try dsimp only at c6);go_simp)<;>with_reducible rfl
 try simp only[PS]
 refine dc ?_;refine az (i:=2) rfl (by kernel_rfl) (fun K H=>?_);go_simp;refine((U l4) l.drew w.heap.size ((U O).drew) ((U F).kept (J.refl _).drew)).mono ?_;rintro c0 w2⟨rfl,e1⟩;have g0:=e1.JP (aW (U l1)) (by omega) o0;refine H.out _ _ (fun _=>⟨ab g0 0,ab g0 1⟩) ?_;clear H K;try simp only[PS]
 refine az (i:=3) rfl (by kernel_rfl) (fun K H=>?_);go_simp;have L:=(aF.JQ (U F) (J.refl _).drew).trans e1;have h6:Below base w w2:=Below.trans (U O) (L.below (U F));refine((U k4) w2 w.heap.size h6 L.own).mono ?_;rintro c0 f(⟨b0,rfl,g4,i3⟩|⟨b0,rfl,o2⟩)
 ·have k:=L.trans i3;have a3:Below base w f:=Below.trans (U O) (k.below (U F));have e:=k.JP (U b7) (by omega) e2;have y:=k.JP (U b8) (by omega) e3;have i5:=k.off _ (Array.getElem?_eq_some_iff.1 (U b7)).1 e2;have i6:=k.off _ (Array.getElem?_eq_some_iff.1 (U b8)).1 e3;obtain⟨o6,q4,o7,_⟩:=k.own.cells;have a0:f.cell? ⟨w.heap.size+1,0,none⟩=some (.slice none 0 0):=ab e 0;have a1:f.cell? ⟨w.heap.size+1,1,none⟩=some (.int .i64 0):=ab e 1;have a2:f.cell? ⟨w.heap.size+1,2,none⟩=some (.slice none 0 0):=ab e 2;have p6:=an e 0;have p7:=an e 1;have p8:=an e 2;have p4:f.cell? ⟨w.heap.size+1+1,0,none⟩=some (.int .i64 0):=ab y 0;have p5:=an y 0;obtain⟨q6,i9,_⟩:=k.own.own.piece .I trivial;obtain⟨b5,T,c1,_⟩:=aR i9;have j0:=k.own.own.piece .out trivial;obtain⟨b6,W,c2,_⟩:=aR j0;rw[c1]at o6;rw[c2]at o7;have l6:=R k.own.own;have k3:=R a3;have k9:=R e;have l0:=R y;have k5:=R c1;have k6:=R c2;have l8:=R b0;have b9:=R i5;have l5:=R i6;generalize c.1.I.length=Q at*;generalize c.1.out.length=P at*;generalize i4:c.1.now=b4 at*;have l3:=R i4;refine H.out _ _ (fun m8=>absurd rfl m8) ?_;clear H K;refine df (by kernel_rfl) ?_ _;clear L e1 i3 k h6 a3 i9 j0 c1 c2 b0 i4 e y i5 i6 c5 g0 g9 h0;go_wp2;refine leaves_cons (f:=131) (args:=#[.pointer (some ⟨w.heap.size+1+1,0,none⟩)]) (by simp) (by simp[go_sem]) ?_;refine(Is _ _).mono ?_;rintro c0 t o8⟨rfl,rfl,rfl⟩;generalize a9:(((f.setCell ⟨w.heap.size+1,0,none⟩ (.slice b5 Q T)).setCell ⟨w.heap.size+1,1,none⟩ (.int .i64 b4)).setCell ⟨w.heap.size+1,2,none⟩ (.slice b6 P W))=o;have g1:o.heap[w.heap.size+1]?=some (.cells #[.slice b5 Q T,.int .i64 b4,.slice b6 P W] 44):=by rw[←a9];exact ay (ay (ay (U k9) 0 _) 1 _) 2 _
  have o4:o.heap[w.heap.size+1+1]?=some (.cells #[.int .i64 0] 22):=by rw[←a9,Below.heap_setCell _ _ _ _ (by simp),Below.heap_setCell _ _ _ _ (by simp),Below.heap_setCell _ _ _ _ (by simp)];exact U l0
  have n8:Own base o g4 c.1:=by rw[←a9];exact(((U l6).JW (a:=⟨w.heap.size+1,0,none⟩) (U b9) _).JW (a:=⟨w.heap.size+1,1,none⟩) (U b9) _).JW (a:=⟨w.heap.size+1,2,none⟩) (U b9) _
  have n3:Below base w o:=by rw[←a9];exact(((U k3).setCell (p:=⟨w.heap.size+1,0,none⟩) (Nat.le_succ_of_le u) _).setCell (p:=⟨w.heap.size+1,1,none⟩) (Nat.le_succ_of_le u) _).setCell (p:=⟨w.heap.size+1,2,none⟩) (Nat.le_succ_of_le u) _
  have n9:=n8.JW (a:=⟨w.heap.size+1+1,0,none⟩) (U l5) (.int .i64 0);have c8:=n3.setCell (p:=⟨w.heap.size+1+1,0,none⟩) (Nat.le_succ_of_le (Nat.le_succ_of_le u)) (.int .i64 0);have k0:(o.setCell ⟨w.heap.size+1+1,0,none⟩ (.int .i64 0)).cell? ⟨w.heap.size+1,0,none⟩=some (.slice b5 Q T):=jq (ab g1 0) (by omega) _;have e7:(o.setCell ⟨w.heap.size+1+1,0,none⟩ (.int .i64 0)).cell? ⟨w.heap.size+1,1,none⟩=some (.int .i64 b4):=jq (ab g1 1) (by omega) _;have e8:(o.setCell ⟨w.heap.size+1+1,0,none⟩ (.int .i64 0)).cell? ⟨w.heap.size+1,2,none⟩=some (.slice b6 P W):=jq (ab g1 2) (by omega) _;have e9:(o.setCell ⟨w.heap.size+1+1,0,none⟩ (.int .i64 0)).cell? ⟨w.heap.size+1+1,0,none⟩=some (.int .i64 0):=ab (ay o4 0 _) 0;generalize o.setCell ⟨w.heap.size+1+1,0,none⟩ (.int .i64 0)=o9 at*;dsimp only[settle];refine⟨.tuple #[.agg #[.slice b5 Q T,.int .i64 b4,.slice b6 P W],.int .i64 0],?_,g4,?_,n9,c8⟩;·simp[results,results92,go_sem,k0,e7,e8,e9]
  ·rw[U k5,U k6,U l3,U l8]
 ·dsimp only[left];have e4:=L.past o2;have e:=e4.JP (U b7) (by omega) e2;have y:=e4.JP (U b8) (by omega) e3;have a3:Below base w f:=Below.trans (U O) (e4.below (U F));have h4:=U l7 b0;refine leaves_cons (f:=131) (args:=#[.pointer (some ⟨w.heap.size+1+1,0,none⟩)]) (by simp) (by simp[go_sem]) ?_;refine(It (w.heap.size+1+1) 0 c.2 [] _ y).mono ?_;rintro c0 t o8⟨rfl,rfl,rfl⟩;have c8:=a3.setCell (p:=⟨w.heap.size+1+1,0,none⟩) (Nat.le_succ_of_le (Nat.le_succ_of_le u)) (.int .i64 c.2);have k0:(f.setCell ⟨w.heap.size+1+1,0,none⟩ (.int .i64 c.2)).cell? ⟨w.heap.size+1,0,none⟩=some (.slice none 0 0):=jq (ab e 0) (by omega) _;have e7:(f.setCell ⟨w.heap.size+1+1,0,none⟩ (.int .i64 c.2)).cell? ⟨w.heap.size+1,1,none⟩=some (.int .i64 0):=jq (ab e 1) (by omega) _;have e8:(f.setCell ⟨w.heap.size+1+1,0,none⟩ (.int .i64 c.2)).cell? ⟨w.heap.size+1,2,none⟩=some (.slice none 0 0):=jq (ab e 2) (by omega) _;have e9:(f.setCell ⟨w.heap.size+1+1,0,none⟩ (.int .i64 c.2)).cell? ⟨w.heap.size+1+1,0,none⟩=some (.int .i64 c.2):=ab (ay y 0 _) 0;generalize f.setCell ⟨w.heap.size+1+1,0,none⟩ (.int .i64 c.2)=o9 at*;dsimp only[settle];refine⟨.tuple #[.agg #[.slice none 0 0,.int .i64 0,.slice none 0 0],.int .i64 c.2],?_,fun _=>.slice none 0 0,?_,?_,c8⟩;·simp[results,results92,go_sem,k0,e7,e8,e9]
  ·rw[h4];rfl
  ·rw[h4];exact ry _ _
end Go.Proofs.YtokhibfenccijaaGreatDoor
namespace Go.Proofs.YtokhibfenccijaaGreatDoor
open Go.Proofs.Tryz
open Go.RowKit
structure bE(K:Key→Prop)(base:Nat)(w:World)(V:Key→Value)(s:St):Prop where
 piece:∀a,K a→Piece base w V s a
 apart:∀a b g,K a→K b→(V a).ownBlock=some g→(V b).ownBlock=some g→a=b
theorem kr{w:World}{base a:Nat}{e:TypeId}{c:Nat}{v:Value}{n:Nat}{xs:List Value}(b:w.ownsRow a e c v n xs)(h:base≤a):w.ownsRow base e c v n xs:=by
 refine⟨b.1,?_⟩;rcases b.2 with j|⟨g,d,f,rfl,i,k⟩;·exact .inl j
 ·exact .inr ⟨g,d,f,rfl,Nat.le_trans h i,k⟩
theorem Piece.low{base e:Nat}{w:World}{V:Key→Value}{s:St}{k:Key}(a:Piece e w V s k)(b:base≤e):Piece base w V s k:=by
 cases k using Key.by with
 |fibers=>obtain⟨d,c,h2⟩:=a;exact⟨d,kr c b,h2⟩
 |out=>exact kr a b
 |frames f=>obtain⟨d,c,h2⟩:=a;exact⟨d,kr c b,h2⟩
 |locals f g=>exact kr a b
 |stack f g=>exact kr a b
def mK:Key→Key→Prop
 |none,some (some (.inl _))=>True
 |some (some (.inl a)),some (some (.inr (.inl (b,_))))=>b=a
 |some (some (.inl a)),some (some (.inr (.inr (b,_))))=>b=a
 |_,_=>False
theorem Piece.congr{base:Nat}{w:World}{V e:Key→Value}{s:St}{k:Key}(b:Piece base w V s k)(c:e k=V k)(g:∀h,mK k h→e h=V h):Piece base w e s k:=by
 cases k using Key.by with
 |fibers=>obtain⟨i,f,h2⟩:=b;exact⟨i,by rw[c];exact f,fun a j=>by rw[g (.U a) trivial];exact h2 a j⟩
 |out=>show World.ownsRow _ _ _ _ _ _ _;rw[c];exact b
 |frames a=>obtain⟨i,f,h2⟩:=b;exact⟨i,by rw[c];exact f,fun d l=>by rw[g (.locals a d) rfl,g (.stack a d) rfl];exact h2 d l⟩
 |locals a d=>show World.ownsRow _ _ _ _ _ _ _;rw[c];exact b
 |stack a d=>show World.ownsRow _ _ _ _ _ _ _;rw[c];exact b
section
variable {K K':Key→Prop}{base:Nat}{w w1 w2:World}{V V1 V2:Key→Value}{s:St}{p:Key}{g:Nat}
theorem bE.same(c:bE K base w V s)(f:∀b a,K b→(V b).ownBlock=some a→w2.heap[a]?=w.heap[a]?):bE K base w2 V s:=⟨fun b d=>(c.piece b d).same (fun a e=>f b a d e),c.apart⟩
theorem bE.kept(b:bE K base w V s)(e:J w w2):bE K base w2 V s:=b.same fun f a c d=>e.block a ((b.piece f c).block a d).2
theorem bE.sub(d:bE K base w V s)(c:∀a,K' a→K a):bE K' base w V s:=⟨fun a b=>d.piece a (c a b),fun a e f b g=>d.apart a e f (c a b) (c e g)⟩
theorem bE.Ku(i:bE K base w V s)(x:base≤w.heap.size)(y:J w w1)(m:bE K' w.heap.size w1 V1 s)(q:K p)(r:(V p).ownBlock=some g)(h2:∀c,c≠g→w2.heap[c]?=w1.heap[c]?)(j:∀a,K a→V2 a=V a)(k:∀a,K' a→V2 a=V1 a)(t:∀a b,K a→a≠p→mK a b→V2 b=V b)(u:∀a b,K' a→mK a b→V2 b=V1 b)(E:Piece base w2 V2 s p):bE (fun a=>K a∨K' a) base w2 V2 s:=by
 have F:=((i.piece p q).block g r).2;refine⟨fun a B=>?_,fun a b c z A b1 h=>?_⟩
 ·rcases B with d|d
  ·by_cases n:a=p;·rw[n];exact E
   ·refine((i.piece a d).congr (j a d) (fun b o=>t a b d n o)).same (fun c l=>?_);rw[j a d]at l;have C:=((i.piece a d).block c l).2;have D:c≠g:=fun v=>n (i.apart a p c d q l (by rw[r,v]));rw[h2 c D,y.block c C]
  ·refine(((m.piece a d).congr (k a d) (fun b o=>u a b d o)).low x).same (fun c l=>?_);rw[k a d]at l;have G:=((m.piece a d).block c l).1;exact h2 c (by omega)
 ·rcases z with e|e<;>rcases A with f|f;·rw[j a e]at b1;rw[j b f]at h;exact i.apart a b c e f b1 h
  ·rw[j a e]at b1;rw[k b f]at h;have:=((i.piece a e).block c b1).2;have:=((m.piece b f).block c h).1;omega
  ·rw[k a e]at b1;rw[j b f]at h;have:=((i.piece b f).block c h).2;have:=((m.piece a e).block c b1).1;omega
  ·rw[k a e]at b1;rw[k b f]at h;exact m.apart a b c e f b1 h
theorem bE.beside(j:bE K base w V s)(p:base≤w.heap.size)(q:J w w1)(k:bE K' w.heap.size w1 V1 s)(h:∀a,K a→V2 a=V a)(i:∀a,K' a→V2 a=V1 a)(n:∀a b,K a→mK a b→V2 b=V b)(o:∀a b,K' a→mK a b→V2 b=V1 b):bE (fun a=>K a∨K' a) base w1 V2 s:=by
 refine⟨fun a u=>?_,fun a b c r t b1 g=>?_⟩
 ·rcases u with d|d;·refine((j.piece a d).congr (h a d) (fun b l=>n a b d l)).same (fun c m=>?_);rw[h a d]at m;exact q.block c ((j.piece a d).block c m).2
  ·exact((k.piece a d).congr (i a d) (fun b l=>o a b d l)).low p
 ·rcases r with e|e<;>rcases t with f|f;·rw[h a e]at b1;rw[h b f]at g;exact j.apart a b c e f b1 g
  ·rw[h a e]at b1;rw[i b f]at g;have:=((j.piece a e).block c b1).2;have:=((k.piece b f).block c g).1;omega
  ·rw[i a e]at b1;rw[h b f]at g;have:=((j.piece b f).block c g).2;have:=((k.piece a e).block c b1).1;omega
  ·rw[i a e]at b1;rw[i b f]at g;exact k.apart a b c e f b1 g
end
def FK(t n:Nat):Key→Prop
 |some (some (.inl a))=>a=t
 |some (some (.inr (.inl (a,b))))=>a=t∧b<n
 |some (some (.inr (.inr (a,b))))=>a=t∧b<n
 |_=>False
def RK(t j:Nat):Key→Prop
 |some (some (.inr (.inl (a,b))))=>a=t∧b=j
 |some (some (.inr (.inr (a,b))))=>a=t∧b=j
 |_=>False
def LK(s:St)(n:Nat):Key→Prop
 |none=>True
 |some none=>False
 |some (some (.inl a))=>a<n
 |some (some (.inr (.inl (a,b))))=>a<n∧b<(aa s a).U.length
 |some (some (.inr (.inr (a,b))))=>a<n∧b<(aa s a).U.length
def mO(t:Nat):Key→Bool
 |some (some (.inl a))=>a==t
 |some (some (.inr (.inl (a,_))))=>a==t
 |some (some (.inr (.inr (a,_))))=>a==t
 |_=>false
def iU(V:Key→Value)(t j:Nat)(v1 v2:Value):Key→Value:=fun a=>if a=.locals t j then v1 else if a=.stack t j then v2 else V a
theorem uk(V:Key→Value)(t j:Nat)(v1 v2:Value):iU V t j v1 v2 (.locals t j)=v1:=if_pos rfl
theorem um(V:Key→Value)(t j:Nat)(v1 v2:Value):iU V t j v1 v2 (.stack t j)=v2:=by unfold iU;rw[if_neg (by simp),if_pos rfl]
theorem ka(V:Key→Value){t j:Nat}{v1 v2:Value}{k:Key}(a:k≠.locals t j)(h2:k≠.stack t j):iU V t j v1 v2 k=V k:=by unfold iU;rw[if_neg a,if_neg h2]
theorem bE.frame{base:Nat}{w:World}{s:St}{t j:Nat}{v1 v2:Value}{V:Key→Value}(o:w.ownsRow base 3 1 v1 (ae s t j).locals.length (ints (ae s t j).locals))(h2:w.ownsRow base 3 1 v2 (ae s t j).stack.length (ints (ae s t j).stack))(m:∀d,v1.ownBlock=some d→v2.ownBlock≠some d):bE (RK t j) base w (iU V t j v1 v2) s:=by
 have f:=uk V t j v1 v2;have g:=um V t j v1 v2;refine⟨fun i a=>?_,fun i n d a b=>?_⟩
 ·cases i using Key.by with
  |fibers=>exact a.elim
  |out=>exact a.elim
  |frames c=>exact a.elim
  |locals c k=>obtain⟨rfl,rfl⟩:=a;show World.ownsRow _ _ _ _ _ _ _;rw[f];exact o
  |stack c k=>obtain⟨rfl,rfl⟩:=a;show World.ownsRow _ _ _ _ _ _ _;rw[g];exact h2
 ·cases i using Key.by with
  |fibers=>exact a.elim
  |out=>exact a.elim
  |frames c=>exact a.elim
  |locals c k=>
   obtain⟨rfl,rfl⟩:=a;cases n using Key.by with
   |fibers=>exact b.elim
   |out=>exact b.elim
   |frames c=>exact b.elim
   |locals h l=>obtain⟨rfl,rfl⟩:=b;exact fun _ _=>rfl
   |stack h l=>obtain⟨rfl,rfl⟩:=b;rw[f,g];exact fun b1 e=>absurd e (m d b1)
  |stack c k=>
   obtain⟨rfl,rfl⟩:=a;cases n using Key.by with
   |fibers=>exact b.elim
   |out=>exact b.elim
   |frames c=>exact b.elim
   |locals h l=>obtain⟨rfl,rfl⟩:=b;rw[f,g];exact fun e b1=>absurd e (m d b1)
   |stack h l=>obtain⟨rfl,rfl⟩:=b;exact fun _ _=>rfl
theorem bE.KU{base:Nat}{w w1:World}{V:Key→Value}{s:St}{t j g cap:Nat}{v1 v2:Value}(l:bE (FK t j) base w V s)(v:base≤w.heap.size)(o:J w w1)(K:j<(aa s t).U.length)(k:V (.U t)=.slice (some ⟨g,0,none⟩) (aa s t).U.length cap)(r:w1.ownsRow w.heap.size 3 1 v1 (ae s t j).locals.length (ints (ae s t j).locals))(h2:w1.ownsRow w.heap.size 3 1 v2 (ae s t j).stack.length (ints (ae s t j).stack))(u:∀c,v1.ownBlock=some c→v2.ownBlock≠some c):bE (FK t (j+1)) base ((((w1.setCell ⟨g,j*4,none⟩ (.int .i64 (ae s t j).fn)).setCell ⟨g,j*4+1,none⟩ (.int .i64 (ae s t j).at_)).setCell ⟨g,j*4+2,none⟩ v1).setCell ⟨g,j*4+3,none⟩ v2) (iU V t j v1 v2) s:=by
 have z:=bE.frame (V:=V) r h2 u;have n:FK t j (.U t):=rfl;have y:iU V t j v1 v2 (.U t)=V (.U t):=ka V (by simp) (by simp);refine(l.Ku v o z (p:=.U t) (g:=g) n (by rw[k];rfl) (fun c d=>?_) (fun h a=>?_) (fun _ _=>rfl) (fun h q a d m=>?_) (fun _ _ _ _=>rfl) ?_).sub (fun h a=>?_);·rw[Below.heap_setCell _ _ _ _ d,Below.heap_setCell _ _ _ _ d,Below.heap_setCell _ _ _ _ d,Below.heap_setCell _ _ _ _ d]
 ·refine ka V (fun b=>?_) (fun b=>?_);·subst b;exact absurd a.2 (by omega)
  ·subst b;exact absurd a.2 (by omega)
 ·cases h using Key.by with
  |fibers=>exact a.elim
  |out=>exact a.elim
  |frames e=>exact absurd (by rw[show e=t from a]) d
  |locals e f=>cases q using Key.by<;>exact m.elim
  |stack e f=>cases q using Key.by<;>exact m.elim
 ·obtain⟨I,i,B⟩:=l.piece (.U t) n;rw[k]at i;have C:=fj (w':=w1) i (fun c x=>o.block c (i.lt c x).2);have D:=((((C.stored (j*4) (.int .i64 (ae s t j).fn)).1.stored (j*4+1) (.int .i64 (ae s t j).at_)).1.stored (j*4+2) v1).1.stored (j*4+3) v2).1;refine⟨_,by rw[y,k];exact D,fun f A=>?_⟩;have L:I.length=(aa s t).U.length*4:=i.1;obtain⟨E,F,G,H⟩:=B f A;by_cases b:f=j;·subst b;rw[uk,um];refine⟨?_,?_,?_,?_⟩<;>simp[List.getElem?_set]<;>omega
  ·rw[ka V (by simp[b]) (by simp),ka V (by simp) (by simp[b])];simp only[List.getElem?_set];refine⟨?_,?_,?_,?_⟩;·rw[if_neg (by omega),if_neg (by omega),if_neg (by omega),if_neg (by omega)];exact E
   ·rw[if_neg (by omega),if_neg (by omega),if_neg (by omega),if_neg (by omega)];exact F
   ·rw[if_neg (by omega),if_neg (by omega),if_neg (by omega),if_neg (by omega)];exact G
   ·rw[if_neg (by omega),if_neg (by omega),if_neg (by omega),if_neg (by omega)];exact H
 ·cases h using Key.by with
  |fibers=>exact a.elim
  |out=>exact a.elim
  |frames e=>exact .inl a
  |locals e f=>exact(Nat.lt_succ_iff_lt_or_eq.1 a.2).imp (fun b=>⟨a.1,b⟩) (fun b=>⟨a.1,b⟩)
  |stack e f=>exact(Nat.lt_succ_iff_lt_or_eq.1 a.2).imp (fun b=>⟨a.1,b⟩) (fun b=>⟨a.1,b⟩)
def mx(V V1:Key→Value)(t:Nat):Key→Value:=fun a=>if mO t a=true then V1 a else V a
theorem nH(V V1:Key→Value){t:Nat}{k:Key}(a:mO t k=true):mx V V1 t k=V1 k:=if_pos a
theorem jY(V V1:Key→Value){t:Nat}{k:Key}(a:mO t k=false):mx V V1 t k=V k:=if_neg (by rw[a];exact Bool.false_ne_true)
theorem xF{t n:Nat}{k:Key}(a:FK t n k):mO t k=true:=by
 cases k using Key.by with
 |fibers=>exact a.elim
 |out=>exact a.elim
 |frames b=>exact beq_iff_eq.2 a
 |locals b c=>exact beq_iff_eq.2 a.1
 |stack b c=>exact beq_iff_eq.2 a.1
theorem xG{s:St}{t:Nat}{k:Key}(a:LK s t k):mO t k=false:=by
 cases k using Key.by with
 |fibers=>rfl
 |out=>rfl
 |frames b=>exact beq_eq_false_iff_ne.2 (Nat.ne_of_lt a)
 |locals b c=>exact beq_eq_false_iff_ne.2 (Nat.ne_of_lt a.1)
 |stack b c=>exact beq_eq_false_iff_ne.2 (Nat.ne_of_lt a.1)
theorem bE.KM{base:Nat}{w w1:World}{V V1:Key→Value}{s:St}{t g cap:Nat}(o:bE (LK s t) base w V s)(v:base≤w.heap.size)(r:J w w1)(G:t<s.I.length)(m:V .I=.slice (some ⟨g,0,none⟩) s.I.length cap)(u:bE (FK t (aa s t).U.length) w.heap.size w1 V1 s):bE (LK s (t+1)) base ((w1.setCell ⟨g,t*2,none⟩ (V1 (.U t))).setCell ⟨g,t*2+1,none⟩ (.int .i64 (aa s t).caller)) (mx V V1 t) s:=by
 have q:LK s t .I:=trivial;refine(o.Ku v r u (V2:=mx V V1 t) (p:=.I) (g:=g) q (by rw[m];rfl) (fun i k=>?_) (fun f a=>jY V V1 (xG a)) (fun f a=>nH V V1 (xF a)) (fun f j a k b=>?_) (fun f j a b=>?_) ?_).sub (fun f a=>?_);·rw[Below.heap_setCell _ _ _ _ k,Below.heap_setCell _ _ _ _ k]
 ·cases f using Key.by with
  |fibers=>exact absurd rfl k
  |out=>exact a.elim
  |frames c=>
   have n:c<t:=a;cases j using Key.by with
   |fibers=>exact b.elim
   |out=>exact b.elim
   |frames d=>exact b.elim
   |locals h i=>exact jY V V1 (beq_eq_false_iff_ne.2 (by rw[show h=c from b];omega))
   |stack h i=>exact jY V V1 (beq_eq_false_iff_ne.2 (by rw[show h=c from b];omega))
  |locals c d=>cases j using Key.by<;>exact b.elim
  |stack c d=>cases j using Key.by<;>exact b.elim
 ·cases f using Key.by with
  |fibers=>exact a.elim
  |out=>exact a.elim
  |frames c=>
   have n:c=t:=a;cases j using Key.by with
   |fibers=>exact b.elim
   |out=>exact b.elim
   |frames d=>exact b.elim
   |locals h i=>exact nH V V1 (beq_iff_eq.2 (by rw[show h=c from b];exact n))
   |stack h i=>exact nH V V1 (beq_iff_eq.2 (by rw[show h=c from b];exact n))
  |locals c d=>cases j using Key.by<;>exact b.elim
  |stack c d=>cases j using Key.by<;>exact b.elim
 ·obtain⟨E,l,z⟩:=o.piece .I q;rw[m]at l;have A:=fj (w':=w1) l (fun i x=>r.block i (l.lt i x).2);have B:=((A.stored (t*2) (V1 (.U t))).1.stored (t*2+1) (.int .i64 (aa s t).caller)).1;refine⟨_,by rw[jY V V1 rfl,m];exact B,fun d y=>?_⟩;have F:E.length=s.I.length*2:=l.1;obtain⟨C,D⟩:=z d y;by_cases e:d=t;·subst e;rw[nH V V1 (t:=d) (k:=.U d) (beq_iff_eq.2 rfl)];refine⟨?_,?_⟩<;>simp[List.getElem?_set]<;>omega
  ·rw[jY V V1 (t:=t) (k:=.U d) (beq_eq_false_iff_ne.2 e)];simp only[List.getElem?_set];refine⟨?_,?_⟩;·rw[if_neg (by omega),if_neg (by omega)];exact C
   ·rw[if_neg (by omega),if_neg (by omega)];exact D
 ·cases f using Key.by with
  |fibers=>exact .inl trivial
  |out=>exact a.elim
  |frames c=>exact Nat.lt_succ_iff_lt_or_eq.1 a
  |locals c d=>exact(Nat.lt_succ_iff_lt_or_eq.1 a.1).imp (fun e=>⟨e,a.2⟩) (fun e=>⟨e,by rw[←e];exact a.2⟩)
  |stack c d=>exact(Nat.lt_succ_iff_lt_or_eq.1 a.1).imp (fun e=>⟨e,a.2⟩) (fun e=>⟨e,by rw[←e];exact a.2⟩)
theorem bE.whole{base:Nat}{w w1:World}{V:Key→Value}{s:St}{vo:Value}(h:bE (LK s s.I.length) base w V s)(k:base≤w.heap.size)(m:J w w1)(o:w1.ownsRow w.heap.size 3 1 vo s.out.length (ints s.out)):Own base w1 (aC V .out vo) s:=by
 have i:bE (fun a=>a=.out) w.heap.size w1 (aC V .out vo) s:=⟨fun a c=>by subst c;show World.ownsRow _ _ _ _ _ _ _;rw[cj];exact o,fun a d _ c f _ _=>by rw[c,f]⟩;have n:∀a,LK s s.I.length a→a≠.out:=fun a b c=>by subst c;exact b
 have h2:=h.beside k m i (V2:=aC V .out vo) (fun a b=>aB _ _ (n a b)) (fun _ _=>rfl) (fun a d b l=>aB _ _ (fun c=>by subst c;cases a using Key.by<;>exact l)) (fun _ _ _ _=>rfl);have h3:∀a,live s a→(LK s s.I.length a∨a=.out):=fun a b=>by
  cases a using Key.by with
  |fibers=>exact .inl trivial
  |out=>exact .inr rfl
  |frames e=>exact .inl b
  |locals e p=>exact .inl b
  |stack e p=>exact .inl b
 exact⟨fun a b=>h2.piece a (h3 a b),fun a d g b j=>h2.apart a d g (h3 a b) (h3 d j)⟩
theorem bE.KV{base:Nat}{w:World}{V:Key→Value}{s:St}{t:Nat}{xs:List Value}(f:w.ownsRow base 92 4 (V (.U t)) (aa s t).U.length xs)(h2:∀b,b<(aa s t).U.length→xs[b*4]?=some (.int .i64 (ae s t b).fn)∧xs[b*4+1]?=some (.int .i64 (ae s t b).at_)∧xs[b*4+2]?=some (V (.locals t b))∧xs[b*4+3]?=some (V (.stack t b))):bE (FK t 0) base w V s:=by
 have d:∀c,FK t 0 c→c=.U t:=fun c a=>by
  cases c using Key.by with
  |fibers=>exact a.elim
  |out=>exact a.elim
  |frames e=>rw[show e=t from a]
  |locals e i=>exact absurd a.2 (Nat.not_lt_zero _)
  |stack e i=>exact absurd a.2 (Nat.not_lt_zero _)
 exact⟨fun c a=>by rw[d c a];exact⟨xs,f,h2⟩,fun c h _ a g _ _=>by rw[d c a,d h g]⟩
theorem bE.KO{base:Nat}{w:World}{V:Key→Value}{s:St}{xs:List Value}(e:w.ownsRow base 95 2 (V .I) s.I.length xs)(h2:∀b,b<s.I.length→xs[b*2]?=some (V (.U b))∧xs[b*2+1]?=some (.int .i64 (aa s b).caller)):bE (LK s 0) base w V s:=by
 have d:∀c,LK s 0 c→c=.I:=fun c a=>by
  cases c using Key.by with
  |fibers=>rfl
  |out=>exact a.elim
  |frames b=>exact absurd a (Nat.not_lt_zero _)
  |locals b h=>exact absurd a.1 (Nat.not_lt_zero _)
  |stack b h=>exact absurd a.1 (Nat.not_lt_zero _)
 exact⟨fun c a=>by rw[d c a];exact⟨xs,e,h2⟩,fun c g _ a f _ _=>by rw[d c a,d g f]⟩
end Go.Proofs.YtokhibfenccijaaGreatDoor
namespace Go.Proofs.YtokhibfenccijaaGreatDoor
open Go.Proofs.Tryz
open Go.RowKit
theorem rN(t e:TypeId)(i:TypeInfo)(z:Value)(b g:Nat)(C:prog.underlying t=some (.slice e))(q:prog.info? e=some i)(E:i.zero=some z)(y:i.size=b)(m:i.bytes=g)(F:z.cells.size=b)(A:0<b)(base B:Nat)(u:World)(a:Addr)(n cap:Nat)(xs:List Value)(D:xs.length=n*b)(o:∀j f,xs[j]?=some f→u.cell? (a.add j)=some f)(k:∀f∈xs,f.oneCell'=true)(r:n≤maxLen)(s:n*g≤140737488355328)(h:u.heap[B]?=some (.cells #[] e))(l:base≤B):∃d c,(Builtin.append_ #[t,t] t #[.slice (some ⟨B,0,none⟩) 0 0,.slice (some a) n cap]).run prog u=.ok d c∧c.ownsRow base e b d n xs∧u.grownBy c (some B):=by have G:B<u.heap.size:=(Array.getElem?_eq_some_iff.1 h).1;have w:u.ownsRow base e b (.slice (some ⟨B,0,none⟩) 0 0) 0 []:=⟨by simp,.inr ⟨B,0,#[],rfl,l,h,Nat.le_refl _,by decide,by simp,by simp⟩⟩;obtain⟨d,c,x,v,p,_⟩:=run_append_own (P:=prog) u base t t e i z b g C q E y m F A _ 0 [] w a n cap xs D o k (by simpa using r) (by simpa using s) (by omega);exact⟨d,c,x,by simpa using v,p⟩
def kJ(e:TypeId)(c n:Nat)(xs:List Value)(w:World)(b:Ending)(w':World):Prop:=∃a,b=.returned a∧w'.ownsRow w.heap.size e c a n xs∧J w w'
theorem rT(w:World)(t e:TypeId)(a:Option Addr)(l c:Nat)(b:prog.underlying t=some (.slice e)):(binOp .eql t (.slice a l c) (.slice none 0 0)).run prog w=.ok (.bool a.isNone) w:=by simp[binOp,run_equal_slice_nil w t e a l c b]
structure gv(w:World)(e:Option Addr)(xs:List Value):Prop where
 cell:∀c a,xs[c]?=some a→∃b d,e=some ⟨b,d,none⟩∧w.cell? ⟨b,d+c,none⟩=some a
 one:∀a∈xs,a.oneCell'=true
theorem gv.none{w:World}{xs:List Value}(b:gv w Option.none xs):xs=[]:=by
 cases xs with
 |nil=>rfl
 |cons c f=>obtain⟨d,e,a,_⟩:=b.cell 0 c rfl;cases a
theorem gv.at{w:World}{a:Addr}{xs:List Value}(g:gv w (some a) xs):∀b c,xs[b]?=some c→w.cell? (a.add b)=some c:=fun b c i=>by
 obtain⟨d,e,f,h⟩:=g.cell b c i;obtain rfl:=Option.some.inj f;have:((⟨d,e,.none⟩:Addr).add b)=⟨d,e+b,.none⟩:=by unfold Addr.add;split<;>simp_all
 rw[this];exact h
theorem gv.kept{w w':World}{b:Option Addr}{xs:List Value}(a:gv w b xs)(g:J w w'):gv w' b xs:=⟨fun h j f=>by obtain⟨c,i,d,e⟩:=a.cell h j f;exact⟨c,i,d,g.cell e⟩,a.one⟩
theorem pY(n:Nat)(b:Option Addr)(cap:Nat)(xs:List Value)(w:World)(a:gv w b xs)(d:xs.length=n*1)(t:n≤1000):Calls prog 91 #[.slice b n cap] w (kJ 3 1 n xs w):=by
 have u:=fun l=>rT l 30 3 b n cap underlying30;cases b with
 |none=>
  obtain rfl:=a.none;obtain rfl:n=0:=by simp at d;omega
  go_enter func91,ntmps91;go_wp2;go_ret;exact⟨_,rfl,World.ownsRow_nil _ _ _ _,J.refl _⟩
 |some e=>obtain⟨q,g,i,j,k⟩:=info_parts iE;have c:J w (w.alloc (.cells #[] 3)):=(J.refl w).alloc _;obtain⟨s,r,h,p,f⟩:=rN 30 3 q _ 1 8 underlying30 g i j k rfl (by decide) w.heap.size w.heap.size (w.alloc (.cells #[] 3)) e n cap xs d (a.kept c).at a.one (by unfold maxLen;omega) (by omega) (ah rfl) (Nat.le_refl _);have o:J w r:=Below.grown c f (by simp) (fun x m=>by cases m;exact Nat.le_refl _);clear g i j k f c a d;go_enter func91,ntmps91;go_wp2_with(at_builtin;refine ir (v:=.slice (some ⟨w.heap.size,0,none⟩) 0 0) (u:=.slice (some e) n cap) _ rfl _ _ 30 rfl rfl rfl h ?_;clear h);go_ret;exact⟨s,rfl,p,o⟩
theorem zi(n:Nat)(b:Option Addr)(cap:Nat)(xs:List Value)(w:World)(a:gv w b xs)(d:xs.length=n*4)(t:n≤1000):Calls prog 162 #[.slice b n cap] w (kJ 92 4 n xs w):=by
 have u:=fun l=>rT l 93 92 b n cap underlying93;cases b with
 |none=>
  obtain rfl:=a.none;obtain rfl:n=0:=by simp at d;omega
  go_enter func162,ntmps162;go_wp2;go_ret;exact⟨_,rfl,World.ownsRow_nil _ _ _ _,J.refl _⟩
 |some e=>obtain⟨q,g,i,j,k⟩:=info_parts qL;have c:J w (w.alloc (.cells #[] 92)):=(J.refl w).alloc _;obtain⟨s,r,h,p,f⟩:=rN 93 92 q _ 4 64 underlying93 g i j k rfl (by decide) w.heap.size w.heap.size (w.alloc (.cells #[] 92)) e n cap xs d (a.kept c).at a.one (by unfold maxLen;omega) (by omega) (ah rfl) (Nat.le_refl _);have o:J w r:=Below.grown c f (by simp) (fun x m=>by cases m;exact Nat.le_refl _);clear g i j k f c a d;go_enter func162,ntmps162;go_wp2_with(at_builtin;refine ir (v:=.slice (some ⟨w.heap.size,0,none⟩) 0 0) (u:=.slice (some e) n cap) _ rfl _ _ 93 rfl rfl rfl h ?_;clear h);go_ret;exact⟨s,rfl,p,o⟩
theorem zh(n:Nat)(b:Option Addr)(cap:Nat)(xs:List Value)(w:World)(a:gv w b xs)(d:xs.length=n*2)(t:n≤1000):Calls prog 128 #[.slice b n cap] w (kJ 95 2 n xs w):=by
 have u:=fun l=>rT l 42 95 b n cap underlying42;cases b with
 |none=>
  obtain rfl:=a.none;obtain rfl:n=0:=by simp at d;omega
  go_enter func128,ntmps128;go_wp2;go_ret;exact⟨_,rfl,World.ownsRow_nil _ _ _ _,J.refl _⟩
 |some e=>obtain⟨q,g,i,j,k⟩:=info_parts qK;have c:J w (w.alloc (.cells #[] 95)):=(J.refl w).alloc _;obtain⟨s,r,h,p,f⟩:=rN 42 95 q _ 2 32 underlying42 g i j k rfl (by decide) w.heap.size w.heap.size (w.alloc (.cells #[] 95)) e n cap xs d (a.kept c).at a.one (by unfold maxLen;omega) (by omega) (ah rfl) (Nat.le_refl _);have o:J w r:=Below.grown c f (by simp) (fun x m=>by cases m;exact Nat.le_refl _);clear g i j k f c a d;go_enter func128,ntmps128;go_wp2_with(at_builtin;refine ir (v:=.slice (some ⟨w.heap.size,0,none⟩) 0 0) (u:=.slice (some e) n cap) _ rfl _ _ 42 rfl rfl rfl h ?_;clear h);go_ret;exact⟨s,rfl,p,o⟩
theorem qN{w:World}{f:Option Addr}{l:List Int}(g:∀d a,l[d]?=some a→∃c e,f=some ⟨c,e,none⟩∧w.cell? ⟨c,e+d,none⟩=some (.int .i64 a)):gv w f (ints l):=by
 refine⟨fun j k b=>?_,fun k h=>?_⟩;·unfold ints at b;rw[List.getElem?_map]at b;obtain⟨a,i,rfl⟩:=Option.map_eq_some_iff.1 b;exact g j a i
 ·obtain⟨a,_,rfl⟩:=List.mem_map.1 h;rfl
theorem Hb{u l:World}{base e c j k n i:Nat}{v b:Value}{xs m:List Value}(g:u.ownsRow base e j v n xs)(h:l.ownsRow u.heap.size c k b i m):∀a,v.ownBlock=some a→b.ownBlock≠some a:=fun a d f=>by have:=(g.lt a d).2;have:=(h.lt a f).1;omega
def su(x:Fr)(w:World)(d:Ending)(w':World):Prop:=∃a b,d=.returned (.agg #[.int .i64 x.fn,.int .i64 x.at_,a,b])∧w'.ownsRow w.heap.size 3 1 a x.locals.length (ints x.locals)∧w'.ownsRow w.heap.size 3 1 b x.stack.length (ints x.stack)∧(∀c,a.ownBlock=some c→b.ownBlock≠some c)∧J w w'
theorem FB(x:Fr)(a3 a4:Value)(w:World)(b6:bC w a3 x.locals)(b7:bC w a4 x.stack)(b1:x.locals.length≤1000)(h2:x.stack.length≤1000):Calls prog 130 #[.agg #[.int .i64 x.fn,.int .i64 x.at_,a3,a4]] w (su x w):=by
 obtain⟨r,m,rfl,_,W⟩:=b6;obtain⟨s,n,rfl,_,X⟩:=b7;have O:Hid (∀b,J w b→Calls prog 91 #[.slice r x.locals.length m] b (kJ 3 1 x.locals.length (ints x.locals) b)):=R (fun b B=>pY _ r m _ b ((qN W).kept B) (by rw[ij,Nat.mul_one]) b1);have P:Hid (∀b,J w b→Calls prog 91 #[.slice s x.stack.length n] b (kJ 3 1 x.stack.length (ints x.stack) b)):=R (fun b B=>pY _ s n _ b ((qN X).kept B) (by rw[ij,Nat.mul_one]) h2);generalize b2:x.locals.length=c at*;generalize b3:x.stack.length=d at*;clear W X;go_enter func130,ntmps130;go_wp2_with fail;generalize C:((w.alloc (.cells #[.int .i64 x.fn,.int .i64 x.at_,.slice r c m,.slice s d n] 92)).alloc (.cells #[.int .i64 0,.int .i64 0,.slice none 0 0,.slice none 0 0] 92))=w2;have M:J w w2:=by rw[←C];exact((J.refl w).alloc _).alloc _
 have c6:w2.heap.size=w.heap.size+2:=by rw[←C];simp
 have Z:w2.heap[w.heap.size]?=some (.cells #[.int .i64 x.fn,.int .i64 x.at_,.slice r c m,.slice s d n] 92):=by rw[←C];exact au (ah rfl) _
 have Y:w2.heap[w.heap.size+1]?=some (.cells #[.int .i64 0,.int .i64 0,.slice none 0 0,.slice none 0 0] 92):=by rw[←C];exact ah (by simp)
 clear C;have L:∀b,J w2 b→b.cell? ⟨w.heap.size,0,none⟩=some (.int .i64 x.fn)∧b.cell? ⟨w.heap.size,1,none⟩=some (.int .i64 x.at_)∧b.cell? ⟨w.heap.size,2,none⟩=some (.slice r c m)∧b.cell? ⟨w.heap.size,3,none⟩=some (.slice s d n):=fun b B=>have H:=aw B Z;⟨ab H 0,ab H 1,ab H 2,ab H 3⟩;have F:=R L;refine eW 11 [0,1,2,3,4,5,7,8] (fun b=>b.cell? ⟨w.heap.size,0,none⟩=some (.int .i64 x.fn)∧b.cell? ⟨w.heap.size,1,none⟩=some (.int .i64 x.at_)∧b.cell? ⟨w.heap.size,2,none⟩=some (.slice r c m)∧b.cell? ⟨w.heap.size,3,none⟩=some (.slice s d n)) (by kernel_rfl) ?_;have Q:=L w2 (J.refl w2);clear L;repeat
  refine cN (v:=?_) Q (fun b b4=>?_) ?_;rotate_left;·((try dsimp only at b4);go_simp)<;>with_reducible rfl
  try simp only[PS]
 refine dc ?_;refine az (i:=6) rfl (by kernel_rfl) (fun K e=>?_);go_simp;refine((U O) _ (M.drew)).mono ?_;rintro t a5⟨c7,rfl,q,T⟩;obtain⟨k,h,rfl,_⟩:=aR q;have o:J w2 a5:=((J.refl w2).drew).trans T;refine e.out _ _ (fun _=>(U F) a5 o) ?_;clear e K;try simp only[PS]
 refine az (i:=9) rfl (by kernel_rfl) (fun K e=>?_);go_simp;refine((U P) _ (M.trans o)).mono ?_;rintro t E⟨c8,rfl,A,N⟩;obtain⟨l,j,rfl,_⟩:=aR A;have u:J w2 E:=o.trans N;refine e.out _ _ (fun _=>(U F) E u) ?_;clear e K;try simp only[PS]
 refine az (i:=10) rfl (by kernel_rfl) (fun K e=>?_);go_simp;refine e.out _ _ (fun _=>(U F) E u) ?_;clear e K;try simp only[PS]
 have f:=aw u Y;have b8:=ab f 0;have b9:=ab f 1;have c0:=ab f 2;have c1:=ab f 3;have a6:=an f 0;have a7:=an f 1;have a8:=an f 2;have a9:=an f 3;refine az (i:=11) rfl (by kernel_rfl) (fun K e=>?_);go_simp;refine e.out _ _ (fun b0=>absurd rfl b0) ?_;clear e K;refine df (by kernel_rfl) ?_ _;have D:=ay (ay (ay (ay f 0 (.int .i64 x.fn)) 1 (.int .i64 x.at_)) 2 (.slice k c h)) 3 (.slice l d j);have y:(Value.slice k c h).ownBlock≠some (w.heap.size+1):=fun t=>by have:=(q.lt _ t).1;simp at this;omega
 have z:(Value.slice l d j).ownBlock≠some (w.heap.size+1):=fun t=>by have:=(A.lt _ t).1;have:=o.size;omega
 have S:=Hb q A;have a0:=fj (w':=E) q (fun g b5=>N.block g (q.lt g b5).2);have a1:=ownsRow_setCell_other (ownsRow_setCell_other (ownsRow_setCell_other (ownsRow_setCell_other (kr (base:=w.heap.size) a0 (by simp;omega)) (a:=⟨w.heap.size+1,0,none⟩) y (.int .i64 x.fn)) (a:=⟨w.heap.size+1,1,none⟩) y (.int .i64 x.at_)) (a:=⟨w.heap.size+1,2,none⟩) y (.slice k c h)) (a:=⟨w.heap.size+1,3,none⟩) y (.slice l d j);have a2:=ownsRow_setCell_other (ownsRow_setCell_other (ownsRow_setCell_other (ownsRow_setCell_other (kr (base:=w.heap.size) A (by have:=o.size;omega)) (a:=⟨w.heap.size+1,0,none⟩) z (.int .i64 x.fn)) (a:=⟨w.heap.size+1,1,none⟩) z (.int .i64 x.at_)) (a:=⟨w.heap.size+1,2,none⟩) z (.slice k c h)) (a:=⟨w.heap.size+1,3,none⟩) z (.slice l d j);have V:=((((M.trans u).setCell (p:=⟨w.heap.size+1,0,none⟩) (Nat.le_succ _) (.int .i64 x.fn)).setCell (p:=⟨w.heap.size+1,1,none⟩) (Nat.le_succ _) (.int .i64 x.at_)).setCell (p:=⟨w.heap.size+1,2,none⟩) (Nat.le_succ _) (.slice k c h)).setCell (p:=⟨w.heap.size+1,3,none⟩) (Nat.le_succ _) (.slice l d j);generalize((((E.setCell ⟨w.heap.size+1,0,none⟩ (.int .i64 x.fn)).setCell ⟨w.heap.size+1,1,none⟩ (.int .i64 x.at_)).setCell ⟨w.heap.size+1,2,none⟩ (.slice k c h)).setCell ⟨w.heap.size+1,3,none⟩ (.slice l d j))=I at*;have c2:I.cell? ⟨w.heap.size+1,0,none⟩=some (.int .i64 x.fn):=ab D 0;have c3:I.cell? ⟨w.heap.size+1,1,none⟩=some (.int .i64 x.at_):=ab D 1;have c4:I.cell? ⟨w.heap.size+1,2,none⟩=some (.slice k c h):=ab D 2;have c5:I.cell? ⟨w.heap.size+1,3,none⟩=some (.slice l d j):=ab D 3;have G:=R (And.intro a1 (And.intro a2 (And.intro S V)));clear a1 a2 S V a0 y z D b8 b9 c0 c1 a6 a7 a8 a9 q A T N o u f Q F O P Z Y;go_wp2;refine bodyPost_ret (v:=.agg #[.int .i64 x.fn,.int .i64 x.at_,.slice k c h,.slice l d j]) (by simp[results,results130,go_sem,c2,c3,c4,c5]) rfl ?_;exact⟨_,_,rfl,by rw[b2];exact(U G).1,by rw[b3];exact(U G).2.1,(U G).2.2.1,(U G).2.2.2⟩
def mB(s:St)(t:Nat)(A:Nat→Value×Value)(k:Nat):Value:=if k%4=0 then .int .i64 (ae s t (k/4)).fn else if k%4=1 then .int .i64 (ae s t (k/4)).at_ else if k%4=2 then(A (k/4)).1 else(A (k/4)).2
def iB(s:St)(t:Nat)(A:Nat→Value×Value):List Value:=(List.range ((aa s t).U.length*4)).map (mB s t A)
theorem uj(s:St)(t:Nat)(A:Nat→Value×Value):(iB s t A).length=(aa s t).U.length*4:=by simp[iB]
theorem mC(s:St)(t:Nat)(A:Nat→Value×Value){k:Nat}(a:k<(aa s t).U.length*4):(iB s t A)[k]?=some (mB s t A k):=by simp[iB,List.getElem?_range a]
theorem BO(s:St)(t:Nat)(A:Nat→Value×Value){j:Nat}(i:j<(aa s t).U.length):(iB s t A)[j*4]?=some (.int .i64 (ae s t j).fn)∧(iB s t A)[j*4+1]?=some (.int .i64 (ae s t j).at_)∧(iB s t A)[j*4+2]?=some (A j).1∧(iB s t A)[j*4+3]?=some (A j).2:=by
 rw[mC s t A (by omega),mC s t A (by omega),mC s t A (by omega),mC s t A (by omega)];unfold mB;have a:j*4/4=j:=by omega
 have b:(j*4+1)/4=j:=by omega
 have c:(j*4+2)/4=j:=by omega
 have d:(j*4+3)/4=j:=by omega
 have e:j*4%4=0:=by omega
 have f:(j*4+1)%4=1:=by omega
 have g:(j*4+2)%4=2:=by omega
 have h:(j*4+3)%4=3:=by omega
 simp[a,b,c,d,e,f,g,h]
theorem BR{s:St}{t:Nat}{v:Value}{w:World}(k:fD w v (aa s t).U):∃g j e,v=.slice g (aa s t).U.length j∧gv w g (iB s t e)∧∀a,a<(aa s t).U.length→bC w (e a).1 (ae s t a).locals∧bC w (e a).2 (ae s t a).stack:=by
 obtain⟨g,j,A,_,E⟩:=k;have D:∀a:Nat,∃h:Value×Value,a<(aa s t).U.length→∃b d,g=some ⟨b,d,none⟩∧w.cell? ⟨b,d+a*4,none⟩=some (.int .i64 (ae s t a).fn)∧w.cell? ⟨b,d+a*4+1,none⟩=some (.int .i64 (ae s t a).at_)∧w.cell? ⟨b,d+a*4+2,none⟩=some h.1∧w.cell? ⟨b,d+a*4+3,none⟩=some h.2∧bC w h.1 (ae s t a).locals∧bC w h.2 (ae s t a).stack:=fun a=>by
  by_cases i:a<(aa s t).U.length;·obtain⟨b,d,G,H,l,h2⟩:=E a (ae s t a) (aD (aa s t).U a Fr.zero i);exact⟨(G,H),fun _=>⟨b,d,l,h2⟩⟩
  ·exact⟨(.slice none 0 0,.slice none 0 0),fun k=>absurd k i⟩
 obtain⟨e,m⟩:=Classical.axiomOfChoice D;refine⟨g,j,e,A,⟨fun c I f=>?_,fun I F=>?_⟩,fun a i=>?_⟩
 ·have u:c<(aa s t).U.length*4:=by rw[←uj s t e];exact(List.getElem?_eq_some_iff.1 f).1
  obtain⟨b,d,r,n,o,p,q,_⟩:=m (c/4) (by omega);refine⟨b,d,r,?_⟩;rw[mC s t e u]at f;obtain rfl:=Option.some.inj f;unfold mB;have K:c=c/4*4+c%4:=by omega
  have L:c%4<4:=Nat.mod_lt _ (by decide);by_cases x:c%4=0;·rw[if_pos x,←n];congr 2;omega
  ·rw[if_neg x];by_cases y:c%4=1;·rw[if_pos y,←o];congr 2;omega
   ·rw[if_neg y];by_cases z:c%4=2;·rw[if_pos z,←p];congr 2;omega
    ·rw[if_neg z,←q];congr 2;omega
 ·obtain⟨c,f,rfl⟩:=List.mem_map.1 F;have u:=List.mem_range.1 f;obtain⟨b,d,r,n,o,p,q,⟨_,_,B,_⟩,⟨_,_,C,_⟩⟩:=m (c/4) (by omega);unfold mB;split;·rfl
  ·split;·rfl
   ·split;·rw[B];rfl
    ·rw[C];rfl
 ·obtain⟨b,d,_,_,_,_,_,l,h2⟩:=m a i;exact⟨l,h2⟩
def pE(s:St)(t:Nat)(w:World)(a:Ending)(w':World):Prop:=∃V,a=.returned (V (.U t))∧bE (FK t (aa s t).U.length) w.heap.size w' V s∧J w w'
def fS(s:St)(t:Nat)(A:Nat→Value×Value)(v:Value)(w:World)(k:Nat)(w':World):Prop:=∃V:Key→Value,V (.U t)=v∧bE (FK t k) w.heap.size w' V s∧(∀a,k≤a→V (.locals t a)=(A a).1∧V (.stack t a)=(A a).2)∧J w w'
theorem fS.start{s:St}{t:Nat}{A:Nat→Value×Value}{v:Value}{w w':World}(b:w'.ownsRow w.heap.size 92 4 v (aa s t).U.length (iB s t A))(d:J w w'):fS s t A v w 0 w':=by refine⟨fun|some (some (.inr (.inl (_,a))))=>(A a).1|some (some (.inr (.inr (_,a))))=>(A a).2|_=>v,rfl,bE.KV b (fun a c=>BO s t A c),fun a _=>⟨rfl,rfl⟩,d⟩
theorem fS.next{s:St}{t g cap k:Nat}{A:Nat→Value×Value}{w w1 w2:World}{v1 v2:Value}(i:fS s t A (.slice (some ⟨g,0,none⟩) (aa s t).U.length cap) w k w1)(m:k<(aa s t).U.length)(n:su (ae s t k) w1 (.returned (.agg #[.int .i64 (ae s t k).fn,.int .i64 (ae s t k).at_,v1,v2])) w2):fS s t A (.slice (some ⟨g,0,none⟩) (aa s t).U.length cap) w (k+1) ((((w2.setCell ⟨g,k*4,none⟩ (.int .i64 (ae s t k).fn)).setCell ⟨g,k*4+1,none⟩ (.int .i64 (ae s t k).at_)).setCell ⟨g,k*4+2,none⟩ v1).setCell ⟨g,k*4+3,none⟩ v2):=by
 obtain⟨V,b,e,o,d⟩:=i;obtain⟨u1,u2,f,j,h2,l,c⟩:=n;have h:u1=v1∧u2=v2:=by simpa using f.symm
 obtain⟨rfl,rfl⟩:=h;have a:w.heap.size≤g:=((e.piece (.U t) rfl).block g (by rw[b];rfl)).1;refine⟨iU V t k u1 u2,by rw[ka V (by simp) (by simp)];exact b,e.KU d.size c m b j h2 l,fun q r=>?_,?_⟩;·rw[ka V (by simp;omega) (by simp),ka V (by simp) (by simp;omega)];exact o q (by omega)
 ·exact((((d.trans c).setCell (p:=⟨g,k*4,none⟩) a _).setCell (p:=⟨g,k*4+1,none⟩) a _).setCell (p:=⟨g,k*4+2,none⟩) a _).setCell (p:=⟨g,k*4+3,none⟩) a _
theorem fS.cells{s:St}{t g cap k:Nat}{A:Nat→Value×Value}{w w1:World}(m:fS s t A (.slice (some ⟨g,0,none⟩) (aa s t).U.length cap) w k w1)(p:k<(aa s t).U.length):w1.cell? ⟨g,k*4,none⟩=some (.int .i64 (ae s t k).fn)∧w1.cell? ⟨g,k*4+1,none⟩=some (.int .i64 (ae s t k).at_)∧w1.cell? ⟨g,k*4+2,none⟩=some (A k).1∧w1.cell? ⟨g,k*4+3,none⟩=some (A k).2∧g<w1.heap.size∧∀a,w1.frozen? ⟨g,a,none⟩=false:=by
 obtain⟨V,o,q,h,E⟩:=m;obtain⟨y,i,u⟩:=q.piece (.U t) rfl;obtain⟨v,x,j,l⟩:=u k p;rw[(h k (Nat.le_refl _)).1]at j;rw[(h k (Nat.le_refl _)).2]at l;rw[o]at i;rcases i with⟨G,⟨n,_⟩|⟨C,z,B,f,_,d,F,_,D,r⟩⟩;·cases n
 ·simp only[Value.slice.injEq,Option.some.injEq,Addr.mk.injEq]at f;obtain⟨⟨rfl,_⟩,_⟩:=f;have b:∀a e,y[a]?=some e→w1.cell? ⟨g,a,none⟩=some e:=fun a e c=>by
   rw[ab d a,←Array.getElem?_toList];rw[←r,List.getElem?_take]at c;split at c;·exact c
   ·cases c
  exact⟨b _ _ v,b _ _ x,b _ _ j,b _ _ l,(Array.getElem?_eq_some_iff.1 d).1,fun a=>an d a⟩
theorem AX(s:St)(t:Nat)(v:Value)(w:World)(M:fD w v (aa s t).U)(b0:(aa s t).U.length≤1000)(Z:∀f,f<(aa s t).U.length→(ae s t f).locals.length≤1000∧(ae s t f).stack.length≤1000):Calls prog 129 #[v,.func (.func 130) #[] #[]] w (pE s t w):=by
 obtain⟨b2,p,b,rfl,P,N⟩:=BR M;have D:=R (zi _ b2 p _ w P (uj s t b) b0);have C:=R N;have F:=R Z;have G:=R (fun(v:Value)(c:World)=>fS.start (s:=s) (t:=t) (A:=b) (v:=v) (w:=w) (w':=c));have a2:Hid (∀v c,fS s t b v w (aa s t).U.length c→pE s t w (.returned v) c):=R (fun v c⟨V,n,o,_,T⟩=>⟨V,by rw[n],o,T⟩);have a6:Hid (∀a c x h,a<(aa s t).U.length→fS s t b (.slice x (aa s t).U.length h) w a c→∃g,x=some ⟨g,0,none⟩):=R (fun a c x h T⟨V,n,o,_,_⟩=>by
  obtain⟨c8,j,_⟩:=o.piece (.U t) rfl;rw[n]at j;rcases j.2 with⟨_,m⟩|⟨g,b7,b8,m,_⟩;·omega
  ·simp only[Value.slice.injEq]at m;exact⟨g,m.1⟩);have a1:=R (fun(g h a:Nat)(c:World)=>fS.cells (s:=s) (t:=t) (g:=g) (cap:=h) (k:=a) (A:=b) (w:=w) (w1:=c));have a7:=R (fun(g h a:Nat)(w1 w2:World)(B a0:Value)=>fS.next (s:=s) (t:=t) (g:=g) (cap:=h) (k:=a) (A:=b) (w:=w) (w1:=w1) (w2:=w2) (v1:=B) (v2:=a0));clear M P N Z;generalize c3:(aa s t).U.length=i at*;go_enter func129,ntmps129;go_wp2_with fail;refine(U D).mono ?_;rintro m w1⟨B,rfl,u,W⟩;obtain⟨y,l,rfl,_⟩:=aR u;have a4:Hid (fS s t b (.slice y i l) w 0 w1):=R ((U G) _ _ u W);clear u W D G;go_wp2;go_loopw[10](fun A wr=>∃a:Nat,a≤i∧A=.int .i64 a∧Hid (fS s t b (.slice y i l) w a wr))(fun A _=>i-(intOf A).toNat);case atStart=>exact⟨0,Nat.zero_le _,rfl,a4⟩
 case round=>
  obtain⟨a,c4,rfl,k⟩:=hrel;by_cases e:a<i
  ·obtain⟨g,rfl⟩:=(U a6) a wr y l e (U k);obtain⟨H,I,K,L,S,Q⟩:=(U a1) g l a wr (U k) e;obtain⟨V,n,o,b1,r⟩:=id (U k);have Y:=FB (ae s t a) _ _ wr (((U C) a e).1.kept r) (((U C) a e).2.kept r) ((U F) a e).1 ((U F) a e).2;have E:=R Y;clear Y n o b1 r V;go_wp2_with fail;refine(U E).mono ?_;rintro m w2⟨u1,u2,rfl,j,z,O,d⟩;obtain⟨c6,b5,rfl,_⟩:=aR j;obtain⟨c7,b6,rfl,_⟩:=aR z;have a5:=R ((U a7) g l a wr w2 _ _ (U k) e ⟨_,_,rfl,j,z,O,d⟩);have b9:=d.cell H;have c0:=d.cell I;have c1:=d.cell K;have c2:=d.cell L;have c5:∀f,w2.frozen? ⟨g,f,none⟩=false:=fun f=>by have:=Q f;unfold World.frozen? at this⊢;rw[d.block g S];exact this
   clear E j z O d H I K L Q S;generalize a8:(ae s t a).locals.length=b3 at*;generalize a9:(ae s t a).stack.length=b4 at*;clear a8 a9;go_wp2;go_roundw;case rel=>exact⟨a+1,by omega,by go_num,a5⟩
   case measure=>simp[intOf];omega
  ·have X:a=i:=by omega
   have q:=U k;rw[X]at q;have a3:=R q;clear X q;go_wp2;go_ret;exact(U a2) _ _ (U a3)
