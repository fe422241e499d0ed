import Derived.Test.YtokhibfenccijaaGreatDoorQB44
set_option maxRecDepth 100000
set_option maxHeartbeats 8000000
namespace Go.Proofs.YtokhibfenccijaaGreatDoor
open Go.Proofs.Tryz
open Go.RowKit Go.Maps
def iv(w1 wr:World)(v:Value)(p:List Fn):Prop:=J w1 wr∧∃a,cx w1.heap.size a wr v p
def ft(P:List Fn)(b:List UInt8)(z:Int)(j:Nat):List Fn:=match dW b with|some a=>if a<j then fI P ((a:Int),max 0 z)else P|none=>P
theorem Ed(P:List Fn)(a:List UInt8)(z:Int):ft P a z 0=P:=by
 unfold ft;split;·rw[if_neg (by omega)]
 ·rfl
theorem DZ(P:List Fn)(a:List UInt8)(z:Int):ft P a z 17=match dW a with|some b=>fI P ((b:Int),max 0 z)|none=>P:=by
 unfold ft;cases c:dW a with
 |none=>rfl
 |some b=>have:=uS c;simp only;rw[if_pos this]
theorem Ea(P:List Fn)(z:Int)(j:Nat)(a:j<17):ft P (aJ.getD j ([],0)).1 z j=P∧ft P (aJ.getD j ([],0)).1 z (j+1)=fI P ((j:Int),max 0 z):=by unfold ft;rw[pr j a];simp only;rw[if_neg (by omega),if_pos (by omega)];exact⟨rfl,rfl⟩
theorem Eb(P:List Fn)(a:List UInt8)(z:Int)(j:Nat)(e:(aJ.getD j ([],0)).1≠a):ft P a z (j+1)=ft P a z j:=by
 unfold ft;cases f:dW a with
 |none=>rfl
 |some c=>
  have:c≠j:=fun d=>e (by rw[←d];exact uT f);simp only;by_cases b:c<j;·rw[if_pos b,if_pos (by omega)]
  ·rw[if_neg b,if_neg (by omega)]
theorem Ec(a:List UInt8)(z:Int)(j:Nat):ft [] a z j=[]:=by
 unfold ft;split
 ·split;·exact xZ _
  ·rfl
 ·rfl
theorem Gs(w:World)(l:List UInt8)(o4:l.length≤8192)(j3:Hid (∀d c1 m7,aK d c1 m7→Calls prog 46 #[c1] d fun u G=>u=.returned (.int .i64 (aL m7))∧J d G)):Calls prog 21 #[.string ⟨l.toArray⟩] w fun u G=>∃F T k1,u=.returned (.tuple #[.slice F T k1,.bool (ie l).2])∧aK G (.slice F T k1) (ie l).1∧J w G:=by
 have g4:=R (rP w l 10 (by omega));rw[show((10:UInt8).toNat:Nat)=10 from rfl]at g4;have n6:=R o4;generalize l1:(ByteArray.mk l.toArray)=c9 at*;have j4:=R l1;clear l1;go_enter func21,ntmps21;go_wp2_with fail;refine(U g4).mono ?_;rintro _ o⟨s2,rfl,l9,m3⟩;obtain⟨o1,p7,p8,rfl,i9⟩:=sp l9 (gV 10 l);have n5:=R m3;have g3:=R i9;have q2:=wZ 10 l;generalize k9:(ao 10 l).length=T at*;have b3:=R k9;clear l9 m3 g4 k9 i9;go_wp2_with fail;have i7:Hid (iv o o (.slice none 0 0) (eN l 0)):=R ⟨J.refl _,_,cx.nil _ _ (Nat.le_refl _)⟩;go_loopw[4,6](fun o7 i2 wr=>∃f:Nat,f≤T∧i2=.int .i64 (f:Int)∧Hid (iv o wr o7 (eN l f)))(fun _ i2 _=>T-(intOf i2).toNat);case atStart=>exact⟨0,Nat.zero_le _,rfl,i7⟩
 case round=>
  obtain⟨f,q8,rfl,H⟩:=hrel;clear i7;have q6:(0:Int)≤(f:Int):=by omega
  by_cases o3:f<T
  ·obtain⟨k,e8⟩:∃k,(ao 10 l)[f]?=some k:=⟨_,List.getElem?_eq_getElem (by rw[U b3];exact o3)⟩;have q7:(f:Int)<(T:Int):=by omega
   have o2:wr.cell? ⟨o1,f,none⟩=some (.string ⟨k.toArray⟩):=by rw[ab (aw (U H).1 (U g3).1)];exact(U g3).2 f k e8
   have r7:k.length≤8192:=by have:=rW 10 l k (List.mem_of_getElem? e8);have:=U n6;omega
   have j9:=R e8;clear e8;have g5:=R fun d=>rP d k 32 (by omega);rw[show((32:UInt8).toNat:Nat)=32 from rfl]at g5;generalize(ByteArray.mk k.toArray)=p4 at*;go_wp2_with fail;refine((U g5) wr).mono ?_;rintro _ e9⟨o8,rfl,h8,z⟩;clear g5;obtain⟨s3,a3,E,m0,l7⟩:=Ha wr.heap.size e9 o8 (ao 32 k) h8 z.size (by have:=wZ 32 k;omega);have N:J wr a3:=Below.trans z l7;obtain⟨s0,p5,rfl,_⟩:=iG h8;obtain⟨r,q0,q,rfl,C⟩:=sp m0 (by simp);have r4:1≤(ao 32 k).length:=by
    have:=gV 32 k;cases h6:ao 32 k with
    |nil=>exact absurd h6 this
    |cons=>simp
   have m2:∀g,((ao 32 k++[[],[]]).getD g []).length≤100000:=fun g=>by
    rw[List.getD_eq_getElem?_getD];cases e7:(ao 32 k++[[],[]])[g]? with
    |none=>simp
    |some b0=>
     rcases List.mem_append.1 (List.mem_of_getElem? e7)with e|e;·have:=rW 32 k b0 e;simp only[Option.getD_some];omega
     ·simp at e;subst e;simp
   have a0:=(ab C.1 0).trans (C.2 0 _ (kY (by simp)));have a1:=(ab C.1 1).trans (C.2 1 _ (kY (by simp)));have a2:=(ab C.1 2).trans (C.2 2 _ (kY (by simp;omega)));have k3:=C.2 0 _ (kY (by simp));have g8:=C.2 1 _ (kY (by simp));have g9:=C.2 2 _ (kY (by simp;omega));have g1:Hid (eN l (f+1)=fk (eN l f) (ao 32 k++[[],[]])):=R (ur (U j9));have c7:Hid (mm f (eN l f)):=R (qx l f (by rw[U b3];omega));have g6:=R C.1;have b1:Hid (iv o a3 u4 (eN l f)):=R ⟨(U H).1.trans N,by obtain⟨x,m⟩:=(U H).2;exact⟨x,m.kept N⟩⟩;have Q:=R E;have j8:=R m2;generalize(ao 32 k).length=i1 at*;have r5:(2:Int)<(i1:Int)+2:=by omega
   have r6:(1:Int)<(i1:Int)+2:=by omega
   have r3:(0:Int)<(i1:Int)+2:=by omega
   clear E h8 m0 z N l7 C m2 o2 H j9;unfold aG at a0 a1 a2 k3 g8 g9;generalize ao 32 k++[[],[]]=j at*;generalize eN l f=t at*;have j1:Hid (∀d,Calls prog 44 #[.string ⟨(j.getD 1 []).toArray⟩] d fun u G=>u=.returned (.int .i64 (dy (j.getD 1 [])))∧J d G):=R fun d=>rq d _ ((U j8) 1);have j2:Hid (∀d,Calls prog 44 #[.string ⟨(j.getD 2 []).toArray⟩] d fun u G=>u=.returned (.int .i64 (dy (j.getD 2 [])))∧J d G):=R fun d=>rq d _ ((U j8) 2);have j7:Hid (j.getD 0 []=[102,117,110,99]→fk t j=t++[⟨dy (j.getD 1 []),dy (j.getD 2 []),[]⟩]):=R fun e=>by unfold fk;rw[if_pos e]
   have c6:Hid (j.getD 0 []≠[102,117,110,99]→fk t j=match dW (j.getD 0 [])with|some h=>fI t ((h:Int),max 0 (dy (j.getD 1 [])))|none=>t):=R fun e=>by unfold fk;rw[if_neg e];cases dW (j.getD 0 [])<;>rfl
   generalize a6:(ByteArray.mk (j.getD 0 []).toArray)=e0 at*;generalize(ByteArray.mk (j.getD 1 []).toArray)=p2 at*;generalize(ByteArray.mk (j.getD 2 []).toArray)=p3 at*;generalize dy (j.getD 1 [])=B at*;generalize dy (j.getD 2 [])=i6 at*;generalize j.getD 0 []=Z at*;obtain⟨V,M,rfl⟩:∃F b4,u4=.slice F t.length b4:=by obtain⟨_,_,_,_,b4,h7,_⟩:=U b1;obtain⟨F,g7,u,_⟩:=iG h7;exact⟨F,g7,u⟩
   go_wp2_with(at_builtin;refine U ?_);refine R ?_;refine ir _ rfl _ _ 38 rfl rfl rfl (U Q) ?_;clear Q;by_cases a7:Z=[102,117,110,99]
   ·have h6:(e0.toList==[102,117,110,99])=true:=by rw[←a6,ByteArray.toList_mk,a7];rfl
    go_wp2_with fail;have c4:Hid (J o a3.drew∧a3.drew.heap[r]?=some (.cells q 9)):=R ⟨(U b1).1.drew,U g6⟩;refine wp_region_held_drew (S:=fun b0=>J o b0∧b0.heap[r]?=some (.cells q 9)) (by kernel_rfl) (U c4) (fun c=>?_);refine bQ [0,1,2,3,5,6,7] ?_;repeat
     refine bS (v:=?_) c (fun d X=>?_) ?_;rotate_left;·(have i5:=(ab X.2 1).trans g8;have p0:=(ab X.2 2).trans g9;(try dsimp only at i5 p0);go_simp)<;>with_reducible rfl
     try simp only[PS]
    refine bO ?_;refine take_one (i:=4) rfl (by kernel_rfl) (fun b a=>?_);go_simp;refine((U j1) _).mono ?_;rintro _ s⟨rfl,n⟩;have l2:J o s∧s.heap[r]?=some (.cells q 9):=⟨c.1.trans n,aw n c.2⟩;refine a.out _ _ l2 (fun c=>?_);clear a b;try simp only[PS]
    refine take_one (i:=8) rfl (by kernel_rfl) (fun b a=>?_);go_simp;refine((U j2) _).mono ?_;rintro _ A⟨rfl,Y⟩;have p:J o A∧A.heap[r]?=some (.cells q 9):=⟨c.1.trans Y,aw Y c.2⟩;obtain⟨x,m⟩:=(U b1).2;have h3:=(m.kept ((J.refl a3).drew)).kept (n.trans Y);obtain⟨o9,O,E,b8,b7,_⟩:=h3.addFn (by have:=(U c7).1;omega) B i6;have m1:=h3.KG (by have:=(U c7).1;omega) _ _ E;have y:J o O∧O.heap[r]?=some (.cells q 9):=⟨Below.trans p.1 b7,m1 _ _ p.2⟩;have l3:J o (A.alloc (.cells #[.int .i64 B,.int .i64 i6,.slice none 0 0] 69))∧(A.alloc (.cells #[.int .i64 B,.int .i64 i6,.slice none 0 0] 69)).heap[r]?=some (.cells q 9):=⟨p.1.alloc _,au p.2 _⟩;have L:Hid (iv o O o9 (eN l (f+1))):=R ⟨y.1,_,by rw[U g1,(U j7) a7];exact b8⟩;have Q:=R E;have n8:=R p;have n9:=R l3;have a5:=R y;clear E b8 b7 m1 h3 m n Y l2 p l3 y a0 a1 a2 a7;refine a.out _ _ (U n8) (fun c=>?_);clear a b;try simp only[PS]
    refine take_one (i:=9) rfl (by kernel_rfl) (fun b a=>?_);go_simp;refine a.out _ _ c (fun c=>?_);clear a b;try simp only[PS]
    refine take_one (i:=10) rfl (by kernel_rfl) (fun b a=>?_);go_simp;refine a.out _ _ (U n9) (fun c=>?_);clear a b;try simp only[PS]
    refine take_one (i:=11) rfl (by kernel_rfl) (fun b a=>?_);rw[if_pos (by rfl)];refine eb _ _ _ 27 rfl rfl rfl (U Q) ?_;refine a.out _ _ (U a5) (fun c=>?_);clear a b Q;try simp only[PS]
    refine take_one (i:=12) rfl (by kernel_rfl) (fun b a=>?_);go_simp;refine a.out _ _ c (fun c=>?_);clear a b;try simp only[PS]
    refine wpAnyH_done (by kernel_rfl) ?_ _;clear c;go_wp2_with fail;go_roundw;case rel=>exact⟨f+1,by omega,by go_num,L⟩
    case measure=>simp[intOf];omega
   ·have h6:(e0.toList==[102,117,110,99])=false:=by rw[←a6,ByteArray.toList_mk];simpa using a7
    clear j7 j2 a1 a2 g9;go_wp2_with fail;go_loopw[8](fun i3 n1=>∃g:Nat,g≤17∧i3=.int .i64 (g:Int)∧Hid (iv o n1 (.slice V t.length M) (ft t Z B g)∧n1.heap[r]?=some (.cells q 9)))(fun i3 _=>17-(intOf i3).toNat);case atStart=>exact⟨0,Nat.zero_le _,rfl,R ⟨by rw[Ed];exact U b1,U g6⟩⟩
    case round=>
     obtain⟨g,q5,rfl,I⟩:=hrel;have q3:(0:Int)≤(g:Int):=by omega
     clear b1 g6 a0;by_cases e7:g<17
     ·have q4:(g:Int)<17:=by omega
      by_cases h5:t=[]
      ·subst h5;simp only[List.length_nil]at I⊢;go_wp2_with fail;refine(mN _).mono ?_;rintro _ s⟨k5,rfl,-,n⟩;have L:Hid (iv o s (.slice V 0 M) (eN l (f+1))):=R (by
        have e:=(U I).1;have e1:fk [] j=[]:=by rw[(U c6) a7];cases dW Z<;>rfl
        rw[Ec]at e;rw[U g1,e1];exact⟨e.1.trans n,by obtain⟨x,m⟩:=e.2;exact⟨x,m.kept n⟩⟩);clear n c6;go_wp2_with fail;go_roundw;case rel=>exact⟨f+1,by omega,by go_num,L⟩
       case measure=>simp[intOf];omega
      ·obtain⟨i,v,rfl⟩:∃i v,t=i++[v]:=⟨t.dropLast,t.getLast h5,(List.dropLast_concat_getLast h5).symm⟩;simp only[List.length_append,List.length_cons,List.length_nil,Nat.zero_add]at I⊢;have r2:(0:Int)<(i.length:Int)+1:=by omega
       go_wp2_with fail;refine(mN _).mono ?_;rintro _ s⟨k5,rfl,-,n⟩;have P:Hid (iv o s (.slice V (i.length+1) M) (ft (i++[v]) Z B g)∧s.heap[r]?=some (.cells q 9)):=R ⟨⟨(U I).1.1.trans n,by obtain⟨x,m⟩:=(U I).1.2;exact⟨x,m.kept n⟩⟩,aw n (U I).2⟩;clear n I;go_wp2_with fail;have c4:Hid (J s s.drew):=R ((J.refl s).drew);refine wp_region_held_drew (S:=fun b0=>J s b0) (by kernel_rfl) (U c4) (fun c=>?_);have e3:=(U P).2;refine bQ [1,4,5,6] ?_;repeat
        refine bS (v:=?_) c (fun d X=>?_) ?_;rotate_left;·(have i4:=(ab (aw X e3) 0).trans k3;(try dsimp only at i4);go_simp)<;>with_reducible rfl
        try simp only[PS]
       refine bO ?_;refine take_one (i:=0) rfl (by kernel_rfl) (fun b a=>?_);go_simp;refine(mN _).mono ?_;rintro _ A⟨q1,rfl,m4,Y⟩;have p:J s A:=c.trans Y;have i0:=m4 g e7;clear Y m4;refine a.out _ _ p (fun c=>?_);clear a b;try simp only[PS]
       unfold aG at i0;generalize b6:(aJ.getD g ([],0)).1=tk at*;generalize e5:(ByteArray.mk tk.toArray)=k0 at*;refine take_one (i:=2) rfl (by kernel_rfl) (fun b a=>?_);go_simp;refine a.out _ _ c (fun c=>?_);clear a b;try simp only[PS]
       refine take_one (i:=3) rfl (by kernel_rfl) (fun b a=>?_);go_simp;refine a.out _ _ c (fun c=>?_);clear a b;try simp only[PS]
       by_cases a8:tk=Z
       ·have e6:(k0.toList==e0.toList)=true:=by rw[←e5,←a6,a8];simp
        refine take_one (i:=7) rfl (by kernel_rfl) (fun b a=>?_);go_simp;refine a.out _ _ c (fun c=>?_);clear a b;try simp only[PS]
        refine wpAnyH_done (by kernel_rfl) ?_ _;clear c;obtain⟨h0,h1⟩:=Ea (i++[v]) B g e7;rw[b6,a8,sM]at h1;rw[b6,a8]at h0;obtain⟨x,h4⟩:=(U P).1.2;rw[h0]at h4;have m:=h4.kept p;have k8:=(U P).1.1.trans p;have k7:=aw p e3;obtain⟨S,p6,p9,c0,b5,e1,rfl,k4,_,_,_⟩:=m.last;simp only[Value.slice.injEq]at e1;obtain⟨rfl,_,rfl⟩:=e1;have q9:(i.length:Int)≤10000:=by have:=(U c7).1;simp only[List.length_append,List.length_cons,List.length_nil]at this;omega
        have r0:(0:Int)≤(i.length:Int):=by omega
        have r1:(i.length:Int)<(i.length:Int)+1:=by omega
        have o5:v.code.length<100000:=by have:=(U c7).2 v (by simp);omega
        have j0:=R m;have i8:=R k8;have n3:=R h1;have j6:Hid (A.drew.cell? ⟨S,i.length*3+2,none⟩=some (.slice c0 v.code.length b5)∧A.drew.heap[r]?=some (.cells q 9)):=R ⟨k4,k7⟩;generalize k6:v.code.length=e2 at*;have n4:=R k6;clear k4 h0 h1 m h4 k8 k7 e3 p i0 P c4 k6 b6 e5 a6 a8 e6;go_wp2_with fail;refine eW 16 [0,1,2,3,4,5,6,7,8] (fun d=>d.cell? ⟨S,i.length*3+2,none⟩=some (.slice c0 e2 b5)∧d.heap[r]?=some (.cells q 9)) (by kernel_rfl) ?_;have c:=U j6;repeat
         refine cN (v:=?_) c (fun d X=>?_) ?_;rotate_left;·(have i4:=X.1;have i5:=(ab X.2 1).trans g8;(try dsimp only at i4 i5);go_simp)<;>with_reducible rfl
         try simp only[PS]
        refine dc ?_;refine az (i:=9) rfl (by kernel_rfl) (fun b a=>?_);go_simp;refine((U j1) _).mono ?_;rintro _ O⟨rfl,b9⟩;have y:O.cell? ⟨S,i.length*3+2,none⟩=some (.slice c0 e2 b5)∧O.heap[r]?=some (.cells q 9):=⟨b9.cell c.1,aw b9 c.2⟩;have h2:=((U j0).kept ((J.refl A).drew)).kept b9;have l8:v.code.length<100000:=by rw[U n4];exact o5
        obtain⟨s4,g0,E,⟨m6,m5,k2,rfl⟩,n2,p1,b8,b7⟩:=h2.KJ y.1 ((g:Int),max 0 B) l8;obtain⟨m9,n0⟩:=h2.KL y.1 ((g:Int),max 0 B) l8 E;have L:Hid (iv o (g0.setCell ⟨S,i.length*3+2,none⟩ (.slice m6 m5 k2)) (.slice (some ⟨S,0,none⟩) (i.length+1) M) (ft (i++[v]) Z B (g+1))∧(g0.setCell ⟨S,i.length*3+2,none⟩ (.slice m6 m5 k2)).heap[r]?=some (.cells q 9)):=R ⟨⟨Below.trans ((U i8).trans (((J.refl A).drew).trans b9)) b7,x,by rw[U n3];exact b8⟩,m9 _ _ y.2⟩;have l4:(O.alloc (.cells #[.int .i64 (g:Int),.int .i64 (max 0 B)] 72)).cell? ⟨S,i.length*3+2,none⟩=some (.slice c0 e2 b5)∧(O.alloc (.cells #[.int .i64 (g:Int),.int .i64 (max 0 B)] 72)).heap[r]?=some (.cells q 9):=⟨((J.refl O).alloc _).cell y.1,au y.2 _⟩;have l5:g0.cell? ⟨S,i.length*3+2,none⟩=some (.slice c0 e2 b5)∧g0.heap[r]?=some (.cells q 9):=⟨n2,n0 _ _ y.2⟩;have Q:=R E;have a5:=R y;have j5:=R l4;have c5:=R l5;clear E b8 b7 m9 n0 h2 b9 y l4 l5 c j6 j0 i8;refine a.out _ _ (fun _=>U a5) ?_;clear a b;try simp only[PS]
        refine az (i:=10) rfl (by kernel_rfl) (fun b a=>?_);go_simp;refine a.out _ _ (fun _=>U a5) ?_;clear a b;try simp only[PS]
        refine az (i:=11) rfl (by kernel_rfl) (fun b a=>?_);go_simp;refine a.out _ _ (fun _=>U a5) ?_;clear a b;try simp only[PS]
        refine az (i:=12) rfl (by kernel_rfl) (fun b a=>?_);go_simp;refine a.out _ _ (fun _=>U j5) ?_;clear a b;try simp only[PS]
        refine az (i:=13) rfl (by kernel_rfl) (fun b a=>?_);rw[if_pos (by rfl)];refine eb _ _ _ 67 rfl rfl rfl (U Q) ?_;refine a.out _ _ (fun _=>U c5) ?_;clear a b Q;try simp only[PS]
        refine az (i:=14) rfl (by kernel_rfl) (fun b a=>?_);go_simp;refine a.out _ _ (fun _=>U c5) ?_;clear a b;try simp only[PS]
        refine az (i:=15) rfl (by kernel_rfl) (fun b a=>?_);go_simp;refine a.out _ _ (fun _=>U c5) ?_;clear a b;try simp only[PS]
        refine az (i:=16) rfl (by kernel_rfl) (fun b a=>?_);go_simp;refine a.out _ _ (fun e=>absurd rfl e) ?_;clear a b;try simp only[PS]
        refine df (by kernel_rfl) ?_ _;clear n2 p1 a5 j5 c5;go_wp2_with fail;go_roundw;case rel=>exact⟨g+1,by omega,by go_num,by simpa only[List.length_append,List.length_cons,List.length_nil,Nat.zero_add]using L⟩
        case measure=>simp[intOf];omega
       ·have e6:(k0.toList==e0.toList)=false:=by rw[←e5,←a6,ByteArray.toList_mk,ByteArray.toList_mk];simpa using a8
        refine take_one (i:=7) rfl (by kernel_rfl) (fun b a=>?_);go_simp;refine a.out _ _ c (fun c=>?_);clear a b;try simp only[PS]
        refine wpAnyH_done (by kernel_rfl) ?_ _;clear c;have L:Hid (iv o A (.slice V (i.length+1) M) (ft (i++[v]) Z B (g+1))∧A.heap[r]?=some (.cells q 9)):=R (by rw[Eb _ _ _ _ (by rw[b6];exact a8)];exact⟨⟨(U P).1.1.trans p,by obtain⟨x,m⟩:=(U P).1.2;exact⟨x,m.kept p⟩⟩,aw p (U P).2⟩);clear p i0 e3 P b6 e5 a6;go_wp2_with fail;go_roundw;case rel=>exact⟨g+1,by omega,by go_num,by simpa only[List.length_append,List.length_cons,List.length_nil,Nat.zero_add]using L⟩
        case measure=>simp[intOf];omega
     ·obtain rfl:g=17:=by omega
      go_wp2_with fail;refine(mN _).mono ?_;rintro _ s⟨k5,rfl,-,n⟩;have L:Hid (iv o s (.slice V t.length M) (eN l (f+1))):=R (by have e:=(U I).1;rw[DZ]at e;rw[U g1,(U c6) a7];exact⟨e.1.trans n,by obtain⟨x,m⟩:=e.2;exact⟨x,m.kept n⟩⟩);clear n c6 I;go_wp2_with fail;go_roundw;case rel=>exact⟨f+1,by omega,by go_num,L⟩
      case measure=>simp[intOf];omega
  ·obtain rfl:f=T:=by omega
   have l6:eN l f=cU l:=BY (by rw[U b3];exact Nat.le_refl _);have h9:=qx l f (by rw[U b3];exact Nat.le_refl _);rw[l6]at H h9;obtain⟨V,M,rfl⟩:∃F b4,u4=.slice F (cU l).length b4:=by obtain⟨_,_,_,_,b4,h7,_⟩:=U H;obtain⟨F,g7,u,_⟩:=iG h7;exact⟨F,g7,u⟩
   have e4:aK wr (.slice V (cU l).length M) (cU l):=by obtain⟨x,m⟩:=(U H).2;exact m.prog (by have:=h9.1;omega)
   have n7:=R e4;have g2:=R ((U n5).trans (U H).1);have W:=R ((U j3) wr _ _ e4);have a4:Hid (ie l=if aL (cU l)=0∧bI (cU l)=l then(cU l,true)else([],false)):=R rfl;have c3:Hid (aL (cU l)=0→∀d,J wr d→Calls prog 47 #[.slice V (cU l).length M] d fun u G=>u=.returned (.string ⟨(bI (cU l)).toArray⟩)∧J d G):=R fun D d o6=>Gt d _ _ (e4.kept o6) (kq D);clear l6 h9 H j3 e4 g3 b3;by_cases D:aL (cU l)=0
   ·have c8:=R ((U c3) D);rw[D]at W;by_cases a9:bI (cU l)=l
    ·have e6:((ByteArray.mk (bI (cU l)).toArray).toList==c9.toList)=true:=by rw[←U j4,a9];simp
     have b2:Hid (ie l=(cU l,true)):=R (by rw[U a4,if_pos ⟨D,a9⟩]);generalize(ByteArray.mk (bI (cU l)).toArray)=o0 at*;generalize l0:(cU l).length=m8 at*;clear a4 c3 D a9;go_wp2_with fail;refine(U W).mono ?_;rintro _ e9⟨rfl,z⟩;have K:=R z;clear z W;go_wp2_with fail;refine((U c8) _ (U K)).mono ?_;rintro _ a3⟨rfl,N⟩;have c2:=R ((U K).trans N);clear N c8 K;go_wp2_with fail;go_ret2;rw[U b2];exact⟨_,_,_,rfl,(U n7).kept (U c2),(U g2).trans (U c2)⟩
    ·have e6:((ByteArray.mk (bI (cU l)).toArray).toList==c9.toList)=false:=by rw[←U j4,ByteArray.toList_mk,ByteArray.toList_mk];simpa using a9
     have b2:Hid (ie l=([],false)):=R (by rw[U a4,if_neg (fun e=>a9 e.2)]);generalize(ByteArray.mk (bI (cU l)).toArray)=o0 at*;generalize l0:(cU l).length=m8 at*;clear a4 c3 D a9;go_wp2_with fail;refine(U W).mono ?_;rintro _ e9⟨rfl,z⟩;have K:=R z;clear z W;go_wp2_with fail;refine((U c8) _ (U K)).mono ?_;rintro _ a3⟨rfl,N⟩;have c2:=R ((U K).trans N);clear N c8 K;go_wp2_with fail;go_ret2;rw[U b2];exact⟨none,0,0,rfl,⟨none,0,rfl,by simp,fun h v e=>by simp at e⟩,(U g2).trans (U c2)⟩
   ·have r8:(aL (cU l)==0)=false:=by simpa using D
    have r9:(aL (cU l)!=0)=true:=by rw[bne_iff_ne];exact D
    have b2:Hid (ie l=([],false)):=R (by rw[U a4,if_neg (fun e=>D e.1)]);generalize l0:(cU l).length=m8 at*;generalize aL (cU l)=s1 at*;clear a4 c3 D;go_wp2_with fail;refine(U W).mono ?_;rintro _ e9⟨rfl,z⟩;have K:=R z;clear z W;go_wp2_with fail;go_ret2;rw[U b2];exact⟨none,0,0,rfl,⟨none,0,rfl,by simp,fun h v e=>by simp at e⟩,(U g2).trans (U K)⟩
theorem FJ(w:World)(a b:ByteArray)(e:(8192:Int)<(a.size:Int)):Calls prog 6 #[.string a,.string b] w fun c d=>c=.returned (.tuple #[.string ⟨#[]⟩,.int .i64 2])∧J w d:=by go_enter func6,ntmps6;go_wp2_with fail;go_ret2;exact⟨rfl,J.refl w⟩
theorem FM(w:World)(a j:ByteArray)(k:¬(8192:Int)<(a.size:Int))(d:Hid (Calls prog 21 #[.string a] w fun b c=>∃h g e,b=.returned (.tuple #[.slice h g e,.bool false])∧J w c)):Calls prog 6 #[.string a,.string j] w fun b c=>b=.returned (.tuple #[.string ⟨#[]⟩,.int .i64 1])∧J w c:=by go_enter func6,ntmps6;go_wp2_with fail;refine(U d).mono ?_;rintro _ l⟨h,g,e,rfl,f⟩;have i:=R f;clear f d;go_wp2_with fail;go_ret2;exact⟨rfl,U i⟩
theorem FI(w:World)(S b:List UInt8)(v:b.length≤9223372036854775807)(u:eL w)(x:bm w)(r:Hid (∀a p n,aK a p n→Calls prog 46 #[p] a fun f h=>f=.returned (.int .i64 (aL n))∧J a h)):Calls prog 6 #[.string ⟨S.toArray⟩,.string ⟨b.toArray⟩] w fun f h=>f=.returned (.tuple #[.string ⟨(lI S b).1.toArray⟩,.int .i64 (lI S b).2])∧J w h:=by
 have m:(ByteArray.mk S.toArray).size=S.length:=by simp[ByteArray.size]
 unfold lI;by_cases d:S.length≤8192
 ·have c:=Ca d;have k:=fun a=>Gs a S d r;cases e:(ie S).2 with
  |true=>rw[e,if_pos rfl]at c;have g:=(rH (l:=S) (by rw[c])).1;rw[c]at g⊢;rw[if_pos rfl];have j:=vV w _ g u x;exact FL w S b (ie S).1 d v g (fun o q i=>⟨j.Lb o q i,(j.JV o q i).2.1⟩) (R fun a _=>by rw[←e];exact k a)
  |false=>rw[e,if_neg (by decide)]at c;rw[c,if_neg (by simp)];exact FM w _ _ (by rw[m];omega) (R (by rw[←e];exact(k w).mono fun _ _⟨z,y,s,t,_,h3⟩=>⟨z,y,s,t,h3⟩))
 ·rw[show dm S=([],2)by unfold dm;rw[if_neg d],if_neg (by decide)];exact FJ w _ _ (by rw[m];omega)
theorem Aa(w:World)(b c g:ByteArray)(h:Int)(e:dS w 5 #[.string b,.string c] (.tuple #[.string g,.int .i64 h]))(f:dS w 6 #[.string b,.string c] (.tuple #[.string g,.int .i64 h]))(d:dS w 7 #[] (.bool true)):Calls prog 3 #[.string b,.string c] w fun l m=>l=.returned (.bool true)∧J w m:=by go_enter func3,ntmps3;go_wp2_with fail;refine((U e) w (J.refl w)).mono ?_;rintro _ n⟨rfl,i⟩;have a:=R i;clear i e;go_wp2_with fail;refine((U f) _ (U a)).mono ?_;rintro _ o⟨rfl,j⟩;replace a:=R ((U a).trans j);clear j f;go_wp2_with fail;refine((U d) _ (U a)).mono ?_;rintro _ p⟨rfl,k⟩;replace a:=R ((U a).trans k);clear k d;go_wp2_with fail;go_ret;exact⟨rfl,U a⟩
theorem Ab(d c:ByteArray)(w:World)(h:c.size≤9223372036854775807)(f:bm w)(e:eL w):Calls prog 3 #[.string d,.string c] w fun g l=>g=.returned (.bool true)∧J w l:=Aa w d c _ _ (R fun b a=>FN b d.data.toList c.data.toList (e.kept a) (f.kept a)) (R fun b a=>FI b d.data.toList c.data.toList (by rw[Array.length_toList];exact h) (e.kept a) (f.kept a) (R fun b k j i=>Gm j k b i)) (R fun b a=>zU b (e.kept a) (f.kept a))
