import Derived.Test.YtokhibfenccijaaGreatDoorQB30
set_option maxRecDepth 100000
set_option maxHeartbeats 8000000
namespace Go.Proofs.YtokhibfenccijaaGreatDoor
open Go.Proofs.Tryz
open Go.RowKit Go.Maps
abbrev jO(w:World)(d A B:ByteArray):Prop:=pK d∧Hid (∀b,J w b→Calls prog 43 #[.string d,.int .u8 32] b fun f c=>∃a e,f=.returned (.slice (some ⟨a,0,none⟩) 2 e)∧c.cell? ⟨a,0,none⟩=some (.string A)∧c.cell? ⟨a,1,none⟩=some (.string B)∧J b c)
theorem Gc(w:World)(y:Value)(l A B:ByteArray)(h:Option Addr)(f b:Nat)(c:Int)(i:Option Addr)(g d:Nat)(j:ByteArray)(z:Int)(h2:jO w l A B)(n:dS w 44 #[.string B] (.int .i64 z))(I:z<0)(o:dS w 48 #[.int .i64 1] (.string j)):gZ w y l h f b c i g d j:=by
 obtain⟨⟨K,L,M,N,O⟩,k⟩:=h2;go_enter func23,ntmps23;go_wp2_with fail;refine((U k) _ (cA _ _ _ _)).mono ?_;rintro _ V⟨H,C,rfl,a0,a1,m⟩;have a:=R m;clear m k;go_wp2_with fail;refine((U n) _ ((cA _ _ _ _).trans (U a))).mono ?_;rintro _ W⟨rfl,e⟩;replace a:=R ((U a).trans e);replace a0:=e.cell a0;replace a1:=e.cell a1;clear e;obtain⟨-,⟨t,u,x⟩,-⟩:=dO (U a) (.slice h f b) (.int .i64 c) (.slice i g d);go_wp2_with fail;go_region_with(go_at_call 48;refine((U o) _ ?_).mono ?_;(refine((cA _ _ _ _).trans (U a)).drew);rintro D T⟨rfl,q⟩;obtain⟨⟨P,Q,S,E,F,G⟩,⟨t,u,x⟩,k0,r,s,p⟩:=dO ((U a).drew.trans q) (.slice h f b) (.int .i64 c) (.slice i g d));all_goals go_wp2_with fail
 all_goals exact bodyPost_ret (v:=.tuple #[.agg #[.slice h f b,.int .i64 c,.slice i g d],.string j]) (by simp[results,results23,go_sem,k0,r,s]) rfl ⟨rfl,p⟩
theorem FW(w:World)(y:Value)(m A B:ByteArray)(h:Option Addr)(f d:Nat)(c:Int)(i:Option Addr)(g e:Nat)(j:ByteArray)(z:Int)(h2:jO w m A B)(k:dS w 44 #[.string B] (.int .i64 z))(I:z>500)(K:(A.toList==[115,116,101,112])=true)(o:dS w 48 #[.int .i64 3] (.string j)):gZ w y m h f d c i g e j:=by
 obtain⟨⟨L,M,N,O,P⟩,l⟩:=h2;go_enter func23,ntmps23;go_wp2_with fail;refine((U l) _ (cA _ _ _ _)).mono ?_;rintro _ W⟨H,C,rfl,a0,a1,n⟩;have a:=R n;clear n l;go_wp2_with fail;refine((U k) _ ((cA _ _ _ _).trans (U a))).mono ?_;rintro _ X⟨rfl,b⟩;replace a:=R ((U a).trans b);replace a0:=b.cell a0;replace a1:=b.cell a1;clear b;go_wp2_with fail;refine((U k) _ ((cA _ _ _ _).trans (U a))).mono ?_;rintro _ Y⟨rfl,b⟩;replace a:=R ((U a).trans b);replace a0:=b.cell a0;replace a1:=b.cell a1;clear b;obtain⟨-,⟨t,u,x⟩,-⟩:=dO (U a) (.slice h f d) (.int .i64 c) (.slice i g e);go_wp2_with fail;go_region_with(go_at_call 48;refine((U o) _ ?_).mono ?_;(refine((cA _ _ _ _).trans (U a)).drew);rintro D V⟨rfl,q⟩;obtain⟨⟨Q,S,T,E,F,G⟩,⟨t,u,x⟩,k0,r,s,p⟩:=dO ((U a).drew.trans q) (.slice h f d) (.int .i64 c) (.slice i g e));all_goals go_wp2_with fail
 all_goals exact bodyPost_ret (v:=.tuple #[.agg #[.slice h f d,.int .i64 c,.slice i g e],.string j]) (by simp[results,results23,go_sem,k0,r,s]) rfl ⟨rfl,p⟩
theorem Gd(w:World)(y:Value)(l A B:ByteArray)(h:Option Addr)(f b:Nat)(c:Int)(i:Option Addr)(g d:Nat)(j:ByteArray)(z:Int)(h2:jO w l A B)(n:dS w 44 #[.string B] (.int .i64 z))(L:¬z<0)(K:(A.toList==[115,116,101,112])=false)(I:(A.toList==[104,101,105,103,104,116,115])=false)(o:dS w 48 #[.int .i64 1] (.string j)):gZ w y l h f b c i g d j:=by
 obtain⟨⟨M,N,O,P,Q⟩,k⟩:=h2;go_enter func23,ntmps23;go_wp2_with fail;refine((U k) _ (cA _ _ _ _)).mono ?_;rintro _ X⟨H,C,rfl,a0,a1,m⟩;have a:=R m;clear m k;go_wp2_with fail;refine((U n) _ ((cA _ _ _ _).trans (U a))).mono ?_;rintro _ Y⟨rfl,e⟩;replace a:=R ((U a).trans e);replace a0:=e.cell a0;replace a1:=e.cell a1;clear e;obtain⟨-,⟨t,u,x⟩,-⟩:=dO (U a) (.slice h f b) (.int .i64 c) (.slice i g d);go_wp2_with fail;go_region_with(go_at_call 48;refine((U o) _ ?_).mono ?_;(refine((cA _ _ _ _).trans (U a)).drew);rintro D W⟨rfl,q⟩;obtain⟨⟨S,T,V,E,F,G⟩,⟨t,u,x⟩,k0,r,s,p⟩:=dO ((U a).drew.trans q) (.slice h f b) (.int .i64 c) (.slice i g d));all_goals go_wp2_with fail
 all_goals exact bodyPost_ret (v:=.tuple #[.agg #[.slice h f b,.int .i64 c,.slice i g d],.string j]) (by simp[results,results23,go_sem,k0,r,s]) rfl ⟨rfl,p⟩
theorem FY(w:World)(x:Value)(o A B:ByteArray)(h:Option Addr)(f d:Nat)(c:Int)(i:Option Addr)(g e:Nat)(j:ByteArray)(z:Int)(h2:jO w o A B)(m:dS w 44 #[.string B] (.int .i64 z))(k:Int)(W:¬z<0)(S:(k !=0)=true)(V:(A.toList==[115,116,101,112])=false)(T:(A.toList==[104,101,105,103,104,116,115])=true)(D:dS w 48 #[.int .i64 k] (.string j))(C:Hid (∀l,J w l→Calls prog 54 #[x,.int .i64 z] l fun q y=>∃u t p,q=.returned (.tuple #[.slice u t p,.int .i64 k])∧J l y)):gZ w x o h f d c i g e j:=by
 obtain⟨⟨X,Y,Z,a2,a3⟩,n⟩:=h2;go_enter func23,ntmps23;go_wp2_with fail;refine((U n) _ (cA _ _ _ _)).mono ?_;rintro _ a7⟨Q,p,rfl,a0,a1,r⟩;have a:=R r;clear r n;go_wp2_with fail;refine((U m) _ ((cA _ _ _ _).trans (U a))).mono ?_;rintro _ a8⟨rfl,b⟩;replace a:=R ((U a).trans b);replace a0:=b.cell a0;replace a1:=b.cell a1;clear b;go_wp2_with fail;refine((U m) _ ((cA _ _ _ _).trans (U a))).mono ?_;rintro _ a9⟨rfl,b⟩;replace a:=R ((U a).trans b);replace a0:=b.cell a0;replace a1:=b.cell a1;clear b;go_wp2_with fail;refine((U C) _ ((cA _ _ _ _).trans (U a))).mono ?_;rintro _ b0⟨u,t,M,rfl,s⟩;replace a:=R ((U a).trans s);clear s a0 a1;obtain⟨-,⟨I,K,L⟩,-⟩:=dO (U a) (.slice h f d) (.int .i64 c) (.slice i g e);go_wp2_with fail;go_region_with(go_at_call 48;refine((U D) _ ?_).mono ?_;(refine((cA _ _ _ _).trans (U a)).drew);rintro q y⟨rfl,F⟩;obtain⟨⟨a4,a5,a6,N,O,P⟩,⟨I,K,L⟩,k0,G,H,E⟩:=dO ((U a).drew.trans F) (.slice h f d) (.int .i64 c) (.slice i g e));all_goals go_wp2_with fail
 all_goals exact bodyPost_ret (v:=.tuple #[.agg #[.slice h f d,.int .i64 c,.slice i g e],.string j]) (by simp[results,results23,go_sem,k0,G,H]) rfl ⟨rfl,E⟩
theorem FX(w:World)(x:Value)(r A B:ByteArray)(h:Option Addr)(f d:Nat)(c:Int)(i:Option Addr)(g e:Nat)(j:ByteArray)(z:Int)(h2:jO w r A B)(p:dS w 44 #[.string B] (.int .i64 z))(T:¬z<0)(S:(A.toList==[115,116,101,112])=false)(Q:(A.toList==[104,101,105,103,104,116,115])=true)(y:Hid (∀n,J w n→Calls prog 54 #[x,.int .i64 z] n fun s o=>∃m l k,s=.returned (.tuple #[.slice m l k,.int .i64 0])∧dS o 49 #[.slice m l k] (.string j)∧J n o)):gZ w x r h f d c i g e j:=by
 obtain⟨⟨V,W,X,Y,Z⟩,q⟩:=h2;go_enter func23,ntmps23;go_wp2_with fail;refine((U q) _ (cA _ _ _ _)).mono ?_;rintro _ a5⟨P,k,rfl,a0,a1,t⟩;have a:=R t;clear t q;go_wp2_with fail;refine((U p) _ ((cA _ _ _ _).trans (U a))).mono ?_;rintro _ a6⟨rfl,b⟩;replace a:=R ((U a).trans b);replace a0:=b.cell a0;replace a1:=b.cell a1;clear b;go_wp2_with fail;refine((U p) _ ((cA _ _ _ _).trans (U a))).mono ?_;rintro _ a7⟨rfl,b⟩;replace a:=R ((U a).trans b);replace a0:=b.cell a0;replace a1:=b.cell a1;clear b;go_wp2_with fail;refine((U y) _ ((cA _ _ _ _).trans (U a))).mono ?_;rintro _ a8⟨m,l,L,rfl,C,u⟩;replace a:=R ((U a).trans u);clear u a0 a1;obtain⟨-,⟨H,I,K⟩,-⟩:=dO (U a) (.slice h f d) (.int .i64 c) (.slice i g e);go_wp2_with fail;go_region_with(go_at_call 49;refine((U C) _ ?_).mono ?_;(exact(J.refl _).drew);rintro s o⟨rfl,E⟩;obtain⟨⟨a2,a3,a4,M,N,O⟩,⟨H,I,K⟩,k0,F,G,D⟩:=dO ((U a).drew.trans E) (.slice h f d) (.int .i64 c) (.slice i g e));all_goals go_wp2_with fail
 all_goals exact bodyPost_ret (v:=.tuple #[.agg #[.slice h f d,.int .i64 c,.slice i g e],.string j]) (by simp[results,results23,go_sem,k0,F,G]) rfl ⟨rfl,D⟩
theorem eX.kept{N:Nat}{w w':World}{v:Value}{s:St}(c:eX N w v s)(k:J w w'):eX N w' v s:=fun h h2=>c h fun a b g d f e=>h2 a b g d f (aw k e)
theorem iW(w:World)(x y z:Value):(gE w x y z).heap.size=w.heap.size+2:=by simp
theorem Gf(w:World)(h1:Value)(g1 A B:ByteArray)(Z:Option Addr)(X O:Nat)(c:Int)(a2:Option Addr)(Y P:Nat)(z:Int)(a6:St)(k:Nat)(r:Int)(h2:jO w g1 A B)(a7:dS w 44 #[.string B] (.int .i64 z))(k2:¬z<0)(a3:¬z>500)(k1:(A.toList==[115,116,101,112])=true)(g5:aI (k:Int))(c8:aI r)(c0:Hid (∀t,J w t→Calls prog 53 #[h1,.agg #[.slice Z X O,.int .i64 c,.slice a2 Y P],.int .i64 z] t (hU a6 [.int .i64 (k:Int),.int .i64 r] t)))(c5:Hid (∀z,aI z→∀t:World,Calls prog 11 #[.int .i64 z] t fun c2 e1=>c2=.returned (aG (Lib.itoa z))∧J t e1)):Calls prog 23 #[h1,.agg #[.slice Z X O,.int .i64 c,.slice a2 Y P],.string g1] w (hU a6 [.string ⟨(Lib.join (aP [(k:Int)]++if r=0 then[]else br r) [32]).toArray⟩] w):=by
 have h3:=lK w r c8 c5;have c6:=R g5;have e5:=R c8;generalize H:(ByteArray.mk (Lib.join (aP [(k:Int)]++if r=0 then[]else br r) [32]).toArray)=j4;have c1:=R H;clear g5 c8 H;obtain⟨⟨k3,k4,k5,k6,e⟩,e8⟩:=h2;go_enter func23,ntmps23;go_wp2_with fail;refine((U e8) _ (cA _ _ _ _)).mono ?_;rintro _ k8⟨j8,j7,rfl,a0,a1,g7⟩;have q:=R g7;clear g7 e8;go_wp2_with fail;refine((U a7) _ ((cA _ _ _ _).trans (U q))).mono ?_;rintro _ k9⟨rfl,E⟩;replace q:=R ((U q).trans E);replace a0:=E.cell a0;replace a1:=E.cell a1;clear E;go_wp2_with fail;refine((U a7) _ ((cA _ _ _ _).trans (U q))).mono ?_;rintro _ n⟨rfl,E⟩;replace q:=R ((U q).trans E);replace a0:=E.cell a0;replace a1:=E.cell a1;clear E;go_wp2_with fail;go_cut[14,15,16](fun i4 i5 i6 wx=>∃(B:Nat)(j:Option Addr)(e f:Nat)(m:Int)(l:Option Addr)(h g:Nat),i4=.pointer (some ⟨B,0,none⟩)∧i5=.int .i64 (k:Int)∧i6=.int .i64 r∧Hid (wx.heap[B]?=some (.cells #[.slice j e f,.int .i64 m,.slice l h g] 44)∧eX (w.heap.size+2) wx (.agg #[.slice j e f,.int .i64 m,.slice l h g]) a6∧J (gE w (.slice Z X O) (.int .i64 c) (.slice a2 Y P)) wx));case first=>
  obtain⟨-,⟨g8,g9,h0⟩,-⟩:=dO (U q) (.slice Z X O) (.int .i64 c) (.slice a2 Y P);refine wp_region_held_drew (S:=fun i9=>J n i9) (by kernel_rfl) ((J.refl n).drew) (fun a=>?_);refine bQ [0,1,2,3,4] ?_;repeat
   refine bS (v:=?_) a (fun t C=>?_) ?_;rotate_left;·(have b5:=C.cell g8;have b6:=C.cell g9;have b7:=C.cell h0;have j0:=C.cell a1;(try dsimp only at b5 b6 b7 j0);go_simp)<;>with_reducible rfl
   try simp only[PS]
  refine bO ?_;clear g8 g9 h0 a0 a1;refine sc (i:=5) (k:=11) rfl rfl (by kernel_rfl) (fun o d=>?_) (fun o d=>?_)
  ·skip;go_simp;refine((U a7) _ ((cA _ _ _ _).trans ((U q).trans a))).mono ?_;rintro _ u⟨rfl,b4⟩;refine d.out _ _ (a.trans b4) (fun a=>?_);clear d o;try simp only[PS]
   refine sc (i:=6) (k:=11) rfl rfl (by kernel_rfl) (fun o d=>?_) (fun o d=>?_)
   ·skip;go_simp;refine((U c0) _ ((cA _ _ _ _).trans ((U q).trans a))).mono ?_;rintro _ p⟨j,e,f,m,l,h,g,rfl,a3,W⟩;have b3:=((U q).trans a).size;rw[iW]at b3;refine d.out _ _ (a.trans W) (fun a=>?_);clear d o;try simp only[PS]
    refine bQ [7,8,9,10] ?_;repeat
     refine bS (v:=?_) a (fun t C=>?_) ?_;rotate_left;·(go_simp)<;>with_reducible rfl
     try simp only[PS]
    refine bO ?_;refine take_one (i:=11) rfl (by kernel_rfl) (fun o d=>?_);go_simp;have G:J n (p.alloc (.cells #[.slice none 0 0,.int .i64 0,.slice none 0 0] 44)):=a.alloc _;refine d.out _ _ G (fun a=>?_);clear d o;try simp only[PS]
    have b:(p.alloc (.cells #[.slice none 0 0,.int .i64 0,.slice none 0 0] 44)).heap[p.heap.size]?=some (.cells #[.slice none 0 0,.int .i64 0,.slice none 0 0] 44):=(show(p.alloc (.cells #[.slice none 0 0,.int .i64 0,.slice none 0 0] 44)).heap[p.heap.size]?=_ from ah rfl);have D:p.heap.size<(p.alloc (.cells #[.slice none 0 0,.int .i64 0,.slice none 0 0] 44)).heap.size:=by simp
    have b2:n.heap.size≤p.heap.size:=(show J n p from by assumption).size;have g4:∀(s:Nat)(a5:Obj),p.heap[s]?=some a5→(p.alloc (.cells #[.slice none 0 0,.int .i64 0,.slice none 0 0] 44)).heap[s]?=some a5:=fun s a5 a4=>au a4 _;have g3:∀(s:Nat)(a5:Obj),p.heap[s]?=some a5→s<p.heap.size:=fun s a5 a4=>(Array.getElem?_eq_some_iff.1 a4).1;have g2:∀(s:Nat),s<p.heap.size→s≠p.heap.size:=fun s h7=>by omega
    generalize(p.alloc (.cells #[.slice none 0 0,.int .i64 0,.slice none 0 0] 44))=b8 at G a b D g4⊢;generalize p.heap.size=B at b D b2 g2 g3⊢;have y:eX (w.heap.size+2) (dP b8 B (.slice j e f) (.int .i64 m) (.slice l h g)) (.agg #[.slice j e f,.int .i64 m,.slice l h g]) a6:=fun i8 h2=>a3 i8 fun s h6 i7 h7 i0 a4=>h2 s h6 i7 (by omega) i0 (by rw[nD _ _ _ _ _ (g2 s (g3 s _ a4))];exact g4 s _ a4);have a9:=(U q).size;rw[iW]at a9;have I:J (gE w (.slice Z X O) (.int .i64 c) (.slice a2 Y P)) (dP b8 B (.slice j e f) (.int .i64 m) (.slice l h g)):=iS ((U q).trans a) (by rw[iW];omega) _ _ _;have b0:J n (dP b8 B (.slice j e f) (.int .i64 m) (.slice l h g)):=iS a (by omega) _ _ _;have L:=ab b 0;have M:=ab b 1;have N:=ab b 2;simp only[List.getElem?_toArray,List.getElem?_cons_zero,List.getElem?_cons_succ]at L M N;have Q:=an b 0;have T:=an b 1;have V:=an b 2;have K:=ay (ay (ay b 0 (.slice j e f)) 1 (.int .i64 m)) 2 (.slice l h g);have F:=R (And.intro K (And.intro y I));clear K I y;refine take_one (i:=12) rfl (by kernel_rfl) (fun o d=>?_);go_simp;refine d.out _ _ b0 (fun a=>?_);clear d o;try simp only[PS]
    clear L M N Q T V;refine bQ [13,14] ?_;repeat
     refine bS (v:=?_) a (fun t C=>?_) ?_;rotate_left;·(go_simp)<;>with_reducible rfl
     try simp only[PS]
    refine bO ?_;refine wpAnyH_done (by kernel_rfl) ?_ _;clear a;go_wp2_with fail;go_meet;exact⟨B,j,e,f,m,l,h,g,rfl,rfl,rfl,F⟩
   ·skip;go_simp;have G:J n (u.alloc (.cells #[.slice none 0 0,.int .i64 0,.slice none 0 0] 44)):=a.alloc _;refine d.out _ _ G (fun a=>?_);clear d o;try simp only[PS]
    have b:(u.alloc (.cells #[.slice none 0 0,.int .i64 0,.slice none 0 0] 44)).heap[u.heap.size]?=some (.cells #[.slice none 0 0,.int .i64 0,.slice none 0 0] 44):=(show(u.alloc (.cells #[.slice none 0 0,.int .i64 0,.slice none 0 0] 44)).heap[u.heap.size]?=_ from ah rfl);have D:u.heap.size<(u.alloc (.cells #[.slice none 0 0,.int .i64 0,.slice none 0 0] 44)).heap.size:=by simp
    have b2:n.heap.size≤u.heap.size:=(show J n u from by assumption).size;generalize(u.alloc (.cells #[.slice none 0 0,.int .i64 0,.slice none 0 0] 44))=b8 at G a b D⊢;generalize c7:u.heap.size=B at b D⊢;replace b2:n.heap.size≤B:=by omega
    clear c7;refine take_one (i:=6) rfl (by kernel_rfl) (fun o d=>?_);go_simp;refine((U c0) _ ((cA _ _ _ _).trans ((U q).trans a))).mono ?_;rintro _ p⟨j,e,f,m,l,h,g,rfl,a3,W⟩;have b3:=((U q).trans a).size;rw[iW]at b3;replace b:=aw W b;refine d.out _ _ (a.trans W) (fun a=>?_);clear d o;try simp only[PS]
    refine bQ [7,8,9,10] ?_;repeat
     refine bS (v:=?_) a (fun t C=>?_) ?_;rotate_left;·(go_simp)<;>with_reducible rfl
     try simp only[PS]
    refine bO ?_;have y:eX (w.heap.size+2) (dP p B (.slice j e f) (.int .i64 m) (.slice l h g)) (.agg #[.slice j e f,.int .i64 m,.slice l h g]) a6:=a3.boxed (by omega) (by omega) _ _ _;have a9:=(U q).size;rw[iW]at a9;have I:J (gE w (.slice Z X O) (.int .i64 c) (.slice a2 Y P)) (dP p B (.slice j e f) (.int .i64 m) (.slice l h g)):=iS ((U q).trans a) (by rw[iW];omega) _ _ _;have b0:J n (dP p B (.slice j e f) (.int .i64 m) (.slice l h g)):=iS a (by omega) _ _ _;have L:=ab b 0;have M:=ab b 1;have N:=ab b 2;simp only[List.getElem?_toArray,List.getElem?_cons_zero,List.getElem?_cons_succ]at L M N;have Q:=an b 0;have T:=an b 1;have V:=an b 2;have K:=ay (ay (ay b 0 (.slice j e f)) 1 (.int .i64 m)) 2 (.slice l h g);have F:=R (And.intro K (And.intro y I));clear K I y;refine take_one (i:=12) rfl (by kernel_rfl) (fun o d=>?_);go_simp;refine d.out _ _ b0 (fun a=>?_);clear d o;try simp only[PS]
    clear L M N Q T V;refine bQ [13,14] ?_;repeat
     refine bS (v:=?_) a (fun t C=>?_) ?_;rotate_left;·(go_simp)<;>with_reducible rfl
     try simp only[PS]
    refine bO ?_;refine wpAnyH_done (by kernel_rfl) ?_ _;clear a;go_wp2_with fail;go_meet;exact⟨B,j,e,f,m,l,h,g,rfl,rfl,rfl,F⟩
  ·skip;go_simp;have G:J n (n.alloc (.cells #[.slice none 0 0,.int .i64 0,.slice none 0 0] 44)).drew:=((J.refl n).alloc _).drew;refine d.out _ _ G (fun a=>?_);clear d o;try simp only[PS]
   have b:(n.alloc (.cells #[.slice none 0 0,.int .i64 0,.slice none 0 0] 44)).drew.heap[n.heap.size]?=some (.cells #[.slice none 0 0,.int .i64 0,.slice none 0 0] 44):=(show(n.alloc (.cells #[.slice none 0 0,.int .i64 0,.slice none 0 0] 44)).heap[n.heap.size]?=_ from ah rfl);have D:n.heap.size<(n.alloc (.cells #[.slice none 0 0,.int .i64 0,.slice none 0 0] 44)).drew.heap.size:=by simp
   have b2:n.heap.size≤n.heap.size:=Nat.le_refl _;generalize(n.alloc (.cells #[.slice none 0 0,.int .i64 0,.slice none 0 0] 44)).drew=b8 at G a b D⊢;generalize c7:n.heap.size=B at b D⊢;replace b2:n.heap.size≤B:=by omega
   clear c7;refine take_one (i:=5) rfl (by kernel_rfl) (fun o d=>?_);go_simp;refine((U a7) _ ((cA _ _ _ _).trans ((U q).trans a))).mono ?_;rintro _ u⟨rfl,b4⟩;replace b:=aw b4 b;replace D:=Nat.lt_of_lt_of_le D b4.size;refine d.out _ _ (a.trans b4) (fun a=>?_);clear d o;try simp only[PS]
   refine take_one (i:=6) rfl (by kernel_rfl) (fun o d=>?_);go_simp;refine((U c0) _ ((cA _ _ _ _).trans ((U q).trans a))).mono ?_;rintro _ p⟨j,e,f,m,l,h,g,rfl,a3,W⟩;have b3:=((U q).trans a).size;rw[iW]at b3;replace b:=aw W b;refine d.out _ _ (a.trans W) (fun a=>?_);clear d o;try simp only[PS]
   refine bQ [7,8,9,10] ?_;repeat
    refine bS (v:=?_) a (fun t C=>?_) ?_;rotate_left;·(go_simp)<;>with_reducible rfl
    try simp only[PS]
   refine bO ?_;have y:eX (w.heap.size+2) (dP p B (.slice j e f) (.int .i64 m) (.slice l h g)) (.agg #[.slice j e f,.int .i64 m,.slice l h g]) a6:=a3.boxed (by omega) (by omega) _ _ _;have a9:=(U q).size;rw[iW]at a9;have I:J (gE w (.slice Z X O) (.int .i64 c) (.slice a2 Y P)) (dP p B (.slice j e f) (.int .i64 m) (.slice l h g)):=iS ((U q).trans a) (by rw[iW];omega) _ _ _;have b0:J n (dP p B (.slice j e f) (.int .i64 m) (.slice l h g)):=iS a (by omega) _ _ _;have L:=ab b 0;have M:=ab b 1;have N:=ab b 2;simp only[List.getElem?_toArray,List.getElem?_cons_zero,List.getElem?_cons_succ]at L M N;have Q:=an b 0;have T:=an b 1;have V:=an b 2;have K:=ay (ay (ay b 0 (.slice j e f)) 1 (.int .i64 m)) 2 (.slice l h g);have F:=R (And.intro K (And.intro y I));clear K I y;refine take_one (i:=12) rfl (by kernel_rfl) (fun o d=>?_);go_simp;refine d.out _ _ b0 (fun a=>?_);clear d o;try simp only[PS]
   clear L M N Q T V;refine bQ [13,14] ?_;repeat
    refine bS (v:=?_) a (fun t C=>?_) ?_;rotate_left;·(go_simp)<;>with_reducible rfl
    try simp only[PS]
   refine bO ?_;refine wpAnyH_done (by kernel_rfl) ?_ _;clear a;go_wp2_with fail;go_meet;exact⟨B,j,e,f,m,l,h,g,rfl,rfl,rfl,F⟩
 case rest=>
  obtain⟨B,j,e,f,m,l,h,g,rfl,rfl,rfl,F⟩:=hcut;clear c0 a7 a0 a1;obtain⟨c4,y,g6⟩:=U F;have e7:=R y;have e6:=R g6;have b5:=ab c4 0;have b6:=ab c4 1;have b7:=ab c4 2;simp only[List.getElem?_toArray,List.getElem?_cons_zero,List.getElem?_cons_succ]at b5 b6 b7;clear c4 y g6 F q;have b9:=R ((U c5) k (U c6));by_cases c3:r=0
  ·subst c3;have H:=U c1;rw[show Lib.join (aP [(k:Int)]++if(0:Int)=0 then[]else br 0) [32]=Lib.itoa k by simp[aP,Lib.join_one]]at H;clear c1;subst H;unfold aG at b9;go_wp2_with fail;go_region_with(go_at_call 11;refine((U b9) _).mono ?_;rintro c2 e1⟨rfl,x⟩;have e2:=((J.refl wc).drew.trans x).cell b5;have e3:=((J.refl wc).drew.trans x).cell b6;have e4:=((J.refl wc).drew.trans x).cell b7;have a8:=R ((U e7).kept ((J.refl wc).drew.trans x));obtain⟨⟨i1,i2,i3,Q,T,V⟩,-,k0,c9,e0,o⟩:=dO ((U e6).drew.trans x) (.slice j e f) (.int .i64 m) (.slice l h g));all_goals go_wp2_with fail
   all_goals exact bodyPost_ret (v:=.tuple #[.agg #[.slice j e f,.int .i64 m,.slice l h g],.string ⟨(Lib.itoa k).toArray⟩]) (by simp[results,results23,go_sem,k0,c9,e0]) rfl ⟨_,_,_,_,_,_,_,rfl,(U a8).boxed (by omega) (by omega) _ _ _,o⟩
  ·have j9:(r !=0)=true:=by rw[bne_iff_ne];exact c3
   have h9:=gP (U c6);have h8:=(tP r (U e5)).2;obtain⟨j1,e9⟩:=jI (Lib.itoa k) [32] (by simp only[List.length_cons,List.length_nil];omega);obtain⟨j2,j3⟩:=jI (Lib.itoa k++[32]) (Lib.join (br r) [32]) (by simp only[List.length_append,List.length_cons,List.length_nil];omega);have H:=U c1;rw[show Lib.join (aP [(k:Int)]++if r=0 then[]else br r) [32]=(Lib.itoa k++[32])++Lib.join (br r) [32]by rw[if_neg c3];simp[aP,br,Lib.join_cons,Lib.joinTail]]at H;clear c1;subst H;unfold aG at b9;generalize(ByteArray.mk ((Lib.itoa k++[32])++Lib.join (br r) [32]).toArray)=h4 at*;generalize(ByteArray.mk (Lib.itoa k++[32]).toArray)=j5 at*;generalize(ByteArray.mk (Lib.itoa k).toArray)=h5 at*;generalize(ByteArray.mk (Lib.join (br r) [32]).toArray)=j6 at*;clear h9 h8 c3 c6 e5 c5;replace e9:¬9223372036854775807<h5.size+1:=e9;go_wp2_with fail;go_region_with(first|(go_at_call 11;refine((U b9) _).mono ?_;rintro c2 e1⟨rfl,x⟩;have e2:=((J.refl wc).drew.trans x).cell b5;have e3:=((J.refl wc).drew.trans x).cell b6;have e4:=((J.refl wc).drew.trans x).cell b7;have a8:=R ((U e7).kept ((J.refl wc).drew.trans x));have g0:=R ((U e6).drew.trans x))|(go_at_call 48;refine((U h3) _ ?_).mono ?_;(exact(cA _ _ _ _).trans (U g0));rintro c2 k7⟨rfl,b1⟩;replace e2:=b1.cell e2;replace e3:=b1.cell e3;replace e4:=b1.cell e4;replace a8:=R ((U a8).kept b1);obtain⟨⟨i1,i2,i3,Q,T,V⟩,-,k0,c9,e0,o⟩:=dO ((U g0).trans b1) (.slice j e f) (.int .i64 m) (.slice l h g)));all_goals go_wp2_with fail
   all_goals exact bodyPost_ret (v:=.tuple #[.agg #[.slice j e f,.int .i64 m,.slice l h g],.string h4]) (by simp[results,results23,go_sem,k0,c9,e0]) rfl ⟨_,_,_,_,_,_,_,rfl,(U a8).boxed (by omega) (by omega) _ _ _,o⟩
theorem xp(n:Nat):IntKind.wrap .u8 (48+(n:Int).tmod 10)=48+(n:Int)%10:=by rw[Int.tmod_eq_emod_of_nonneg (by omega)];unfold IntKind.wrap;simp[IntKind.signed,IntKind.bits];omega
theorem fL{n:Nat}(a:n<10):Lib.decDigits n=[UInt8.ofNat (48+n)]:=by unfold Lib.decDigits;rw[dif_pos a]
theorem jX{n:Nat}(a:¬n<10):Lib.decDigits n=Lib.decDigits (n/10)++[UInt8.ofNat (48+n%10)]:=by rw[Lib.decDigits,dif_neg a]
theorem tE(n:Nat)(w:World):(convert 49 9 (.slice (some ⟨w.heap.size,0,none⟩) 1 1)).run prog (w.alloc (.cells #[.int .u8 (48+(n:Int)%10)] 5))=.ok (.string ⟨[UInt8.ofNat (48+n%10)].toArray⟩) (w.alloc (.cells #[.int .u8 (48+(n:Int)%10)] 5)):=run_convert_bytes_back (P:=prog) (w.alloc (.cells #[.int .u8 (48+(n:Int)%10)] 5)) 49 9 5 ⟨w.heap.size,0,none⟩ 1 [UInt8.ofNat (48+n%10)] underlying49 underlying5 underlying9 (fun b a=>by
 have:b=0:=by simpa using a
 subst this;rw[show((⟨w.heap.size,0,none⟩:Addr).add 0)=⟨w.heap.size,0,none⟩from rfl,ab (ah (w:=w) (o:=.cells #[.int .u8 (48+(n:Int)%10)] 5) rfl)];simp;omega)
theorem Af(n:Nat)(a:n<10)(w:World):Calls prog 11 #[.int .i64 (n:Int)] w fun b d=>b=.returned (aG (Lib.decDigits n))∧J w d:=by
 have c:=tE n w;have g:¬(n:Int)<0:=by omega
 have f:(n:Int)<10:=by omega
 have h:=xp n;rw[fL a];rw[Nat.mod_eq_of_lt a]at c;unfold aG;generalize(ByteArray.mk [UInt8.ofNat (48+n)].toArray)=e at*;go_enter func11,ntmps11;go_wp2_with fail;go_ret;exact⟨rfl,(J.refl w).alloc _⟩
theorem Ac(n:Nat)(g:¬n<10)(s:n<9223372036854775808)(w:World)(c:Hid (∀e,Calls prog 11 #[.int .i64 ((n/10:Nat):Int)] e fun a b=>a=.returned (aG (Lib.decDigits (n/10)))∧J e b)):Calls prog 11 #[.int .i64 (n:Int)] w fun a b=>a=.returned (aG (Lib.decDigits n))∧J w b:=by
 have h:=tE n w;have q:¬(n:Int)<0:=by omega
 have m:¬(n:Int)<10:=by omega
 have r:=xp n;have i:Hid ((n:Int)/10=((n/10:Nat):Int)):=R (by omega);have t:(n:Int)≤9223372036854775807:=by omega
 have o:=mX (Lib.decDigits (n/10)) [UInt8.ofNat (48+n%10)];have p:¬9223372036854775807<(ByteArray.mk (Lib.decDigits (n/10)).toArray).size+(ByteArray.mk [UInt8.ofNat (48+n%10)].toArray).size:=by have:=kV (n/10) 19 (by omega) (by omega);simp only[ByteArray.size,List.size_toArray,List.length_singleton];omega
 rw[jX g];unfold aG at*;generalize(ByteArray.mk [UInt8.ofNat (48+n%10)].toArray)=l at*;generalize(ByteArray.mk (Lib.decDigits (n/10)).toArray)=j at*;generalize(ByteArray.mk (Lib.decDigits (n/10)++[UInt8.ofNat (48+n%10)]).toArray)=k at*;go_enter func11,ntmps11;go_wp2_with fail;rw[U i];refine((U c) _).mono ?_;rintro _ u⟨rfl,d⟩;have f:=R (((J.refl w).alloc (.cells #[.int .u8 (48+(n:Int)%10)] 5)).trans d);clear d c h;go_wp2_with fail;go_ret;exact⟨rfl,U f⟩
theorem qh(n:Nat):n<9223372036854775808→∀a:World,Calls prog 11 #[.int .i64 (n:Int)] a fun c g=>c=.returned (aG (Lib.decDigits n))∧J a g:=by
 induction n using Nat.strongRecOn with
 |ind n e=>
  intro d a;by_cases b:n<10;·exact Af n b a
  ·exact Ac n b d a (R fun f=>e (n/10) (by omega) (by omega) f)
theorem nF{z:Int}(c:0≤z)(f:z<1000000000)(w:World):Calls prog 11 #[.int .i64 z] w fun b e=>b=.returned (aG (Lib.itoa z))∧J w e:=by
 obtain⟨a,rfl⟩:=Int.eq_ofNat_of_zero_le c;have d:Lib.itoa (a:Int)=Lib.decDigits a:=by unfold Lib.itoa;rw[if_neg (by omega),Int.toNat_natCast]
 rw[d];exact qh a (by omega) w
theorem Ae(n:Nat)(i:0<n)(e:n<9223372036854775808)(w:World):Calls prog 11 #[.int .i64 (-(n:Int))] w fun d f=>d=.returned (aG (45::Lib.decDigits n))∧J w f:=by
 have a:=R (qh n e);have m:-(n:Int)<0:=by omega
 have q:(n:Int)≤9223372036854775807:=by omega
 have p:(0:Int)<(n:Int):=by omega
 have o:(-(n:Int)==(n:Int))=false:=by simp;omega
 have j:=mX [45] (Lib.decDigits n);have k:¬9223372036854775807<1+(ByteArray.mk (Lib.decDigits n).toArray).size:=by have:=kV n 19 (by omega) (by omega);simp only[ByteArray.size,List.size_toArray];omega
 have l:Hid (- -(n:Int)=(n:Int)):=R (by omega);unfold aG at*;rw[show(45::Lib.decDigits n)=[45]++Lib.decDigits n from rfl];generalize(ByteArray.mk (Lib.decDigits n).toArray)=g at*;generalize(ByteArray.mk ([45]++Lib.decDigits n).toArray)=h at*;go_enter func11,ntmps11;go_wp2_with fail;refine((U a) _).mono ?_;rintro _ r⟨rfl,b⟩;have c:=R b;clear b a;go_wp2_with fail;go_ret;exact⟨rfl,U c⟩
theorem Ad(w:World):Calls prog 11 #[.int .i64 (-9223372036854775808)] w fun a c=>a=.returned (.string ⟨#[45,57,50,50,51,51,55,50,48,51,54,56,53,52,55,55,53,56,48,56]⟩)∧J w c:=by
 have b:wrap64 9223372036854775808=-9223372036854775808:=by kernel_rfl
 have d:((-9223372036854775808:Int)==wrap64 9223372036854775808)=true:=by rw[b];rfl
 go_enter func11,ntmps11;go_wp2_with fail;go_ret;exact⟨rfl,J.refl _⟩
theorem CZ:Lib.itoa (-9223372036854775808)=[45,57,50,50,51,51,55,50,48,51,54,56,53,52,55,55,53,56,48,56]:=by unfold Lib.itoa;rw[if_pos (by omega)];simp[jX,fL]
theorem tF{z:Int}(d:aI z)(w:World):Calls prog 11 #[.int .i64 z] w fun c h=>c=.returned (aG (Lib.itoa z))∧J w h:=by
 unfold aI at d;by_cases e:0≤z
 ·obtain⟨a,rfl⟩:=Int.eq_ofNat_of_zero_le e;have b:Lib.itoa (a:Int)=Lib.decDigits a:=by unfold Lib.itoa;rw[if_neg (by omega),Int.toNat_natCast]
  rw[b];exact qh a (by omega) w
 ·by_cases g:z=-9223372036854775808;·subst g;rw[CZ];exact Ad w
  ·obtain⟨a,f⟩:∃a:Nat,z=-(a:Int):=⟨(-z).toNat,by omega⟩;subst f;have b:Lib.itoa (-(a:Int))=45::Lib.decDigits a:=by unfold Lib.itoa;rw[if_pos (by omega)];simp
   rw[b];exact Ae a (by omega) (by omega) w
def Eh:Array Value:=#[.string ⟨#[112,117,115,104]⟩,.string ⟨#[112,111,112]⟩,.string ⟨#[108,111,97,100]⟩,.string ⟨#[115,116,111,114,101]⟩,.string ⟨#[97,100,100]⟩,.string ⟨#[115,117,98]⟩,.string ⟨#[109,117,108]⟩,.string ⟨#[108,101,115,115]⟩,.string ⟨#[115,97,109,101]⟩,.string ⟨#[106,117,109,112]⟩,.string ⟨#[122,101,114,111]⟩,.string ⟨#[99,97,108,108]⟩,.string ⟨#[114,101,116,117,114,110]⟩,.string ⟨#[109,97,107,101]⟩,.string ⟨#[114,101,115,117,109,101]⟩,.string ⟨#[121,105,101,108,100]⟩,.string ⟨#[112,117,116]⟩]
theorem Ei(k:Nat)(a:k<17):Eh[k]?=some (aG (aJ.getD k ([],0)).1):=by
 have:k=0∨k=1∨k=2∨k=3∨k=4∨k=5∨k=6∨k=7∨k=8∨k=9∨k=10∨k=11∨k=12∨k=13∨k=14∨k=15∨k=16:=by omega
 rcases this with rfl|rfl|rfl|rfl|rfl|rfl|rfl|rfl|rfl|rfl|rfl|rfl|rfl|rfl|rfl|rfl|rfl<;>rfl
theorem mN(w:World):Calls prog 45 #[] w fun d c=>∃b,d=.returned (.slice (some ⟨b,0,none⟩) 17 17)∧(∀a,a<17→c.cell? ⟨b,a,none⟩=some (aG (aJ.getD a ([],0)).1))∧J w c:=by go_enter func45,ntmps45;go_wp2_with fail;go_ret;refine⟨_,rfl,fun a e=>?_,(J.refl w).alloc _⟩;rw[ab (ah rfl)];exact Ei a e
theorem Cw(k:Nat)(b:k<17)(w:World):Calls prog 76 #[.int .i64 (k:Int)] w fun a c=>a=.returned (.bool ((aJ.getD k ([],0)).2 !=0))∧J w c:=by
 have:k=0∨k=1∨k=2∨k=3∨k=4∨k=5∨k=6∨k=7∨k=8∨k=9∨k=10∨k=11∨k=12∨k=13∨k=14∨k=15∨k=16:=by omega
 rcases this with rfl|rfl|rfl|rfl|rfl|rfl|rfl|rfl|rfl|rfl|rfl|rfl|rfl|rfl|rfl|rfl|rfl<;>·clear b;go_enter func76,ntmps76;go_wp2_with fail;go_ret;exact⟨rfl,J.refl w⟩
def dw:Nat→List UInt8→Option Nat
 |b,[]=>some b
 |b,a::c=>if a.toNat<48∨57<a.toNat then none else dw (10*b+(a.toNat-48)) c
def dy(l:List UInt8):Int:=if 1≤l.length∧l.length≤6 then match dw 0 l with|some a=>if Lib.itoa (a:Int)=l then(a:Int)else-1|none=>-1 else-1
def fk(p:List Fn)(a:List (List UInt8)):List Fn:=if a.getD 0 []=[102,117,110,99]then p++[⟨dy (a.getD 1 []),dy (a.getD 2 []),[]⟩]else match dW (a.getD 0 [])with|some b=>fI p ((b:Int),max 0 (dy (a.getD 1 [])))|none=>p
def cU(l:List UInt8):List Fn:=(ao 10 l).foldl (fun a b=>fk a (ao 32 b++[[],[]])) []
theorem tA:∀(l:List UInt8)(n v:Nat)(c:UInt8),dw n l=some v→dw n (l++[c])=dw v [c]
 |[],n,v,c,a=>by cases a;rfl
 |d::l,n,v,c,a=>by
  rw[List.cons_append];unfold dw at a⊢;split at a;·cases a
  ·rename_i b;rw[if_neg b];exact tA l _ v c a
theorem tB(n:Nat):dw 0 (Lib.decDigits n)=some n:=by
 induction n using Nat.strongRecOn with
 |ind n b=>
  unfold Lib.decDigits;split;·rename_i a;unfold dw;rw[kW a,if_neg (by omega)];simp[dw]
  ·rename_i a;rw[tA _ 0 (n/10) _ (b (n/10) (by omega))];unfold dw;rw[kW (by omega),if_neg (by omega)];simp only[dw,Option.some.injEq];omega
theorem rp{z:Int}(b:0≤z∧z≤999):dy (Lib.itoa z)=z:=by
 have d:=uK b;obtain⟨a,rfl⟩:=Int.eq_ofNat_of_zero_le b.1;have c:Lib.itoa (a:Int)=Lib.decDigits a:=by unfold Lib.itoa;rw[if_neg (by omega),Int.toNat_natCast]
 have e:=qe a;unfold dy;rw[c]at d⊢;have:1≤(Lib.decDigits a).length:=by
  cases f:Lib.decDigits a with
  |nil=>exact absurd f e
  |cons g h=>simp
 rw[if_pos ⟨this,by omega⟩,tB];simp only;rw[if_pos c]
theorem Iy(p:List Fn){a b:Int}(c:0≤a∧a≤999)(d:0≤b∧b≤999):fk p (ao 32 (ga [102,117,110,99] [a,b])++[[],[]])=p++[⟨a,b,[]⟩]:=by rw[(jA (wd:=[102,117,110,99]) (l:=[a,b]) (by decide) (by simp;omega)).1];simp[fk,rp c,rp d]
theorem Et:dy []=-1:=rfl
theorem Iz(q:List Fn)(f:Fn){x:Int×Int}(g:0≤x.1∧x.1<17)(h2:0≤x.2∧x.2≤999)(h3:(aJ.getD x.1.toNat ([],0)).2=0→x.2=0):fk (q++[f]) (ao 32 (fw x)++[[],[]])=q++[⟨f.args,f.locals,f.code++[x]⟩]:=by
 obtain⟨a,h⟩:=x;obtain⟨a,rfl⟩:=Int.eq_ofNat_of_zero_le g.1;simp only[Int.toNat_natCast]at h3⊢;have b:a<17:=by omega
 have d:∀e:List Int,(((aJ.getD a ([],0)).1::e.map Lib.itoa)++[[],[]]).getD 0 []=(aJ.getD a ([],0)).1:=fun e=>by simp
 unfold fw;simp only[Int.toNat_natCast];by_cases c:(aJ.getD a ([],0)).2=0;·rw[if_pos c,(jA (mZ a) (by simp)).1];unfold fk;rw[d,if_neg (se a b),pr a b,h3 c];simp[fI,Et];omega
 ·rw[if_neg c,(jA (mZ a) (by simpa using h2.1)).1];unfold fk;rw[d,if_neg (se a b),pr a b];simp[fI,rp h2];omega
def gO(p:List Fn)(ls:List (List UInt8)):List Fn:=ls.foldl (fun p a=>fk p (ao 32 a++[[],[]])) p
theorem uc(q:List Fn)(a b:Int):∀(c e:List (Int×Int)),(∀d∈c,(0≤d.1∧d.1<17)∧(0≤d.2∧d.2≤999)∧((aJ.getD d.1.toNat ([],0)).2=0→d.2=0))→gO (q++[⟨a,b,e⟩]) (c.map fw)=q++[⟨a,b,e++c⟩]
 |[],e,_=>by simp[gO]
 |d::c,e,f=>by obtain⟨h,h2,h3⟩:=f d (by simp);have i:=Iz q ⟨a,b,e⟩ h h2 h3;have g:=uc q a b c (e++[d]) (fun k j=>f k (by simp[j]));unfold gO at g⊢;rw[List.map_cons,List.foldl_cons,i,g];simp
theorem ub:∀(p q:List Fn),(∀c∈p,(0≤c.args∧c.args≤4)∧(0≤c.locals∧c.locals≤4)∧c.code.length≤24∧∀d∈c.code,(0≤d.1∧d.1<17)∧(0≤d.2∧d.2≤999)∧((aJ.getD d.1.toNat ([],0)).2=0→d.2=0))→gO q (eu p)=q++p
 |[],q,_=>by simp[eu,gO]
 |c::p,q,e=>by
  obtain⟨n,h2,_,k⟩:=e c (by simp);have i:eu (c::p)=(ga [102,117,110,99] [c.args,c.locals]::c.code.map fw)++eu p:=by simp[eu]
  have m:=Iy q (a:=c.args) (b:=c.locals) (by omega) (by omega);have f:gO q (ga [102,117,110,99] [c.args,c.locals]::c.code.map fw)=q++[c]:=by have g:=uc q c.args c.locals c.code [] k;unfold gO at g⊢;rw[List.foldl_cons,m,g];rfl
  have h:=ub p (q++[c]) (fun j l=>e j (by simp[l]));rw[i];unfold gO at f h⊢;rw[List.foldl_append,f,h];simp
theorem Dj:dW []=none:=by decide
theorem Cb{p:List Fn}(d:gL p):cU (bI p)=p:=by
 have c:=ub p [] d.fn;rw[List.nil_append]at c;have g:ao 10 (bI p)=eu p++[[]]:=by
  have f:bI p=Lib.join (eu p++[[]]) [10]:=by
   rw[wT];generalize eu p=b;induction b with
   |nil=>simp[Lib.join_one]
   |cons e b h=>
    rw[List.flatMap_cons,h,List.cons_append,Lib.join_cons];cases b with
    |nil=>simp[Lib.joinTail,Lib.join_one]
    |cons i b=>simp[Lib.joinTail,Lib.join_cons]
  rw[f];exact pd (by simp) (fun e a=>by
   rcases List.mem_append.1 a with a|a;·exact ve d e a
   ·simp at a;subst a;simp)
 unfold cU;unfold gO at c;rw[g,List.foldl_append,c];simp[fk,ao,Dj]
def ie(l:List UInt8):List Fn×Bool:=if aL (cU l)=0∧bI (cU l)=l then(cU l,true)else([],false)
theorem Ca{l:List UInt8}(g:l.length≤8192):dm l=((ie l).1,if(ie l).2=true then 0 else 1):=by
 unfold ie;by_cases a:aL (cU l)=0∧bI (cU l)=l;·rw[if_pos a];have:=wt a.1;rw[a.2]at this;rw[this];rfl
 ·rw[if_neg a];have b:(dm l).2≠0:=fun e=>by obtain⟨c,d⟩:=rH e;have:=Cb (kq c);rw[d]at this;exact a (by rw[this];exact⟨c,d⟩)
  unfold dm at b⊢;rw[if_pos g]at b⊢;split at b
  ·split at b;·exact absurd rfl b
   ·rename_i f;simp[f]
  ·rfl
open Go.RowKit
theorem bM(i l n:Int)(w:World):Calls prog 73 #[.int .i64 i,.int .i64 l,.int .i64 n] w fun a c=>a=.returned (.bool (ax i l n))∧w=c:=by
 by_cases b:l≤i
 ·by_cases h2:i≤n;·rw[fM b h2];go_enter func73,ntmps73;go_wp2;go_ret;exact⟨rfl,rfl⟩
  ·rw[ig (by omega)];go_enter func73,ntmps73;go_wp2;go_ret;exact⟨rfl,rfl⟩
 ·rw[ig (by omega)];go_enter func73,ntmps73;go_wp2;go_ret;exact⟨rfl,rfl⟩
theorem qg:∀(l:List UInt8)(n v k:Nat),dw n l=some v→n<10^k→v<10^(k+l.length)
 |[],n,v,k,a,b=>by cases a;simpa using b
 |c::l,n,v,k,a,b=>by
  unfold dw at a;split at a;·cases a
  ·rename_i e;have d:10*n+(c.toNat-48)<10^(k+1):=by rw[Nat.pow_succ];omega
   have:=qg l _ v (k+1) a d;rw[List.length_cons,show k+(l.length+1)=k+1+l.length by omega];exact this
theorem tD:∀(l:List UInt8)(n k v:Nat)(c:UInt8),dw n (l.take k)=some v→l[k]?=some c→dw n (l.take (k+1))=dw v [c]∧((c.toNat<48∨57<c.toNat)→dw n l=none)
 |[],n,k,v,c,_,a=>by simp at a
 |h::l,n,0,v,c,a,b=>by simp only[List.take_zero,dw,Option.some.injEq]at a;subst a;simp only[List.getElem?_cons_zero,Option.some.injEq]at b;subst b;refine⟨by simp,fun d=>?_⟩;unfold dw;rw[if_pos d]
 |h::l,n,k+1,v,c,a,b=>by
  rw[List.take_succ_cons]at a⊢;rw[List.getElem?_cons_succ]at b;unfold dw at a;split at a;·cases a
  ·rename_i e;obtain⟨f,g⟩:=tD l _ k v c a b;refine⟨by rw[dw,if_neg e];exact f,fun d=>by rw[dw,if_neg e];exact g d⟩
theorem qJ{l:List UInt8}{k:Nat}{c:UInt8}(a:l[k]?=some c)(u:World):(Instr.index 9 (.string ⟨l.toArray⟩) (.int .i64 (k:Int))).run prog u=.ok (.int .u8 (c.toNat:Nat)) u:=by
 obtain⟨d,h2⟩:=List.getElem?_eq_some_iff.1 a;have b:(ByteArray.mk l.toArray).size=l.length:=by simp[ByteArray.size]
 rw[run_index_string _ _ _ _ _ underlying9,dif_pos ⟨by omega,by rw[b];omega⟩];subst h2;rfl
theorem rq(w:World)(l:List UInt8)(a7:l.length≤100000):Calls prog 44 #[.string ⟨l.toArray⟩] w fun Q Y=>Q=.returned (.int .i64 (dy l))∧J w Y:=by
 have a9:(ByteArray.mk l.toArray).size=l.length:=by simp[ByteArray.size]
 have h:=R (bM (l.length:Int) 1 6 w);by_cases n:1≤l.length∧l.length≤6
 ·rw[fM (by omega) (by omega)]at h;have N:=R n;obtain⟨_,a8⟩:=n;have p:Hid (∀(b:Nat)(d:UInt8),l[b]?=some d→∀o,(Instr.index 9 (.string ⟨l.toArray⟩) (.int .i64 (b:Int))).run prog o=.ok (.int .u8 (d.toNat:Nat)) o):=R (fun b d T o=>qJ T o);generalize G:(ByteArray.mk l.toArray)=t at*;have B:=R G;clear G;go_enter func44,ntmps44;go_wp2_with fail;refine(U h).mono ?_;rintro _ _⟨rfl,rfl⟩;clear h;go_wp2_with fail;have x:Hid (dw 0 (l.take 0)=some 0):=R rfl;generalize E:l.length=j at*;have r:=R E;clear E;go_loopw[3,4](fun X v wr=>∃(b a:Nat),b≤j∧X=.int .i64 (a:Int)∧v=.int .i64 (b:Int)∧wr=w∧Hid (dw 0 (l.take b)=some a))(fun _ v _=>j-(intOf v).toNat);case atStart=>exact⟨0,0,Nat.zero_le _,rfl,rfl,rfl,x⟩
  case round=>
   obtain⟨b,a,a6,rfl,rfl,rfl,i⟩:=hrel;clear x;have b1:a<1000000:=by have:=qg _ 0 a 0 (U i) (by simp);have h2:10^(0+(l.take b).length)≤10^6:=Nat.pow_le_pow_right (by omega) (by simp;omega);have h3:(10:Nat)^6=1000000:=rfl;omega
   by_cases W:b<j
   ·obtain⟨d,u⟩:∃d,l[b]?=some d:=⟨_,List.getElem?_eq_getElem (by rw[U r];exact W)⟩;have a3:=(U p) b d u;obtain⟨L,M⟩:=tD l 0 b a d (U i) u;have a4:(0:Int)≤(b:Int):=by omega
    have a5:(b:Int)<(j:Int):=by omega
    have z:=R L;have A:=R M;have a2:d.toNat<256:=d.toNat_lt;generalize F:d.toNat=c at*;have y:=R F;clear L M u i p F;by_cases k:c<48∨57<c
    ·have e:Hid (dy l=-1):=R (by unfold dy;rw[(U A) k];split<;>rfl);by_cases a0:c<48
     ·have D:(c:Int)<48:=by omega
      clear k;go_wp2_with fail;go_ret;exact⟨by rw[U e];rfl,J.refl _⟩
     ·have D:¬(c:Int)<48:=by omega
      have S:(57:Int)<(c:Int):=by omega
      clear k;go_wp2_with fail;go_ret;exact⟨by rw[U e];rfl,J.refl _⟩
    ·have D:¬(c:Int)<48:=by omega
     have S:¬(57:Int)<(c:Int):=by omega
     have O:Hid (dw 0 (l.take (b+1))=some (10*a+(c-48))):=R (by rw[U z];unfold dw;rw[U y,if_neg k];rfl);have C:Hid (10*(a:Int)+((c:Int)-48)=((10*a+(c-48):Nat):Int)):=R (by omega);have K:(0:Int)≤(a:Int):=by omega
     have b0:(a:Int)<1000000:=by omega
     have a1:(c:Int)<256:=by omega
     clear k z A y;go_wp2_with fail;go_roundw;case rel=>exact⟨b+1,10*a+(c-48),by omega,by first|rw[←U C]|(congr 1;have:=U C;omega),by go_num,trivial,O⟩
     case measure=>simp[intOf];omega
   ·obtain rfl:b=j:=by omega
    have H:dw 0 l=some a:=by have:=U i;rwa[←U r,List.take_length]at this
    have K:(0:Int)≤(a:Int):=by omega
    have f:=R (nF K (by omega) wr);have e:Hid (dy l=if Lib.itoa (a:Int)=l then(a:Int)else-1):=R (by unfold dy;rw[if_pos (by rw[U r];exact U N),H]);clear H i p;by_cases g:Lib.itoa (a:Int)=l
    ·have V:((ByteArray.mk (Lib.itoa (a:Int)).toArray).toList==t.toList)=true:=by rw[←U B,g];simp
     have s:Hid (dy l=a):=R (by rw[U e,if_pos g]);unfold aG at f;generalize(ByteArray.mk (Lib.itoa (a:Int)).toArray)=P at*;clear e g;go_wp2_with fail;refine(U f).mono ?_;rintro _ Z⟨rfl,m⟩;have q:=R m;clear m f;go_wp2_with fail;go_ret;exact⟨by rw[U s];rfl,U q⟩
    ·have V:((ByteArray.mk (Lib.itoa (a:Int)).toArray).toList==t.toList)=false:=by rw[←U B,ByteArray.toList_mk,ByteArray.toList_mk];simpa using g
     have s:Hid (dy l=-1):=R (by rw[U e,if_neg g]);unfold aG at f;generalize(ByteArray.mk (Lib.itoa (a:Int)).toArray)=P at*;clear e g;go_wp2_with fail;refine(U f).mono ?_;rintro _ Z⟨rfl,m⟩;have q:=R m;clear m f;go_wp2_with fail;go_ret;exact⟨by rw[U s];rfl,U q⟩
 ·rw[ig (by omega)]at h;have I:dy l=-1:=by unfold dy;rw[if_neg n]
  rw[I];generalize(ByteArray.mk l.toArray)=t at*;generalize l.length=b2 at*;clear I n;go_enter func44,ntmps44;go_wp2_with fail;refine(U h).mono ?_;rintro _ _⟨rfl,rfl⟩;go_wp2_with fail;go_ret;exact⟨rfl,J.refl w⟩
theorem Ev{b:List UInt8}{n:Int}(a:cu b=some n):dy b=n∧0≤n:=by
 have e:=vu a;unfold cu at a;split at a
 ·split at a
  ·rename_i d;cases a;obtain⟨c,rfl⟩:=Int.eq_ofNat_of_zero_le d.1;have f:=qe c;rw[nR]at e;subst e;have:1≤(Lib.decDigits c).length:=by
    cases g:Lib.decDigits c with
    |nil=>exact absurd g f
    |cons h i=>simp
   unfold dy;rw[if_pos ⟨this,d.2.1⟩,tB];simp only;rw[if_pos (nR c)];exact⟨rfl,d.1⟩
  ·cases a
 ·cases a
theorem Eu{b:List UInt8}(e:cu b=none):dy b=-1:=by
 unfold dy;split
 ·rename_i c;split
  ·rename_i d g;split;·rename_i a;exfalso;have f:=qg _ 0 d 0 g (by simp);rw[Nat.zero_add]at f;have h:(10:Nat)^b.length≤10^6:=Nat.pow_le_pow_right (by omega) c.2;rw[nR]at a;have:=vw (k:=d) (by omega) (by rw[a];exact c.2);rw[a,e]at this;cases this
   ·rfl
  ·rfl
 ·rfl
def mo(base b:Nat)(d:St)(c:Value)(w:World)(e:Ending)(w':World):Prop:=e=.returned c∧∃a,ag base w' b a d∧Below base w w'
theorem Jd(b N capF gF i q cap g:Nat)(w:World)(j:i<N)(m:0<q)(n:q≤1000)(f:w.cell? ⟨b,0,none⟩=some (.slice (some ⟨gF,0,none⟩) N capF))(h:w.cell? ⟨gF,i*2,none⟩=some (.slice (some ⟨g,0,none⟩) q cap)):Calls prog 144 #[.pointer (some ⟨b,0,none⟩),.int .i64 i] w fun c e=>c=.returned (.pointer (some ⟨g,(q-1)*4,none⟩))∧∃d,e=w.drewN d:=by
 obtain⟨a,rfl⟩:∃a,q=a+1:=⟨q-1,by omega⟩;have l:(i:Int)<(N:Int):=by omega
 have k:(0:Int)≤(i:Int):=by omega
 have s:IntKind.i64.wrap (((a+1:Nat):Int)-1)=(a:Int):=by rw[IntKind.wrap_i64];omega
 have t:IntKind.i64.wrap ((a:Int)+1-1)=(a:Int):=by rw[IntKind.wrap_i64];omega
 have o:(a:Int)+1-1=(a:Int):=by omega
 have r:(a:Int)<(a:Int)+1:=by omega
 have p:(0:Int)≤(a:Int):=by omega
 go_enter func144,ntmps144;go_wp2;go_quiet(fail);go_wp2;go_ret;exact⟨rfl,_,rfl⟩
theorem fm{base c:Nat}{w:World}{V:Key→Value}{s:St}(d:ag base w c V s){i:Nat}(e:i<s.I.length)(h:0<(aa s i).U.length)(o:(aa s i).U.length≤1000):∃a b,V (.U i)=.slice (some ⟨a,0,none⟩) (aa s i).U.length b∧Calls prog 144 #[.pointer (some ⟨c,0,none⟩),.int .i64 i] w fun l q=>l=.returned (.pointer (some ⟨a,((aa s i).U.length-1)*4,none⟩))∧∃p,q=w.drewN p:=by obtain⟨n,k,m,_,k0,_⟩:=d.own.JL e;obtain⟨a,b,g,_,_⟩:=d.own.fr e (j:=0) h;obtain⟨f,_⟩:=d.cells;rw[m]at f;rw[g]at k0;exact⟨a,b,g,Jd c _ k n i _ b a w e h o f k0⟩
theorem kp(base g:Nat)(V:Key→Value)(s:St)(i:Nat)(z:Int)(w:World)(n:ag base w g V s)(e:i<s.I.length)(a6:0<(aa s i).U.length)(a7:(aa s i).U.length≤1000)(b8:(ae s i ((aa s i).U.length-1)).stack.length≤1000):Calls prog 145 #[.pointer (some ⟨g,0,none⟩),.int .i64 i,.int .i64 z] w fun b b3=>mo base g (aO s i z) (.tuple #[]) w b b3:=by
 obtain⟨b1,a5,a8,a9,b0⟩:=info_parts iE;obtain⟨d,W,Y,F⟩:=fm n e a6 a7;unfold aO;rw[gj];generalize b7:(aa s i).U.length-1=a at*;have j:a<(aa s i).U.length:=by omega
 have T:=R F;have O:=R n;have l:=R Y;clear F n;go_enter func145,ntmps145;go_wp2_with fail;refine(U T).mono ?_;rintro b c⟨rfl,H,rfl⟩;generalize p:w.drewN H=c;have f:ag base c g V s:=(U O).same (by rw[←p];rfl);have y:Below base w c:=by rw[←p];exact Go.below_drewN (Below.refl _ w) H
 obtain⟨a2,X,m,_,u,Z,a0,a1,v,b6⟩:=f.own.fr e j;rw[U l]at m;obtain⟨⟨rfl⟩,-,rfl⟩:=(by simpa using m:(d=a2)∧True∧W=X);have E:=f.own.JN e j;have D:=bJ u;simp only at D;have a3:base≤c.heap.size:=by omega
 have B:(V (.stack i a)).ownBlock≠some d:=fun b=>by have:=f.own.apart (.stack i a) (.U i) d ⟨e,j⟩ e b (by rw[U l];rfl);cases this
 have P:=R f;have L:=R y;have S:=R E;have a4:=v (a*4+3);generalize G:V (.stack i a)=b2 at*;have r:=R G;generalize C:(ae s i a).stack=q at*;have N:=R C;clear p y f G C E u Z a0 v m;go_wp2_with(at_builtin;refine wpList_append_own_at _ rfl _ _ 30 rfl base 3 b1 (.int .i64 0) 1 8 underlying30 a5 a8 a9 b0 rfl (by decide) _ _ _ rfl ((U S).alloc _) ⟨c.heap.size,0,none⟩ 1 1 [.int .i64 z] rfl rfl (lq _ _ _) (kb _) (by unfold maxLen;omega) (by omega) (by simp;omega) ?_;intro b9 k o h _ x;obtain⟨I,t,rfl,-⟩:=aR o;have b4:k.cell? ⟨d,a*4+3,none⟩=some b2:=h.cell (((J.refl c).alloc _).cell a1) (fun b=>B b.symm);have b5:k.frozen? ⟨d,a*4+3,none⟩=false:=(World.frozen?_of_block (h.block d (by simp;omega) (fun b=>B b.symm))).trans ((World.frozen?_of_block (Below.heap_alloc c _ d D)).trans a4);have Q:=R o;have M:=R h;have K:=R x;clear o h x);go_end0;have A:=((U P).alloc (.cells #[.int .i64 z] 3)).Ko (w2:=k) e j (U l) (.slice I (q.length+1) t) (q++[z]) (by rw[U r];exact U M) (by rw[ke,List.length_append];exact U Q) (by rw[U r];exact U K);unfold mo;refine⟨rfl,aC V (.stack i a) (.slice I (q.length+1) t),?_,?_⟩;·rw[U N];exact A.1
 ·exact Below.trans (U L) (Below.trans (Below.alloc (Below.refl _ c) a3 _) A.2)
