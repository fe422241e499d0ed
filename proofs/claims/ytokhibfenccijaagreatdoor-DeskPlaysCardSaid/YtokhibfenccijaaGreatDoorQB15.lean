import Derived.Test.YtokhibfenccijaaGreatDoorQB14
set_option maxRecDepth 100000
set_option maxHeartbeats 8000000
namespace Go.Proofs.YtokhibfenccijaaGreatDoor
open Go.Proofs.Tryz
open Go.RowKit Go.Maps
theorem zK(w:World)(e:Nat)(K:Value)(s:St)(u:(St×List (List UInt8))⊕Int)(b o cap:Nat)(a c:List UInt8)(n:Int)(k:w.cell? ⟨b,o,none⟩=some (.string ⟨a.toArray⟩))(O:w.cell? ⟨b,o+1,none⟩=some (.string ⟨c.toArray⟩))(C:a.length≤100000)(z:Hid (Calls prog 71 #[.string ⟨c.toArray⟩] w fun A Q=>A=.returned (.tuple #[.int .i64 n,.bool true])∧J w Q))(G:(fB e).atKey (.string a) (.held .nilFunc)=.held (bP 107 e))(F:has (fB e) (.string a)=true)(x:Hid (∀d,J w d→Calls prog 107 #[.pointer (some ⟨e,0,none⟩),.int .i64 n] d (cT e K s u d))):Calls prog 42 #[.pointer (some ⟨e,0,none⟩),.slice (some ⟨b,o,none⟩) 2 cap] w (cT e K s u w):=by
 have y:Hid (∀(d:World)(q:Nat),d.ownsMap prog 9 fx q 2 (fB e)→(Instr.lookup 125 (.map (some q)) (.string ⟨a.toArray⟩) true).run prog d=.ok (.tuple #[bP 107 e,.bool true]) d):=R fun d q P=>iI underlying125 (pA d) P a C G F;generalize(ByteArray.mk a.toArray)=X at*;generalize(ByteArray.mk c.toArray)=W at*;clear C G F;go_enter func42,ntmps42;go_wp2_with fail;refine(U z).mono ?_;rintro _ h⟨rfl,t⟩;have N:=R t;have v:=R (nE h.drew e);replace k:=t.cell k;clear t O z;go_wp2_with fail;refine wp_region_held_drew (S:=fun T=>J h T) (by kernel_rfl) ((J.refl h).drew) (fun f=>?_);refine bQ [0,2,3,4] ?_;repeat
  refine bS (v:=?_) f (fun d B=>?_) ?_;rotate_left;·(have V:=B.cell k;(try dsimp only at V);go_simp)<;>with_reducible rfl
  try simp only[PS]
 refine bO ?_;refine take_one (i:=1) rfl (by kernel_rfl) (fun p g=>?_);go_simp;refine(U v).mono ?_;rintro _ L⟨rfl,E,H⟩;have r:J h L:=f.trans H;have m:=R ((U N).trans r);have D:=(U y) L h.heap.size E;dsimp only[bP]at D;clear H v k y E;refine g.out _ _ r (fun f=>?_);clear g p r;try simp only[PS]
 refine take_one (i:=5) rfl (by kernel_rfl) (fun p g=>?_);go_simp;refine g.out _ _ f (fun f=>?_);clear g p D;try simp only[PS]
 refine bQ [6,7,8,9,10] ?_;repeat
  refine bS (v:=?_) f (fun d B=>?_) ?_;rotate_left;·go_simp<;>with_reducible rfl
  try simp only[PS]
 refine bO ?_;refine wpAnyH_done (by kernel_rfl) ?_ _;clear f;go_wp2_with fail;refine((U x) _ (U m)).mono ?_;rintro A Y l;replace l:=l.from (U m);cases u with
 |inl Z=>obtain⟨I,rfl,h2,h3,j⟩:=l;have M:=R (And.intro h2 (And.intro h3 j));clear h2 h3 j x m;go_wp2_with fail;go_ret;exact⟨_,rfl,U M⟩
 |inr a0=>obtain⟨rfl,h3,j⟩:=l;exact⟨rfl,rfl,h3,j⟩
theorem zC(w:World)(e:Nat)(K:Value)(s:St)(u:(St×List (List UInt8))⊕Int)(b o cap:Nat)(a c:List UInt8)(n:Int)(k:w.cell? ⟨b,o,none⟩=some (.string ⟨a.toArray⟩))(O:w.cell? ⟨b,o+1,none⟩=some (.string ⟨c.toArray⟩))(C:a.length≤100000)(z:Hid (Calls prog 71 #[.string ⟨c.toArray⟩] w fun A Q=>A=.returned (.tuple #[.int .i64 n,.bool true])∧J w Q))(G:(fB e).atKey (.string a) (.held .nilFunc)=.held (bP 108 e))(F:has (fB e) (.string a)=true)(x:Hid (∀d,J w d→Calls prog 108 #[.pointer (some ⟨e,0,none⟩),.int .i64 n] d (cT e K s u d))):Calls prog 42 #[.pointer (some ⟨e,0,none⟩),.slice (some ⟨b,o,none⟩) 2 cap] w (cT e K s u w):=by
 have y:Hid (∀(d:World)(q:Nat),d.ownsMap prog 9 fx q 2 (fB e)→(Instr.lookup 125 (.map (some q)) (.string ⟨a.toArray⟩) true).run prog d=.ok (.tuple #[bP 108 e,.bool true]) d):=R fun d q P=>iI underlying125 (pA d) P a C G F;generalize(ByteArray.mk a.toArray)=X at*;generalize(ByteArray.mk c.toArray)=W at*;clear C G F;go_enter func42,ntmps42;go_wp2_with fail;refine(U z).mono ?_;rintro _ h⟨rfl,t⟩;have N:=R t;have v:=R (nE h.drew e);replace k:=t.cell k;clear t O z;go_wp2_with fail;refine wp_region_held_drew (S:=fun T=>J h T) (by kernel_rfl) ((J.refl h).drew) (fun f=>?_);refine bQ [0,2,3,4] ?_;repeat
  refine bS (v:=?_) f (fun d B=>?_) ?_;rotate_left;·(have V:=B.cell k;(try dsimp only at V);go_simp)<;>with_reducible rfl
  try simp only[PS]
 refine bO ?_;refine take_one (i:=1) rfl (by kernel_rfl) (fun p g=>?_);go_simp;refine(U v).mono ?_;rintro _ L⟨rfl,E,H⟩;have r:J h L:=f.trans H;have m:=R ((U N).trans r);have D:=(U y) L h.heap.size E;dsimp only[bP]at D;clear H v k y E;refine g.out _ _ r (fun f=>?_);clear g p r;try simp only[PS]
 refine take_one (i:=5) rfl (by kernel_rfl) (fun p g=>?_);go_simp;refine g.out _ _ f (fun f=>?_);clear g p D;try simp only[PS]
 refine bQ [6,7,8,9,10] ?_;repeat
  refine bS (v:=?_) f (fun d B=>?_) ?_;rotate_left;·go_simp<;>with_reducible rfl
  try simp only[PS]
 refine bO ?_;refine wpAnyH_done (by kernel_rfl) ?_ _;clear f;go_wp2_with fail;refine((U x) _ (U m)).mono ?_;rintro A Y l;replace l:=l.from (U m);cases u with
 |inl Z=>obtain⟨I,rfl,h2,h3,j⟩:=l;have M:=R (And.intro h2 (And.intro h3 j));clear h2 h3 j x m;go_wp2_with fail;go_ret;exact⟨_,rfl,U M⟩
 |inr a0=>obtain⟨rfl,h3,j⟩:=l;exact⟨rfl,rfl,h3,j⟩
theorem tx(w:World)(d:Nat)(D:Value)(s:St)(b o cap:Nat)(a c:List UInt8)(n:Int)(H:Bool)(j:w.cell? ⟨b,o,none⟩=some (.string ⟨a.toArray⟩))(K:w.cell? ⟨b,o+1,none⟩=some (.string ⟨c.toArray⟩))(y:a.length≤100000)(u:Hid (Calls prog 71 #[.string ⟨c.toArray⟩] w fun I N=>I=.returned (.tuple #[.int .i64 n,.bool H])∧J w N))(B:(fB d).atKey (.string a) (.held .nilFunc)=.held .nilFunc)(A:has (fB d) (.string a)=false)(F:Hid (bU w d D s)):Calls prog 42 #[.pointer (some ⟨d,0,none⟩),.slice (some ⟨b,o,none⟩) 2 cap] w (cT d D s (.inr 1) w):=by
 have t:Hid (∀(f:World)(l:Nat),f.ownsMap prog 9 fx l 2 (fB d)→(Instr.lookup 125 (.map (some l)) (.string ⟨a.toArray⟩) true).run prog f=.ok (.tuple #[.nilFunc,.bool false]) f):=R fun f l M=>iI underlying125 (pA f) M a y B A;generalize(ByteArray.mk a.toArray)=T at*;generalize(ByteArray.mk c.toArray)=Q at*;clear y B A;go_enter func42,ntmps42;go_wp2_with fail;refine(U u).mono ?_;rintro _ h⟨rfl,p⟩;have G:=R p;have q:=R (nE h.drew d);replace j:=p.cell j;clear p K u;go_wp2_with fail;refine wp_region_held_drew (S:=fun O=>J h O) (by kernel_rfl) ((J.refl h).drew) (fun e=>?_);refine bQ [0,2,3,4] ?_;repeat
  refine bS (v:=?_) e (fun f x=>?_) ?_;rotate_left;·(have P:=x.cell j;(try dsimp only at P);go_simp)<;>with_reducible rfl
  try simp only[PS]
 refine bO ?_;refine take_one (i:=1) rfl (by kernel_rfl) (fun k g=>?_);go_simp;refine(U q).mono ?_;rintro _ E⟨rfl,z,C⟩;have m:J h E:=e.trans C;have r:=R ((U G).trans m);have L:=(U t) E h.heap.size z;clear C q j t z;refine g.out _ _ m (fun e=>?_);clear g k m;try simp only[PS]
 refine take_one (i:=5) rfl (by kernel_rfl) (fun k g=>?_);go_simp;refine g.out _ _ e (fun e=>?_);clear g k L;try simp only[PS]
 refine bQ [6,7,8,9,10] ?_;repeat
  refine bS (v:=?_) e (fun f x=>?_) ?_;rotate_left;·go_simp<;>with_reducible rfl
  try simp only[PS]
 refine bO ?_;refine wpAnyH_done (by kernel_rfl) ?_ _;clear e;go_wp2_with fail;exact⟨rfl,rfl,(U F).kept (U r),.of (U r)⟩
theorem zH(w:World)(d:Nat)(D:Value)(s:St)(b o cap:Nat)(a c:List UInt8)(n:Int)(v:Value)(j:w.cell? ⟨b,o,none⟩=some (.string ⟨a.toArray⟩))(I:w.cell? ⟨b,o+1,none⟩=some (.string ⟨c.toArray⟩))(y:a.length≤100000)(u:Hid (Calls prog 71 #[.string ⟨c.toArray⟩] w fun H M=>H=.returned (.tuple #[.int .i64 n,.bool false])∧J w M))(B:(fB d).atKey (.string a) (.held .nilFunc)=.held v)(A:has (fB d) (.string a)=true)(F:Hid (bU w d D s)):Calls prog 42 #[.pointer (some ⟨d,0,none⟩),.slice (some ⟨b,o,none⟩) 2 cap] w (cT d D s (.inr 1) w):=by
 have t:Hid (∀(f:World)(l:Nat),f.ownsMap prog 9 fx l 2 (fB d)→(Instr.lookup 125 (.map (some l)) (.string ⟨a.toArray⟩) true).run prog f=.ok (.tuple #[v,.bool true]) f):=R fun f l L=>iI underlying125 (pA f) L a y B A;generalize(ByteArray.mk a.toArray)=Q at*;generalize(ByteArray.mk c.toArray)=P at*;clear y B A;go_enter func42,ntmps42;go_wp2_with fail;refine(U u).mono ?_;rintro _ h⟨rfl,p⟩;have G:=R p;have q:=R (nE h.drew d);replace j:=p.cell j;clear p I u;go_wp2_with fail;refine wp_region_held_drew (S:=fun N=>J h N) (by kernel_rfl) ((J.refl h).drew) (fun e=>?_);refine bQ [0,2,3,4] ?_;repeat
  refine bS (v:=?_) e (fun f x=>?_) ?_;rotate_left;·(have O:=x.cell j;(try dsimp only at O);go_simp)<;>with_reducible rfl
  try simp only[PS]
 refine bO ?_;refine take_one (i:=1) rfl (by kernel_rfl) (fun k g=>?_);go_simp;refine(U q).mono ?_;rintro _ E⟨rfl,z,C⟩;have m:J h E:=e.trans C;have r:=R ((U G).trans m);have K:=(U t) E h.heap.size z;clear C q j t z;refine g.out _ _ m (fun e=>?_);clear g k m;try simp only[PS]
 refine take_one (i:=5) rfl (by kernel_rfl) (fun k g=>?_);go_simp;refine g.out _ _ e (fun e=>?_);clear g k K;try simp only[PS]
 refine bQ [6,7,8,9,10] ?_;repeat
  refine bS (v:=?_) e (fun f x=>?_) ?_;rotate_left;·go_simp<;>with_reducible rfl
  try simp only[PS]
 refine bO ?_;refine wpAnyH_done (by kernel_rfl) ?_ _;clear e;go_wp2_with fail;exact⟨rfl,rfl,(U F).kept (U r),.of (U r)⟩
theorem zM(w:World)(d:Nat)(j:Value)(s:St)(q:dt)(i:iQ w d j s q)(b o cap:Nat)(a c:List UInt8)(m:w.cell? ⟨b,o,none⟩=some (.string ⟨a.toArray⟩))(n:w.cell? ⟨b,o+1,none⟩=some (.string ⟨c.toArray⟩))(l:a.length≤100000)(y:c.length≤100000):Calls prog 42 #[.pointer (some ⟨d,0,none⟩),.slice (some ⟨b,o,none⟩) 2 cap] w (cT d j s (dU q s [a,c]) w):=by
 obtain⟨f,h2⟩:=JC d a;show Calls prog 42 #[.pointer (some ⟨d,0,none⟩),.slice (some ⟨b,o,none⟩) 2 cap] w (cT d j s (match cu c with|some g=>eV q s a g|none=>.inr 1) w);cases x:cu c with
 |none=>
  have k:=R (vx w c x y i.Kc i.Kp);by_cases e:a=[115,116,101,112]∨a=[104,101,105,103,104,116,115];·exact zH w d j s b o cap a c 0 _ m n l k f (by rw[h2];simpa using e) (R i.dk)
  ·have h:a≠[115,116,101,112]:=fun r=>e (.inl r);have t:a≠[104,101,105,103,104,116,115]:=fun r=>e (.inr r);rw[if_neg h,if_neg t]at f;exact tx w d j s b o cap a c 0 false m n l k f (by rw[h2];simpa using e) (R i.dk)
 |some g=>
  have k:=R (vy w c g x i.Kc);by_cases e:a=[115,116,101,112];·rw[if_pos e]at f;have p:=fun v u=>i.step v g u;rw[←e]at p;exact zK w d j s _ b o cap a c g m n l k f (by rw[h2];simp[e]) (R p)
  ·rw[if_neg e]at f;by_cases h:a=[104,101,105,103,104,116,115];·rw[if_pos h]at f;have p:=fun v u=>i.Kg v g u;rw[←h]at p;exact zC w d j s _ b o cap a c g m n l k f (by rw[h2];simp[h]) (R p)
   ·rw[if_neg h]at f;have t:eV q s a g=.inr 1:=by unfold eV;rw[if_neg e,if_neg h]
    simp only[t];exact tx w d j s b o cap a c g true m n l k f (by rw[h2];simp[e,h]) (R i.dk)
theorem zB(w:World)(d:Nat)(e:Value)(s:St)(h:dt)(k:iQ w d e s h)(lv:Value)(g:List (List UInt8))(r:fH w lv g)(c:∀t∈g,t.length≤100000):Calls prog 42 #[.pointer (some ⟨d,0,none⟩),lv] w (cT d e s (dU h s g) w):=by obtain⟨o,j,rfl,f,b⟩:=r;match g,b,c,f with|[],b,c,f=>exact tw w d e s (R k.dk) o 0 j (by decide) (by decide)|[a],b,c,f=>obtain⟨l,n,rfl,m⟩:=b 0 a rfl;exact zI w d e s h k l n j a m (c a (by simp))|[a,i],b,c,f=>obtain⟨l,n,rfl,m⟩:=b 0 a rfl;obtain⟨u,x,q,p⟩:=b 1 i rfl;cases q;exact zM w d e s h k l n j a i m p (c a (by simp)) (c i (by simp))|a::i::v::g,b,c,f=>exact tw w d e s (R k.dk) o _ j (by simp;omega) (by simp;omega)
theorem yc(v:Value)(w:World):(Instr.typeAssert (.iface 22 v) 20 22 false).run prog w=.ok v w:=by kernel_rfl
theorem cr.off{b:Nat}{w:World}{v:Value}{l:List (List UInt8)}(d:cr b w v l){f i:Nat}{c:Array Value}{t:TypeId}(o:w.heap[f]?=some (.cells c t))(u:Value)(p:t≠9:=by decide):cr b (w.setCell ⟨f,i,none⟩ u) v l:=by
 obtain⟨⟨m,h2⟩,h3⟩:=d;refine⟨⟨m,?_⟩,h3⟩;rcases h2 with d|⟨k,g,h,j,n,a,q⟩;·exact .inl d
 ·exact .inr ⟨k,g,h,j,n,bD a (fun e=>by simp only at e;subst e;rw[o]at a;simp only[Option.some.injEq,Obj.cells.injEq]at a;exact p a.2.1) _,q⟩
theorem yC(a:Nat)(e:Int)(A:aI e)(s:Value)(r:List PanicEntry)(w:World)(g:w.heap[a]?=some (.cells #[s] 38))(n:dv w):CallsD prog 40 #[.pointer (some ⟨a,0,none⟩)] (.panicking ({v:=.iface 22 (.int .i64 e),recovered:=false}::r)) w fun y D j=>y=.returned (.tuple #[])∧D=.panicking ({v:=.iface 22 (.int .i64 e),recovered:=true}::r)∧∃c b,j.heap[a]?=some (.cells #[.slice (some ⟨c,0,none⟩) 2 b] 38)∧cr w.heap.size j (.slice (some ⟨c,0,none⟩) 2 b) (br e)∧aA a w j:=by have h:w.cell? ⟨a,0,none⟩=some s:=ab g 0;have t:=an g 0;refine callsD_of_wpS func40 rfl fun F E C=>?_;apply wpS_seq;apply wpS_region;simp[wpOpsS,go_sem,recoverD,C,ntmps40,Exit.thenS];have o:(#[Value.pointer (some ⟨a,0,none⟩)]++((Array.replicate 7 undef).setIfInBounds 1 (Value.iface 22 (.int .i64 e))).setIfInBounds 0 (Value.iface 22 (.int .i64 e)))=#[Value.pointer (some ⟨a,0,none⟩),Value.iface 22 (.int .i64 e),Value.iface 22 (.int .i64 e),undef,undef,undef,undef,undef]:=rfl;rw[o];apply wpS_of_wp;have z:=yc (.int .i64 e);have k:=R (tO w e A n);have x:=R g;clear g n o h t;go_wp2_with fail;refine(U k).mono ?_;rintro _ f⟨c,b,rfl,h2,i⟩;have d:=aw i (U x);have h:=ab d 0;simp only[List.getElem?_toArray,List.getElem?_cons_zero]at h;have t:=an d 0;have q:=ay d 0 (.slice (some ⟨c,0,none⟩) 2 b);have l:aA a w (f.setCell ⟨a,0,none⟩ (.slice (some ⟨c,0,none⟩) 2 b)):=(aA.of (B:=a) i).setCell (p:=⟨a,0,none⟩) (.inl rfl) _;have m:cr w.heap.size (f.setCell ⟨a,0,none⟩ (.slice (some ⟨c,0,none⟩) 2 b)) (.slice (some ⟨c,0,none⟩) 2 b) (br e):=h2.off d _;have u:Hid ((f.setCell ⟨a,0,none⟩ (.slice (some ⟨c,0,none⟩) 2 b)).heap[a]?=some (.cells #[.slice (some ⟨c,0,none⟩) 2 b] 38)∧cr w.heap.size (f.setCell ⟨a,0,none⟩ (.slice (some ⟨c,0,none⟩) 2 b)) (.slice (some ⟨c,0,none⟩) 2 b) (br e)∧aA a w (f.setCell ⟨a,0,none⟩ (.slice (some ⟨c,0,none⟩) 2 b))):=R ⟨by simpa using q,m,l⟩;clear h2 i d q l m k z;go_wp2_with fail;exact⟨rfl,_,rfl,_,(by simp[results,results40,go_sem]),rfl,rfl,c,b,U u⟩
theorem uC(a:Nat)(w:World):CallsD prog 40 #[.pointer (some ⟨a,0,none⟩)] .returning w fun c f g=>c=.returned (.tuple #[])∧f=.returning∧g=w:=by refine callsD_of_wpS func40 rfl fun b h e=>?_;apply wpS_seq;apply wpS_region;simp[wpOpsS,go_sem,recoverD,e,ntmps40,Exit.thenS];have d:(#[Value.pointer (some ⟨a,0,none⟩)]++((Array.replicate 7 undef).setIfInBounds 1 Value.nilIface).setIfInBounds 0 Value.nilIface)=#[Value.pointer (some ⟨a,0,none⟩),Value.nilIface,Value.nilIface,undef,undef,undef,undef,undef]:=rfl;rw[d];apply wpS_seq;apply wpS_region;simp[wpOpsS,go_sem,Exit.thenS];refine wpS_cond (t:=false) (by simp[Act.eval]) ?_;simp only[Bool.false_eq_true,if_false];refine wpS_of_wp (wp_skip ?_);cases b;simp_all[bodyPostS,results,results40]
theorem iQ.kept{w u:World}{e:Nat}{g:Value}{s:St}{f:dt}(c:iQ w e g s f)(k:J w u):iQ u e g s f:=⟨fun b a=>c.out b (k.trans a),fun b a=>c.line b (k.trans a),fun b a=>c.kinds b (k.trans a),fun b a=>c.trim b (k.trans a),fun b a=>c.again b (k.trans a),fun b d a=>c.step b d (k.trans a),fun b d a=>c.Kg b d (k.trans a),c.dk.kept k,c.Kc.kept k,c.Kp.kept k⟩
theorem ru{w:World}{f i:Nat}{c:Array Value}(g:w.heap[f]?=some (.cells c 38))(u:Value):∀(b:Nat)(d:Array Value)(t:TypeId),¬ed t→w.heap[b]?=some (.cells d t)→(w.setCell ⟨f,i,none⟩ u).heap[b]?=some (.cells d t):=fun b d t h a=>bD a (fun e=>by simp only at e;subst e;rw[g]at a;simp only[Option.some.injEq,Obj.cells.injEq]at a;exact h (.inl a.2.1.symm)) _
theorem Dm{w w':World}{e:Nat}{c:Array Value}(f:w.heap[e]?=some (.cells c 38))(k:aA e w w'):∀(b:Nat)(d:Array Value)(t:TypeId),¬ed t→w.heap[b]?=some (.cells d t)→w'.heap[b]?=some (.cells d t):=fun b d t g a=>k.JP (fun h=>by subst h;rw[f]at a;simp only[Option.some.injEq,Obj.cells.injEq]at a;exact g (.inl a.2.1.symm)) a
theorem Dn{w w1 w2:World}{b e:Nat}(a:aA b w w1)(g:w.heap.size≤e)(k:aA e w1 w2):aA b w w2:=⟨k.os.trans a.os,k.tape.trans a.tape,k.output.trans a.output,Nat.le_trans a.size k.size,fun d c f=>(k.block d (Nat.lt_of_lt_of_le c a.size) (by omega)).trans (a.block d c f)⟩
theorem zy(w:World)(g:Nat)(o:Value)(s:St)(k:dt)(H:iQ w g o s k)(lv:Value)(j:List (List UInt8))(X:fH w lv j)(V:∀b∈j,b.length≤100000)(Q:∀q,dU k s j=.inr q→aI q)(Z:∀a3,aA g w a3→dv a3):Calls prog 18 #[.pointer (some ⟨g,0,none⟩),lv] w fun v O=>∃N,v=.returned N∧cr w.heap.size O N (aQ k s j).2∧bU O g o (aQ k s j).1∧aA g w O:=by
 have k0:=(J.refl w).alloc (.cells #[.slice none 0 0] 38);have P:=R (zB (w.alloc (.cells #[.slice none 0 0] 38)) g o s k (H.kept k0) lv j (X.kept k0) V);have t:Hid (J w (w.alloc (.cells #[.slice none 0 0] 38))∧(w.alloc (.cells #[.slice none 0 0] 38)).heap[w.heap.size]?=some (.cells #[.slice none 0 0] 38)):=R ⟨k0,ah rfl⟩;have a6:=R Q;have a7:=R Z;have b6:g<w.heap.size:=by obtain⟨_,_,_,D,_⟩:=H.dk;exact(Array.getElem?_eq_some_iff.1 D).1
 clear k0 X V Q Z H;go_enter_defers func18,ntmps18;go_wp2_with fail;generalize w.alloc (.cells #[.slice none 0 0] 38)=b3 at*;obtain⟨a,S⟩:∃b2,b2=w.heap.size:=⟨_,rfl⟩;have r:Hid (w.heap.size≤a∧a≠g):=R ⟨by omega,by omega⟩;rw[←S]at t⊢;clear S;refine(U P).mono ?_;intro v e E;cases u:dU k s j with
 |inr q=>
  rw[u]at E;obtain⟨rfl,z,m⟩:=E;have i:=m.JP (U r).2 (U t).2;have n:aA g w e:=(aA.of (U t).1).trans m;have T:=(U a7) e n;have b1:=(U a6) q u;have y:aQ k s j=(s,br q):=by unfold aQ;rw[u]
  have L:=n.size;dsimp only[la];refine leaves_cons (f:=40) (args:=#[.pointer (some ⟨a,0,none⟩)]) (by simp) (by simp[go_sem]) ?_;refine(yC a q b1 _ [] _ i T).mono ?_;rintro v a4 B⟨rfl,rfl,d,c,D,h2,h3⟩;have a2:=ab D 0;simp only[List.getElem?_toArray,List.getElem?_cons_zero]at a2;have x:cr w.heap.size B (.slice (some ⟨d,0,none⟩) 2 c) (br q)∧bU B g o s∧aA g w B:=⟨h2.low L,z.Kq (Dm i h3),Dn n (U r).1 h3⟩;have h:=R x;clear x D h2 h3 i n T m z;simp[Leaves,settle,results,results18,go_sem,a2];rw[y];exact U h
 |inl b=>
  rw[u]at E;obtain⟨N,rfl,K,z,m⟩:=E;obtain⟨_,d,c,rfl⟩:=id K;have i:=m.JP (U r).2 (U t).2;have n:aA g w e:=(aA.of (U t).1).trans m;have a8:=ab i 0;have b9:=an i 0;have a0:=ay i 0 (.slice (some ⟨d,0,none⟩) b.2.length c);have L:w.heap.size≤b3.heap.size:=(U t).1.size;have x:cr w.heap.size (e.setCell ⟨a,0,none⟩ (.slice (some ⟨d,0,none⟩) b.2.length c)) (.slice (some ⟨d,0,none⟩) b.2.length c) b.2∧bU (e.setCell ⟨a,0,none⟩ (.slice (some ⟨d,0,none⟩) b.2.length c)) g o b.1∧aA g w (e.setCell ⟨a,0,none⟩ (.slice (some ⟨d,0,none⟩) b.2.length c)):=⟨(K.low L).off i _,z.Kq (ru i _),n.setCell (p:=⟨a,0,none⟩) (.inr (U r).1) _⟩;have F:(e.setCell ⟨a,0,none⟩ (.slice (some ⟨d,0,none⟩) b.2.length c)).heap[a]?=some (.cells #[.slice (some ⟨d,0,none⟩) b.2.length c] 38):=by simpa using a0
  have h:=R (And.intro F x);have a5:=ab F 0;have b5:=an F 0;simp only[List.getElem?_toArray,List.getElem?_cons_zero]at a8 a5;clear a0 F x K z m n i P;by_cases C:b.2=[]
  ·have W:b.2.length=0:=by simp[C]
   have y:aQ k s j=(b.1,[[45]]):=by unfold aQ;rw[u];simp[C]
   rw[W]at h a5 b5⊢;have Y:(e.setCell ⟨a,0,none⟩ (.slice (some ⟨d,0,none⟩) 0 c)).heap.size=e.heap.size:=by simp
   have I:=cr.one (e.setCell ⟨a,0,none⟩ (.slice (some ⟨d,0,none⟩) 0 c)) [45];have l:=au (U h).1 (.cells #[.string ⟨#[45]⟩] 9);have b4:=ab l 0;have c0:=an l 0;simp only[List.getElem?_toArray,List.getElem?_cons_zero]at b4;have M:=(J.refl (e.setCell ⟨a,0,none⟩ (.slice (some ⟨d,0,none⟩) 0 c))).alloc (.cells #[.string ⟨#[45]⟩] 9);have a1:=ay l 0 (.slice (some ⟨e.heap.size,0,none⟩) 1 1);have A:=ab a1 0;rw[Y]at I;have b0:w.heap.size≤e.heap.size:=by rw[←Y];exact(U h).2.2.2.size
   have G:Hid (cr w.heap.size (((e.setCell ⟨a,0,none⟩ (.slice (some ⟨d,0,none⟩) 0 c)).alloc (.cells #[.string ⟨#[45]⟩] 9)).setCell ⟨a,0,none⟩ (.slice (some ⟨e.heap.size,0,none⟩) 1 1)) (.slice (some ⟨e.heap.size,0,none⟩) 1 1) [[45]]∧bU (((e.setCell ⟨a,0,none⟩ (.slice (some ⟨d,0,none⟩) 0 c)).alloc (.cells #[.string ⟨#[45]⟩] 9)).setCell ⟨a,0,none⟩ (.slice (some ⟨e.heap.size,0,none⟩) 1 1)) g o b.1∧aA g w (((e.setCell ⟨a,0,none⟩ (.slice (some ⟨d,0,none⟩) 0 c)).alloc (.cells #[.string ⟨#[45]⟩] 9)).setCell ⟨a,0,none⟩ (.slice (some ⟨e.heap.size,0,none⟩) 1 1))):=R ⟨(I.low b0).off l _,((U h).2.2.1.kept M).Kq (ru l _),((U h).2.2.2.trans (.of M)).setCell (p:=⟨a,0,none⟩) (.inr (U r).1) _⟩;simp only[List.setIfInBounds_toArray,List.set_cons_zero,List.getElem?_toArray,List.getElem?_cons_zero]at A;clear I l a1 M;go_wp2_with fail;refine leaves_cons (f:=40) (args:=#[.pointer (some ⟨a,0,none⟩)]) (by simp) (by simp[go_sem]) ?_;refine(uC a _).mono ?_;rintro v a4 B⟨rfl,rfl,rfl⟩;simp[Leaves,settle,results,results18,go_sem,A];rw[y];exact U G
  ·have W:0<b.2.length:=by
    cases a9:b.2 with
    |nil=>exact absurd a9 C
    |cons=>simp
   have y:aQ k s j=(b.1,b.2):=by unfold aQ;rw[u];simp[C]
   have b7:((b.2.length:Int)==0)=false:=by simp;omega
   have l:=ay (U h).1 0 (.slice (some ⟨d,0,none⟩) b.2.length c);have A:=ab l 0;simp only[List.setIfInBounds_toArray,List.set_cons_zero,List.getElem?_toArray,List.getElem?_cons_zero]at A;have G:Hid (cr w.heap.size ((e.setCell ⟨a,0,none⟩ (.slice (some ⟨d,0,none⟩) b.2.length c)).setCell ⟨a,0,none⟩ (.slice (some ⟨d,0,none⟩) b.2.length c)) (.slice (some ⟨d,0,none⟩) b.2.length c) b.2∧bU ((e.setCell ⟨a,0,none⟩ (.slice (some ⟨d,0,none⟩) b.2.length c)).setCell ⟨a,0,none⟩ (.slice (some ⟨d,0,none⟩) b.2.length c)) g o b.1∧aA g w ((e.setCell ⟨a,0,none⟩ (.slice (some ⟨d,0,none⟩) b.2.length c)).setCell ⟨a,0,none⟩ (.slice (some ⟨d,0,none⟩) b.2.length c))):=R ⟨(U h).2.1.off (U h).1 _,(U h).2.2.1.Kq (ru (U h).1 _),(U h).2.2.2.setCell (p:=⟨a,0,none⟩) (.inr (U r).1) _⟩;clear l;generalize b.2.length=b8 at*;go_wp2_with fail;refine leaves_cons (f:=40) (args:=#[.pointer (some ⟨a,0,none⟩)]) (by simp) (by simp[go_sem]) ?_;refine(uC a _).mono ?_;rintro v a4 B⟨rfl,rfl,rfl⟩;simp[Leaves,settle,results,results18,go_sem,A];rw[y];exact U G
theorem mL(a:dt)(l:List UInt8):∀(ls:List (List UInt8))(s:St),aY a s (ls++[l])=((aQ a (aY a s ls).1 (ao 32 l)).1,(aY a s ls).2++(Lib.join (aQ a (aY a s ls).1 (ao 32 l)).2 [32]++[10]))
 |[],s=>by simp[aY]
 |c::ls,s=>by have b:=mL a l ls (aQ a s (ao 32 c)).1;simp only[List.cons_append,aY];rw[b];simp
theorem rh(a:dt)(s:St){ls:List (List UInt8)}{k:Nat}{l:List UInt8}(b:ls[k]?=some l):aY a s (ls.take (k+1))=((aQ a (aY a s (ls.take k)).1 (ao 32 l)).1,(aY a s (ls.take k)).2++(Lib.join (aQ a (aY a s (ls.take k)).1 (ao 32 l)).2 [32]++[10])):=by rw[List.take_add_one,b];exact mL a l _ s
structure sG(w:World)(p:List Fn)(c:dt)(e:St→Prop):Prop where
 parts:∀b g f a,J w b→w.heap.size≤g→aK b f p→bU b g f a→e a→iQ b g f a c
 JS:∀b f,J w b→aK b f p→Calls prog 29 #[f] b (hU c.JS [.int .i64 0] b)
 rbeg:e c.JS
 Lb:∀a d,e a→e (aQ c a d).1
 iz:∀a d h,e a→dU c a d=.inr h→aI h
 JV:∀a d,e a→(aQ c a d).2.length≤1000∧(Lib.join (aQ c a d).2 [32]).length≤100000∧0<(aQ c a d).2.length
theorem dL.zero(a:Nat)(w:World):dL a w (.agg #[.slice none 0 0,.int .i64 0,.slice none 0 0]) ⟨[],0,[]⟩:=fun _ _=>⟨_,_,rfl,iw.nil _,bC.nil _⟩
theorem JG(w:World)(B b:Nat)(l t:List UInt8)(e:dA B b (Lib.byteCells l) w)(g:B≤w.heap.size)(h:l.length+t.length≤100000000000):Calls prog 16 #[.pointer (some ⟨b,0,none⟩),.string ⟨t.toArray⟩] w fun c a=>c=.returned (.tuple #[.int .i64 t.length,.nilIface])∧dA B b (Lib.byteCells (l++t)) a∧Below B w a∧eK w a:=by
 have d:(ByteArray.mk t.toArray).size=t.length:=by simp[ByteArray.size]
 have:=xB w B b _ ⟨t.toArray⟩ e g (by rw[Lib.byteCells_length,d];omega);rw[d,xf,←tc]at this;exact this.mono fun c a⟨f,h2,h3⟩=>⟨f,.inr h2,h3⟩
theorem dA.x{w w':World}{B b q:Nat}{r:List Value}{c:Array Value}(u:dA B b r w)(v:w.heap[q]?=some (.cells c 46))(k:aA q w w'):dA B b r w':=by
 have l:∀{d:Nat}{i:Array Value}{h:TypeId},h≠46→w.heap[d]?=some (.cells i h)→w'.heap[d]?=some (.cells i h):=fun{d i h}z g=>k.JP (fun A=>by subst A;rw[v]at g;simp only[Option.some.injEq,Obj.cells.injEq]at g;exact z g.2.1.symm) g;have f:∀{a:Value}{o:Nat}{p:List Value},w.ownsRow B 5 1 a o p→w'.ownsRow B 5 1 a o p:=fun{a o p}f=>by
  refine⟨f.1,?_⟩;rcases f.2 with y|⟨d,s,t,rfl,e,x,C⟩;·exact .inl y
  ·exact .inr ⟨d,s,t,rfl,e,l (by decide) x,C⟩
 rcases u with⟨j,a,e,n,m⟩|⟨j,a,e,n,m⟩;·exact .inl ⟨j,a,l (by decide) e,f n,m⟩
 ·exact .inr ⟨j,a,l (by decide) e,f n,m⟩
theorem FT(w:World)(S e:List UInt8)(p:List Fn)(a:dt)(B:St→Prop)(ls:List (List UInt8))(P:eL w)(e3:sG w p a B)(c4:Hid (∀c,J w c→Calls prog 12 #[.string ⟨S.toArray⟩] c fun g l=>∃j h i,g=.returned (.tuple #[.slice j h i,.int .i64 0])∧aK l (.slice j h i) p∧J c l))(e5:e.length≤8192)(j5:Lib.countByte e 10≤40)(X:dj e=some ls):Calls prog 5 #[.string ⟨S.toArray⟩,.string ⟨e.toArray⟩] w fun g l=>g=.returned (.tuple #[.string ⟨(aY a a.JS ls).2.toArray⟩,.int .i64 0])∧J w l:=by
 have s:=R e3;have b3:=R P;have m3:(ByteArray.mk e.toArray).size=e.length:=by simp[ByteArray.size]
 have l7:¬(8192:Int)<(e.length:Int):=by omega
 have a8:Hid (∀c,Calls prog 13 #[.string ⟨e.toArray⟩,.string ⟨#[10]⟩] c fun g l=>g=.returned (.int .i64 (Lib.countByte e 10))∧c=l):=R fun c=>by have:=strings_Count_one ⟨e.toArray⟩ 10 c;exact this.mono fun g l⟨G,h2⟩=>⟨by simpa using G,h2.symm⟩
 have l8:¬(40:Int)<Lib.countByte e 10:=by omega
 have c0:Hid (∀c,J w c→Calls prog 14 #[.string ⟨e.toArray⟩] c fun g l=>∃j h i,g=.returned (.tuple #[.slice j h i,.bool true])∧h=ls.length∧fH l (.slice j h i) ls∧J c l):=R fun c t=>by have:=rj c e (by omega) (P.kept t);unfold jk at this;rw[X]at this;exact this
 have g9:=ri X e5;have b9:=R g9;generalize(ByteArray.mk e.toArray)=l1 at*;generalize(ByteArray.mk S.toArray)=l0 at*;generalize e.length=m9 at*;generalize Lib.countByte e 10=l5 at*;clear P e3 X g9 j5 e5;go_enter func5,ntmps5;go_wp2_with fail;refine((U c4) w (J.refl w)).mono ?_;rintro _ n2⟨j,h,i,rfl,h1,h9⟩;have F:=R h1;have o:=R h9;clear h1 h9 c4;go_wp2_with fail;refine((U a8) _).mono ?_;rintro _ _⟨rfl,rfl⟩;go_wp2_with fail;refine((U c0) _ (U o)).mono ?_;rintro _ n⟨m8,v,l4,rfl,h0,h6,Y⟩;replace F:=R ((U F).kept Y);replace o:=R ((U o).trans Y);have i8:=R h6;have E:=R h0;clear h6 Y a8 c0 h0;go_wp2_with fail;have M:=(J.refl n).alloc (.cells #[.slice j h i,.slice none 0 0,.int .i64 0,.slice none 0 0] 46);have g0:bU (n.alloc (.cells #[.slice j h i,.slice none 0 0,.int .i64 0,.slice none 0 0] 46)) n.heap.size (.slice j h i) ⟨[],0,[]⟩:=⟨_,_,_,ah rfl,dL.zero _ _⟩;have a2:=R (tv _ _ _ _ a.JS g0 (R fun c t=>(U s).JS c _ ((U o).trans (M.trans t)) ((U F).kept (M.trans t))));have b5:=R M;clear M g0;refine(U a2).mono ?_;rintro _ q⟨n0,rfl,-,e8,h8⟩;have c6:=R (aA.kept (U b5) (Nat.le_refl _) h8);have a9:=R e8;clear e8 h8 a2 b5;generalize e2:n.heap.size=r at*;have b0:=R e2;clear e2;go_wp2_with fail;obtain⟨d,y⟩:∃k2,k2=q.heap.size:=⟨_,rfl⟩;have k7:Hid (d=q.heap.size):=R y;have a1:Hid (J n (q.alloc (.cells #[.pointer none,.slice none 0 0] 51))∧bU (q.alloc (.cells #[.pointer none,.slice none 0 0] 51)) r (.slice j h i) (aY a a.JS (ls.take 0)).1∧dA d d (Lib.byteCells (aY a a.JS (ls.take 0)).2) (q.alloc (.cells #[.pointer none,.slice none 0 0] 51))∧B (aY a a.JS (ls.take 0)).1∧d≤(q.alloc (.cells #[.pointer none,.slice none 0 0] 51)).heap.size):=R (by
  refine⟨(U c6).alloc _,(U a9).kept ((J.refl q).alloc _),?_,(U s).rbeg,?_⟩;·rw[y];exact dA.new q
  ·rw[y];simp);have a5:Hid (n.heap.size≤d):=R (by rw[y];exact(U c6).size);rw[←y];clear y;generalize q.alloc (.cells #[.pointer none,.slice none 0 0] 51)=n3 at*;have m2:v≤8193:=by have:=U E;have:=(U b9).1;omega
 have c3:Hid (∀b,b≤v→B (aY a a.JS (ls.take b)).1∧(aY a a.JS (ls.take b)).2.length≤b*100001):=R (fun b=>by
  induction b with
  |zero=>exact fun _=>⟨(U s).rbeg,by simp[aY]⟩
  |succ b k1=>intro j6;obtain⟨G,h2⟩:=k1 (by omega);rw[rh a a.JS (List.getElem?_eq_getElem (show b<ls.length by have:=U E;omega))];refine⟨(U s).Lb _ _ G,?_⟩;have:=((U s).JV _ (ao 32 ls[b]) G).2.1;simp only[List.length_append,List.length_cons,List.length_nil];omega);clear a9;go_loopw[44](fun Z wr=>∃b:Nat,b≤v∧Z=.int .i64 (b:Int)∧Hid (J n wr∧bU wr r (.slice j h i) (aY a a.JS (ls.take b)).1∧dA d d (Lib.byteCells (aY a a.JS (ls.take b)).2) wr∧B (aY a a.JS (ls.take b)).1∧d≤wr.heap.size))(fun Z _=>v-(intOf Z).toNat);case atStart=>exact⟨0,Nat.zero_le _,rfl,a1⟩
 case round=>
  obtain⟨b,m1,rfl,f⟩:=hrel;clear a1;by_cases j6:b<v
  ·obtain⟨k,K⟩:∃k,ls[b]?=some k:=⟨_,List.getElem?_eq_getElem (by have:=U E;omega)⟩;obtain⟨m7,l3,e1,_,g7⟩:=U i8;simp only[Value.slice.injEq]at e1;obtain⟨rfl,-,rfl⟩:=e1;obtain⟨c8,m6,rfl,H⟩:=g7 b k K;replace H:=(U f).1.cell H;unfold aG at H;have g8:=(U b9).2 k (List.mem_of_getElem? K);have l9:(0:Int)≤(b:Int):=by omega
   have m0:(b:Int)<(v:Int):=by omega
   have c2:=R (vE wr k (by omega) ((U b3).kept ((U o).trans (U f).1)));have b8:=R K;have i6:=R g8;clear g7 K g8;generalize j2:(ByteArray.mk k.toArray)=k8 at*;clear j2;go_wp2_with fail;refine(U c2).mono ?_;rintro _ x⟨l6,m5,rfl,-,h5,D⟩;have I:J n x:=(U f).1.trans D;have T:=(U f).2.1.kept D;have e4:iQ x r (.slice j h i) (aY a a.JS (ls.take b)).1 a:=(U s).parts x r _ _ ((U o).trans I) (by rw[←U b0];exact(U o).size) ((U F).kept I) T (U f).2.2.2.1;have W:∀c,aA r x c→J n c:=fun c t=>aA.kept I (by rw[U b0];exact Nat.le_refl _) t;have a3:=R (zy x r _ _ a e4 _ _ h5 (fun k5 j9=>by have:=lO j9;have:=U i6;omega) (fun k6 k0=>(U s).iz _ _ k6 (U f).2.2.2.1 k0) (fun c t=>(U b3).Kc.kept ((U o).trans (W c t))));have b7:=R W;have a6:=R ((U f).2.2.1.kept D);have b1:=R T;have a4:Hid (d≤x.heap.size):=R (Nat.le_trans (U f).2.2.2.2 D.size);clear H c2 h5 D I T e4 W;go_wp2_with fail;refine(U a3).mono ?_;rintro _ a0⟨n1,rfl,h4,e9,L⟩;obtain⟨g1,g2,g3⟩:=(U s).JV (aY a a.JS (ls.take b)).1 (ao 32 k) (U f).2.2.2.1;obtain⟨j1,j0,rfl,g4,e7⟩:=h4.cells;obtain⟨g5,g6⟩:=g4 g3;have c1:=R (xt a0 j1 j0 (aQ a (aY a a.JS (ls.take b)).1 (ao 32 k)).2 g6 e7 g5 (by omega) g1);have h3:x.heap[r]?=some (.cells _ 46):=(U b1).choose_spec.choose_spec.choose_spec.1;have a7:=R ((U a6).x h3 L);have b2:=R e9;have b6:=R ((U b7) a0 L);have O:Hid (d≤a0.heap.size):=R (Nat.le_trans (U a4) L.size);have b4:=R g2;clear h4 e9 L g4 e7 g5 g6 g1 g2 g3 h3 a3 a6 b1 a4 b7;generalize(aQ a (aY a a.JS (ls.take b)).1 (ao 32 k)).2.length=l2 at*;go_wp2_with fail;refine(U c1).mono ?_;rintro _ i0⟨rfl,z⟩;have j7:=((U c3) b (by omega)).2;have j8:b*100001≤8193*100001:=Nat.mul_le_mul_right _ (by omega);have c7:=R (JG i0 d d _ (Lib.join (aQ a (aY a a.JS (ls.take b)).1 (ao 32 k)).2 [32]++[10]) ((U a7).kept z) (Nat.le_trans (U O) z.size) (by have:=U b4;simp only[List.length_append,List.length_cons,List.length_nil];omega));have i5:=R ((U b6).trans z);have i2:=R ((U b2).kept z);have i1:Hid (d≤i0.heap.size):=R (Nat.le_trans (U O) z.size);clear z c1 j7 j8 b4 a7 b2 b6 O;unfold aG;generalize j3:(ByteArray.mk (Lib.join (aQ a (aY a a.JS (ls.take b)).1 (ao 32 k)).2 [32]++[10]).toArray)=LT at*;generalize(Lib.join (aQ a (aY a a.JS (ls.take b)).1 (ao 32 k)).2 [32]++[10]).length=m4 at*;clear j3;go_wp2_with fail;refine(U c7).mono ?_;rintro _ N⟨rfl,c9,u,e0⟩;have i7:Hid (J n N∧bU N r (.slice j h i) (aY a a.JS (ls.take (b+1))).1∧dA d d (Lib.byteCells (aY a a.JS (ls.take (b+1))).2) N∧B (aY a a.JS (ls.take (b+1))).1∧d≤N.heap.size):=R (by
    refine⟨?_,?_,?_,((U c3) (b+1) (by omega)).1,Nat.le_trans (U i1) u.size⟩;·have m:=U i5;have Q:=U a5;exact⟨u.os.trans m.os,u.tape.trans m.tape,u.output.trans m.output,Nat.le_trans m.size u.size,fun C V=>(u.block C (by omega)).trans (m.block C V)⟩
    ·rw[rh a a.JS (U b8)];exact(U i2).Kq fun c8 i9 k3 h7 Q=>e0 c8 i9 k3 (fun g=>h7 (.inr (.inl g))) (fun g=>h7 (.inr (.inr g))) Q
    ·rw[rh a a.JS (U b8)];exact c9);clear c9 u e0 c7;go_wp2_with fail;go_roundw;case rel=>exact⟨b+1,by omega,by go_num,i7⟩
   case measure=>simp[intOf];omega
  ·obtain rfl:b=v:=by omega
   have e6:ls.take b=ls:=List.take_of_length_le (by have:=U E;omega);rw[e6]at f;have c5:Hid (Calls prog 20 #[.pointer (some ⟨d,0,none⟩)] wr fun g l=>g=.returned (.string ⟨(aY a a.JS ls).2.toArray⟩)∧Below d wr l):=R (Builder_String_any d d _ wr (U f).2.2.1 (U f).2.2.2.2);have i4:=R (U f).1;clear f e6;generalize j4:(ByteArray.mk (aY a a.JS ls).2.toArray)=k9 at*;go_wp2_with fail;refine(U c5).mono ?_;rintro _ k4⟨rfl,A⟩;have i3:Hid (J w k4):=R (by have m:=U i4;have Q:=U a5;exact(U o).trans ⟨A.os.trans m.os,A.tape.trans m.tape,A.output.trans m.output,Nat.le_trans m.size A.size,fun C V=>(A.block C (by omega)).trans (m.block C V)⟩);clear A c5;go_wp2_with fail;go_ret2;exact⟨by rw[j4];rfl,U i3⟩
def bd(p:List Fn)(k:Nat):List Int:=(bG p (codeOf p k)).getD []
def aZ(p:List Fn)(x:Fr):Int:=(bd p x.fn.toNat).getD x.at_.toNat 0
def jD(p:List Fn)(x:Fr):Int×Int:=(codeOf p x.fn.toNat).getD (x.at_.toNat-1) (0,0)
def bK(p:List Fn)(x:Fr):Bool:=aX x.fn p.length&&(decide ((x.locals.length:Int)=(p.getD x.fn.toNat Fn.zero).locals)&&(aX x.at_ (codeOf p x.fn.toNat).length&&decide (0≤aZ p x)))
def eU(p:List Fn)(x:Fr)(a b:Int):Bool:=(!decide (x.at_=0)&&decide ((x.stack.length:Int)=aZ p x-1))&&(decide ((jD p x).1=a)&&(!decide (a=11)||decide ((jD p x).2=b)))
def gu(l:List Int):Bool:=l.all fun a=>decide (a=0)
def dH(p:List Fn)(b:Fb):Bool:=match b.U with|[a]=>(decide (a.at_=0)&&(decide ((p.getD a.fn.toNat Fn.zero).args=1)&&decide (a.stack.length=0)))&&gu a.locals|_=>false
def iD(p:List Fn):List Fr→Bool
 |[]=>true
 |[a]=>bK p a
 |a::b::c=>bK p a&&(aX b.fn p.length&&eU p a 11 b.fn)&&iD p (b::c)
def eA(p:List Fn)(b:Fb)(c d:Bool):Bool:=match b.U.getLast? with|none=>!c&&decide (b.caller=-1)|some a=>iD p b.U&&(if d=true then decide ((a.stack.length:Int)=aZ p a)else if c=true then eU p a 14 0 else decide (b.caller=-1)&&(dH p b||eU p a 15 0))
def bw(fs:List Fb)(n:Int):Int:=(fs.getD n.toNat Fb.zero).caller
def bt(fs:List Fb):Nat→Int→List Int→Option (List Int)
 |0,_,_=>none
 |c+1,a,b=>if a<0 then some b else if a∈b then none else bt fs c (bw fs a) (b++[a])
def cB(s:St):Option (List Int):=match bt s.I (s.I.length+1) s.now []with|none=>none|some a=>if a=[]∨a.getLast?=some 0 then some a else none
def dX(s:St):Int:=if s.I.length≤5∧s.out.length≤30 then if(s.I.all fun a=>decide (a.U.length≤6))=true then if 0<s.I.length then if ax s.now (-1) (s.I.length-1)=true then if(s.I.all fun a=>ax a.caller (-1) (s.I.length-1))=true then 0 else 3 else 3 else 5 else 2 else 2
def iT(p:List Fn)(s:St):Bool:=match cB s with|none=>false|some b=>!(decide (s.now=-1)&&!(s.I.getD 0 Fb.zero).U.isEmpty)&&(List.range s.I.length).all fun a=>eA p (s.I.getD a Fb.zero) (decide ((a:Int)∈b)) (decide ((a:Int)=s.now))&&!(decide (a=0)&&(!decide ((0:Int)∈b)&&!(s.I.getD 0 Fb.zero).U.isEmpty))
def ba(p:List Fn)(s:St):Int:=if aL p=0 then(if dX s=0 then(if iT p s=true then 0 else 1)else dX s)else aL p
def cH(p:List Fn)(x:Fr)(a:Int×Int):Bool:=(decide (0<x.at_)&&decide ((x.stack.length:Int)=aZ p x-1))&&decide (jD p x=a)
def de(p:List Fn):List Fr→Bool
 |c::a::b=>cH p c (11,a.fn)&&de p (a::b)
 |_=>true
def ep(fs:List Fb):Nat→Int→List Bool→Option (List Bool)
 |0,_,_=>none
 |c+1,a,b=>if a=-1 then some b else if b.getD a.toNat false=true∨(decide (bw fs a=-1))≠(decide (a=0))then none else ep fs c (bw fs a) (b.set a.toNat true)
def gG(s:St):Option (List Bool):=match ep s.I (s.I.length+1) s.now (List.replicate s.I.length false)with|none=>none|some a=>if((List.range s.I.length).all fun b=>a.getD b false||decide ((s.I.getD b Fb.zero).caller=-1))=true then some a else none
def fN(p:List Fn)(s:St)(n:Nat)(a:Bool):Bool:=match(s.I.getD n Fb.zero).U.getLast? with|none=>!a|some b=>(a||!decide (n=0))&&((!a&&dH p (s.I.getD n Fb.zero))||(de p (s.I.getD n Fb.zero).U&&(if(n:Int)=s.now then decide ((b.stack.length:Int)=aZ p b)else if a=true then cH p b (14,0)else cH p b (15,0))))
def iA(p:List Fn)(s:St):Bool:=(s.I.all fun c=>c.U.all (bK p))&&match gG s with|none=>false|some b=>(List.range s.I.length).all fun a=>fN p s a (b.getD a false)
def gR(p:List Fn)(s:St):Int:=if dX s=0 then(if iA p s=true then 0 else 1)else dX s
theorem IJ{l S:List Int}(b:l.Nodup)(c:∀a,a∈l→a∈S):l.length≤S.length:=by
 induction l generalizing S with
 |nil=>simp
 |cons a i f=>rw[List.nodup_cons]at b;have d:=c a (List.mem_cons_self);have:=f (S:=S.erase a) b.2 (fun g e=>(List.mem_erase_of_ne (by rintro rfl;exact b.1 e)).2 (c g (List.mem_cons_of_mem _ e)));rw[List.length_erase_of_mem d]at this;have h:=List.length_pos_of_mem d;simp;omega
theorem ju{l:List Int}{n:Nat}(b:l.Nodup)(c:∀a,a∈l→0≤a∧a<n):l.length≤n:=by have:=IJ (S:=(List.range n).map fun(e:Nat)=>(e:Int)) b (fun a d=>by have:=c a d;exact List.mem_map.2 ⟨a.toNat,by simp;omega,by omega⟩);simpa using this
theorem mD(p:List Fn):∀d:List Fr,iD p d=true↔(d.all (bK p)=true∧de p d=true)
 |[]=>by simp[iD,de]
 |[a]=>by simp[iD,de]
 |a::e::j=>by
  have i:=mD p (e::j);have f:bK p a=true→(eU p a 11 e.fn=true↔cH p a (11,e.fn)=true):=by
   intro h;simp only[bK,Bool.and_eq_true,cZ,decide_eq_true_eq]at h;simp only[eU,cH,Bool.and_eq_true,Bool.or_eq_true,Bool.not_eq_true',decide_eq_true_eq,decide_eq_false_iff_not,Prod.ext_iff];have:(¬a.at_=0)↔0<a.at_:=by omega
   rw[this];simp
  simp only[iD,de,Bool.and_eq_true,i,List.all_cons];constructor;·rintro⟨⟨b,_,h3⟩,c,g⟩;exact⟨⟨b,by simpa using c⟩,(f b).1 h3,g⟩
  ·rintro⟨⟨b,h2⟩,h3,c⟩;refine⟨⟨b,?_,(f b).2 h3⟩,by simpa using h2,c⟩;have:=h2.1;simp only[bK,Bool.and_eq_true]at this;exact this.1
def Marks(n:Nat)(B:List Bool)(l:List Int):Prop:=B.length=n∧∀a:Nat,a<n→B.getD a false=decide ((a:Int)∈l)
theorem Marks.set{n:Nat}{B:List Bool}{l:List Int}(a:Marks n B l){z:Int}(g:0≤z)(_f:z<n):Marks n (B.set z.toNat true) (l++[z]):=by
 refine⟨by simp[a.1],fun b d=>?_⟩;have:=a.2 b d;by_cases c:z.toNat=b;·subst c;simp[List.getD,a.1,d];right;omega
 ·have e:¬((b:Int)=z):=by omega
  simp[List.getD,c,e]at this⊢;rw[this]
theorem uZ(fs:List Fb):∀(k:Nat)(n:Int)(c d:List Int),0≤n→bt fs k n c=some d→∃b,d.getLast?=some b∧b∉c
 |0,_,_,_,_,a=>by cases a
 |k+1,n,c,d,i,a=>by
  unfold bt at a;rw[if_neg (by omega)]at a;split at a;·cases a
  ·rename_i h;by_cases f:bw fs n<0
   ·cases k with
    |zero=>cases a
    |succ k=>unfold bt at a;rw[if_pos f]at a;cases a;exact⟨n,by simp,h⟩
   ·obtain⟨b,e,h2⟩:=uZ fs k _ _ _ (by omega) a;exact⟨b,e,fun g=>h2 (List.mem_append_left _ g)⟩
theorem uN{fs:List Fb}(l:∀g,g∈fs→-1≤g.caller∧g.caller<fs.length):∀(k:Nat)(n:Int)(b:List Int)(B f:List Bool),-1≤n→n<fs.length→Marks fs.length B b→ep fs k n B=some f→∃c,bt fs k n b=some c∧Marks fs.length f c∧(n=-1→c=b)∧(n≠-1→c.getLast?=some 0)
 |0,_,_,_,_,_,_,_,a=>by cases a
 |k+1,n,b,B,f,v,s,i,a=>by
  unfold ep at a;unfold bt;by_cases e:n=-1;·rw[if_pos e]at a;cases a;rw[if_pos (by omega)];exact⟨b,rfl,i,fun _=>rfl,fun a=>absurd e a⟩
  ·rw[if_neg e]at a;split at a;·cases a
   ·rename_i o;rw[not_or]at o;obtain⟨j,d⟩:=o;have d:decide (bw fs n=-1)=decide (n=0):=by
     rcases Decidable.em (decide (bw fs n=-1)=decide (n=0))with a|a;·exact a
     ·exact absurd a d
    have t:n∉b:=by have:=i.2 n.toNat (by omega);rw[show((n.toNat:Nat):Int)=n by omega]at this;intro r;rw[this,decide_eq_true r]at j;exact j rfl
    rw[if_neg (by omega),if_neg t];have m:-1≤bw fs n∧bw fs n<fs.length:=by have u:=aD fs n.toNat Fb.zero (by omega);exact l _ (List.mem_of_getElem? u)
    obtain⟨c,p,h2,h3,q⟩:=uN l k _ _ _ _ m.1 m.2 (i.set (by omega) s) a;refine⟨c,p,h2,fun a=>absurd a e,fun _=>?_⟩;by_cases h:bw fs n=-1
    ·rw[h3 h];simp only[h,decide_true]at d;have:n=0:=by simpa using d.symm
     simp[this]
    ·exact q h
theorem uY{fs:List Fb}(j:∀g,g∈fs→-1≤g.caller∧g.caller<fs.length):∀(k:Nat)(n:Int)(f c:List Int)(B:List Bool),-1≤n→n<fs.length→Marks fs.length B f→bt fs k n f=some c→(n≠-1→c.getLast?=some 0)→∃b,ep fs k n B=some b∧Marks fs.length b c
 |0,_,_,_,_,_,_,_,a,_=>by cases a
 |k+1,n,f,c,B,u,q,h,a,p=>by
  unfold bt at a;unfold ep;by_cases i:n=-1;·rw[if_pos (by omega)]at a;cases a;exact⟨B,by rw[if_pos i],h⟩
  ·rw[if_neg (by omega)]at a;split at a;·cases a
   ·rename_i r;have l:-1≤bw fs n∧bw fs n<fs.length:=by have t:=aD fs n.toNat Fb.zero (by omega);exact j _ (List.mem_of_getElem? t)
    have o:B.getD n.toNat false=false:=by have:=h.2 n.toNat (by omega);rw[show((n.toNat:Nat):Int)=n by omega]at this;rw[this,decide_eq_false r]
    have e:=p i;have s:decide (bw fs n=-1)=decide (n=0):=by
     rw[decide_eq_decide];by_cases m:bw fs n=-1
     ·cases k with
      |zero=>cases a
      |succ k=>unfold bt at a;rw[if_pos (by omega)]at a;cases a;simp at e;subst e;simp[m]
     ·obtain⟨v,d,h2⟩:=uZ fs k _ _ _ (by omega) a;rw[e]at d;cases d;simp only[List.mem_append,List.mem_singleton,not_or]at h2;constructor;·intro a;exact absurd a m
      ·intro a;exact absurd a.symm h2.2
    obtain⟨b,d,h2⟩:=uY j k _ _ _ _ l.1 l.2 (h.set (by omega) q) a (fun _=>e);refine⟨b,?_,h2⟩;rw[if_neg i,if_neg];·exact d
    ·rw[o,s];simp
theorem rb(fs:List Fb):∀(k:Nat)(n:Int)(c b:List Int),bt fs k n c=some b→(∀d,d∈c→d∈b)∧(0≤n→n∈b)∧(n<0→b=c)
 |0,_,_,_,a=>by cases a
 |k+1,n,c,b,a=>by
  unfold bt at a;split at a;·cases a;exact⟨fun _ a=>a,fun _=>by omega,fun _=>rfl⟩
  ·split at a;·cases a
   ·have e:=rb fs k _ _ _ a;exact⟨fun d f=>e.1 d (List.mem_append_left _ f),fun _=>e.1 n (by simp),fun _=>by omega⟩
theorem ik{s:St}(a:dX s=0):s.I.length≤5∧s.out.length≤30∧(∀b,b∈s.I→b.U.length≤6)∧0<s.I.length∧(-1≤s.now∧s.now<s.I.length)∧∀b,b∈s.I→-1≤b.caller∧b.caller<s.I.length:=by
 unfold dX at a;split at a
 ·rename_i d;split at a
  ·rename_i h2;split at a
   ·rename_i h3;split at a
    ·rename_i e;split at a;·rename_i c;rw[iX]at e;simp only[List.all_eq_true,iX,decide_eq_true_eq]at h2 c;exact⟨d.1,d.2,h2,h3,⟨e.1,by omega⟩,fun b f=>⟨(c b f).1,by have:=(c b f).2;omega⟩⟩
     ·cases a
    ·cases a
   ·cases a
  ·cases a
 ·cases a
def lV(p:List Fn):Prop:=∀(c b:Nat)(a:Int×Int),(codeOf p c)[b]?=some a→a.1=14∨a.1=15→a.2=0
theorem lQ{p:List Fn}(d:lV p){x:Fr}(g:bK p x=true){a:Int}(e:a=14∨a=15):eU p x a 0=cH p x (a,0):=by
 rw[Bool.eq_iff_iff];simp only[bK,Bool.and_eq_true,cZ,decide_eq_true_eq]at g;simp only[eU,cH,Bool.and_eq_true,Bool.or_eq_true,Bool.not_eq_true',decide_eq_true_eq,decide_eq_false_iff_not,Prod.ext_iff];have c:(¬x.at_=0)↔0<x.at_:=by omega
 have h2:¬a=11:=by omega
 rw[c];constructor
 ·rintro⟨h3,b,_⟩;refine⟨h3,b,?_⟩;have f:x.at_.toNat-1<(codeOf p x.fn.toNat).length:=by omega
  have:=d x.fn.toNat (x.at_.toNat-1) (jD p x) (by unfold jD;rw[aD _ _ (0,0) f]) (by rw[b];exact e);exact this
 ·rintro⟨h3,b,_⟩;exact⟨h3,b,.inl h2⟩
theorem jP{α:Type}{l:List α}{P:α→Bool}{d:α}(a:l.all P=true){k:Nat}(b:k<l.length):P (l.getD k d)=true:=by rw[List.all_eq_true]at a;exact a _ (List.mem_of_getElem? (aD l k d b))
theorem gM{n:Nat}{P:Nat→Bool}:(List.range n).all P=true↔∀a,a<n→P a=true:=by simp[List.all_eq_true]
theorem BS{p:List Fn}{b:Fb}(a:dH p b=true):de p b.U=true∧∃c,b.U=[c]:=by
 unfold dH at a;split at a;·rename_i c d;rw[d];exact⟨rfl,c,rfl⟩
 ·cases a
theorem tT{p:List Fn}(i:lV p){s:St}{k:Nat}{e:Bool}(t:(k:Int)=s.now→e=true):(eA p (s.I.getD k Fb.zero) e (decide ((k:Int)=s.now))=true∧¬(k=0∧e=false∧(s.I.getD 0 Fb.zero).U.isEmpty=false))↔((s.I.getD k Fb.zero).U.all (bK p)=true∧(e||decide ((s.I.getD k Fb.zero).caller=-1))=true∧fN p s k e=true):=by
 have o:k=0→s.I.getD 0 Fb.zero=s.I.getD k Fb.zero:=by rintro rfl;rfl
 by_cases j:k=0
 ·rw[o j];generalize l:s.I.getD k Fb.zero=c at*;unfold eA fN;rw[l];cases d:c.U.getLast? with
  |none=>
   have:c.U=[]:=by simpa using d
   simp only[this,List.all_nil,List.isEmpty_nil];cases e<;>simp
  |some f=>
   have r:c.U.isEmpty=false:=by
    cases q:c.U with
    |nil=>rw[q]at d;cases d
    |cons _ _=>rfl
   have h:f∈c.U:=by rw[List.getLast?_eq_some_iff]at d;obtain⟨u,m⟩:=d;rw[m];simp
   cases e with
   |false=>simp[j,r]
   |true=>
    simp only[Bool.and_eq_true,mD];by_cases g:(k:Int)=s.now;·simp only[g,decide_true,if_true];simp[and_assoc]
    ·simp only[g,decide_false,if_false];simp;constructor;·rintro⟨⟨a,h2⟩,h3⟩;have:=lQ i (a f h) (.inl rfl);exact⟨a,h2,by rw[←this];exact h3⟩
     ·rintro⟨a,h2,h3⟩;have:=lQ i (a f h) (.inl rfl);exact⟨⟨a,h2⟩,by rw[this];exact h3⟩
 ·generalize l:s.I.getD k Fb.zero=c at*;unfold eA fN;rw[l];cases d:c.U.getLast? with
  |none=>
   have:c.U=[]:=by simpa using d
   simp only[this,List.all_nil];cases e<;>simp[j]
  |some f=>
   have h:f∈c.U:=by rw[List.getLast?_eq_some_iff]at d;obtain⟨u,m⟩:=d;rw[m];simp
   simp only[Bool.and_eq_true,mD];cases e with
   |true=>
    by_cases g:(k:Int)=s.now;·simp only[g,decide_true,if_true];simp[j,and_assoc]
    ·simp only[g,decide_false,if_false];simp[j];constructor;·rintro⟨⟨a,h2⟩,h3⟩;have:=lQ i (a f h) (.inl rfl);exact⟨a,h2,by rw[←this];exact h3⟩
     ·rintro⟨a,h2,h3⟩;have:=lQ i (a f h) (.inl rfl);exact⟨⟨a,h2⟩,by rw[this];exact h3⟩
   |false=>
    have g:¬(k:Int)=s.now:=fun n=>by have:=t n;cases this
    simp only[g,decide_false,if_false];simp[j];constructor
    ·rintro⟨⟨a,h2⟩,h3,b⟩;have:=lQ i (a f h) (.inr rfl);refine⟨a,h3,?_⟩;rcases b with b|b;·exact .inl b
     ·exact .inr ⟨h2,by rw[←this];exact b⟩
    ·rintro⟨a,h3,b⟩;have:=lQ i (a f h) (.inr rfl);rcases b with b|b;·exact⟨⟨a,(BS b).1⟩,h3,.inl b⟩
     ·exact⟨⟨a,b.1⟩,h3,.inr (by rw[this];exact b.2)⟩
theorem BI{p:List Fn}(v:lV p){s:St}(H:dX s=0):iA p s=iT p s:=by
 obtain⟨L,N,M,I,o,x⟩:=ik H;have z:Marks s.I.length (List.replicate s.I.length false) []:=⟨by simp,fun A l=>by simp[List.getD,l]⟩;rw[Bool.eq_iff_iff];constructor
 ·intro b;simp only[iA,Bool.and_eq_true]at b;obtain⟨E,b⟩:=b;unfold gG at b;cases r:ep s.I (s.I.length+1) s.now (List.replicate s.I.length false)with
  |none=>rw[r]at b;cases b
  |some u=>
   rw[r]at b;simp only at b;by_cases k:((List.range s.I.length).all fun a=>u.getD a false||decide ((s.I.getD a Fb.zero).caller=-1))=true
   ·rw[if_pos k]at b;simp only at b;obtain⟨e,i,h2,h3,C⟩:=uN x _ _ _ _ _ o.1 o.2 z r;have n:=rb _ _ _ _ _ i;have d:cB s=some e:=by
     unfold cB;rw[i];simp only;rw[if_pos];by_cases g:s.now=-1;·exact .inl (h3 g)
     ·exact .inr (C g)
    have c:∀a,a<s.I.length→(eA p (s.I.getD a Fb.zero) (decide ((a:Int)∈e)) (decide ((a:Int)=s.now))=true∧¬(a=0∧decide ((a:Int)∈e)=false∧(s.I.getD 0 Fb.zero).U.isEmpty=false)):=by intro a c;rw[gM]at b k;have B:=h2.2 a c;have:=b a c;have w:=k a c;rw[B]at this w;exact(tT v (fun t=>decide_eq_true (by rw[t];exact n.2.1 (by omega)))).2 ⟨jP E c,w,this⟩
    unfold iT;rw[d];simp only[Bool.and_eq_true];refine⟨?_,gM.2 fun a f=>?_⟩
    ·have:=(c 0 I).2;by_cases g:s.now=-1;·have:e=[]:=h3 g;subst this;simp at this⊢;exact .inr this
     ·simp[g]
    ·obtain⟨q,j⟩:=c a f;rw[Bool.and_eq_true];refine⟨q,?_⟩;by_cases y:a=0
     ·subst y;simp at j⊢;by_cases h:(0:Int)∈e;·exact .inl h
      ·exact .inr (j h)
     ·simp[y]
   ·rw[if_neg k]at b;cases b
 ·intro b;unfold iT at b;cases d:cB s with
  |none=>rw[d]at b;cases b
  |some e=>
   rw[d]at b;simp only[Bool.and_eq_true]at b;obtain⟨_,b⟩:=b;unfold cB at d;cases m:bt s.I (s.I.length+1) s.now []with
   |none=>rw[m]at d;cases d
   |some O=>
    rw[m]at d;simp only at d;split at d
    ·rename_i G;cases d;have n:=rb _ _ _ _ _ m;obtain⟨u,i,h2⟩:=uY x _ _ _ _ _ o.1 o.2 z m (fun g=>by
      rcases G with rfl|b;·have:=n.2.1 (by omega);simp at this
      ·exact b);have c:∀a,a<s.I.length→((s.I.getD a Fb.zero).U.all (bK p)=true∧(decide ((a:Int)∈e)||decide ((s.I.getD a Fb.zero).caller=-1))=true∧fN p s a (decide ((a:Int)∈e))=true):=by
      intro a c;have:=gM.1 b a c;rw[Bool.and_eq_true]at this;refine(tT v (fun t=>decide_eq_true (by rw[t];exact n.2.1 (by omega)))).1 ⟨this.1,?_⟩;rintro⟨rfl,q,j⟩;have h:=this.2;have D:(0:Int)∉e:=by simpa using q
      rw[j]at h;simp[D]at h
     unfold iA;rw[Bool.and_eq_true];refine⟨?_,?_⟩;·rw[List.all_eq_true];intro K F;obtain⟨A,l,rfl⟩:=List.getElem_of_mem F;have:=(c A l).1;simpa[List.getD,l]using this
     ·unfold gG;rw[i];simp only;rw[if_pos];·simp only;exact gM.2 fun a f=>by rw[h2.2 a f];exact(c a f).2.2
      ·exact gM.2 fun a f=>by rw[h2.2 a f];exact(c a f).2.1
    ·cases d
theorem Dd{p:List Fn}(b:lV p)(s:St):gR p s=if dX s=0 then(if iT p s=true then 0 else 1)else dX s:=by
 unfold gR;by_cases a:dX s=0;·rw[if_pos a,if_pos a,BI b a]
 ·rw[if_neg a,if_neg a]
