/- SaveEc, SaveEd -/
import Derived.Test.YtblihfpigjiahaaDoorWB46
import Derived.Test.YtblihfpigjiahaaDoorWB43
import Derived.Test.YtblihfpigjiahaaDoorWB42
set_option maxRecDepth 100000
set_option maxHeartbeats 8000000
namespace Go.Proofs.YtblihfpigjiahaaDoor
open Go.RowKit Go.Maps
theorem Qh.lt {w:World} {B:Nat} {l:List UInt8} (h:Qh w B l):B<w.heap.size:=(Array.getElem?_eq_some_iff.1 h).1
def Zax (t:TypeId) (k:Nat) (B:Nat) (w0 w:World) (cv:Value) (n:Nat) (l:List Value):Prop:=w.ownsRow w0.heap.size t k cv n l∧Zn B w0 w
theorem ea_app (t ts:TypeId) (k by_:Nat) (z:Value) (hu:Tryd.prog.underlying ts=some (.slice t)) (hi:(Tryd.prog.info? t).map (fun i=>(i.zero,i.size,i.bytes))=some (some z,k,by_)) (hz:z.cells.size=k) (hk0:0<k) (hby:by_≤1000)
  (B:Nat) (w0 w:World) (cv:Value) (n:Nat) (l e:List Value) (m:List UInt8) (h:Zax t k B w0 w cv n l) (hm:Qh w B m) (hB:B<w0.heap.size) (hn:n≤1000) (he:e.length=k) (h1:∀ u∈e,u.oneCell'=true) :
  ∃ v' w',(Builtin.append_ #[ts,ts] ts #[cv,.slice (some ⟨w.heap.size,0,none⟩) 1 1]).run Tryd.prog (w.alloc (.cells e.toArray t))=.ok v' w'∧Zax t k B w0 w' v' (n+1) (l++e)∧Qh w' B m∧Below w0.heap.size w w':=by
 obtain ⟨i0,hi0,hz0,hz1,hz2⟩:=info_parts hi
 obtain ⟨hrow,hkx⟩:=h
 have hL:(w.alloc (.cells e.toArray t)).heap[w.heap.size]?=some (.cells e.toArray t):=Zg rfl
 have hs:=hkx.size
 obtain ⟨v',w2,hrun,hown,hgrow,_,_⟩:=run_append_own_at (P:=Tryd.prog) (w:=w.alloc (.cells e.toArray t)) w0.heap.size ts ts t i0 z k by_ hu hi0 hz0 hz1 hz2 hz hk0 cv n l (hrow.alloc _) ⟨w.heap.size,0,none⟩ 1 1 e (by omega) (fun j u hj=>by
   have:((⟨w.heap.size,0,none⟩:Addr).add j)=⟨w.heap.size,j,none⟩:=by unfold Addr.add;split <;> simp_all
   rw [this,Zd hL];simpa using hj) h1 (by unfold maxLen;omega) (by have:(n+1)*by_≤1001*1000:=Nat.mul_le_mul (by omega) hby;omega) (by simp;omega)
 have hb:Below w0.heap.size w w2:=Below.grown (a:=w) (w:=w.alloc (.cells e.toArray t)) ⟨rfl,rfl,rfl,by simp,fun g hg=>Below.heap_alloc w _ g (by omega)⟩ hgrow (Nat.le_trans hs (by simp)) (fun g hg=>(World.ownsRow.lt hrow g hg).1)
 exact ⟨v',w2,hrun,⟨hown,hkx.below hb⟩,(hb.block B hB).trans hm,hb⟩
theorem Zyl (w:World) (B:Nat) (l:List UInt8) (h:Qh w B l) :
  Calls Tryd.prog 25 #[.pointer (some ⟨B,0,none⟩)] w fun en w'=>∃ cv,en=.returned cv∧Zax 3 1 B w w' cv (Qi eaV l).1.length (ints (Qi eaV l).1)∧Qh w' B (Qi eaV l).2:=by
 have hB:=h.lt
 have HC:=Za (Zfu w B l h)
 have hlt:=Zch l
 generalize hN:(eaN l).1=n at *
 generalize hM:(eaN l).2=m0 at *
 have HE:Hid (Qi eaV l=eaL eaV n m0):=Za (by unfold Qi;rw [hN,hM])
 clear hN hM h
 go_enter Tryd.func25,Tryd.ntmps25
 go_wp2_with fail
 refine (un HC).mono ?_
 rintro _ w1 ⟨rfl,h1,k1⟩
 have H1:Hid (Zax 3 1 B w w1 (.slice none 0 0) 0 []∧Qh w1 B m0):=Za ⟨⟨World.ownsRow_nil _ _ _ _,k1⟩,h1⟩
 clear h1 k1 HC
 go_wp2_with fail
 go_loopw [3,4] (fun s3 s4 wr=>∃ (j:Nat) (acc:List Int) (m:List UInt8),s4=.int .i64 j∧acc.length+j=n∧Hid (Zax 3 1 B w wr s3 acc.length (ints acc)∧Qh wr B m∧eaL eaV n m0=(acc++(eaL eaV j m).1,(eaL eaV j m).2))) (fun _ s4 _=>(intOf s4).toNat)
 case atStart=>exact ⟨n,[],m0,rfl,by simp,Za ⟨(un H1).1,(un H1).2,rfl⟩⟩
 case round =>
  obtain ⟨j,acc,m,rfl,hj,HW⟩:=hrel
  cases j with
  | succ j =>
   obtain ⟨a1,a2,a3⟩:=un HW
   have HC:=Za (Zzr wr B m a2)
   have HA:=Za a1
   have HE2:=Za a3
   have HB:=Za hB
   have hj0:(0:Int)<((j+1:Nat):Int):=by omega
   clear a1 a2 a3 HW
   go_wp2_with fail
   refine (un HC).mono ?_
   rintro _ w2 ⟨rfl,q1,q2⟩
   have a1:=un HA
   have hB:=un HB
   have b1:Zax 3 1 B w w2 u3 acc.length (ints acc):=⟨Jl a1.1 (fun g hg=>q2.block g (World.ownsRow.lt a1.1 g hg).2 (fun e=>by have:=(World.ownsRow.lt a1.1 g hg).1;omega)),a1.2.trans q2⟩
   obtain ⟨v3,w3,hrun,b2,b3,_⟩:=ea_app 3 24 1 8 (.int .i64 0) Tryd.underlying24 Zaw rfl (by decide) (by decide) B w w2 u3 _ _ [.int .i64 (eaV m).1] _ b1 q1 hB (by omega) rfl (fun u hu=>by
    simp only [List.mem_cons,List.not_mem_nil,or_false] at hu
    rw [hu];rfl)
   have HR:=Za hrun
   have HN2:Hid (Zax 3 1 B w w3 v3 (acc++[(eaV m).1]).length (ints (acc++[(eaV m).1]))∧Qh w3 B (eaV m).2∧eaL eaV n m0=(acc++[(eaV m).1]++(eaL eaV j (eaV m).2).1,(eaL eaV j (eaV m).2).2)):=Za ⟨by rw [List.length_append,Zdm];exact b2,b3,by rw [un HE2];simp [eaL]⟩
   clear q1 q2 a1 hB b1 hrun b2 b3 HA HC HE2
   go_wp2_with (at_builtin;refine un ?_)
   refine Za ?_
   refine Zai _ rfl (.tmp 11) (.tmp 14) 24 rfl rfl rfl (un HR) ?_
   clear HR
   go_wp2_with fail
   go_roundw
   case rel=>exact ⟨j,_,_,by go_num,by simp;omega,HN2⟩
   case measure=>simp [intOf]
  | zero =>
   go_wp2
   go_ret
   obtain ⟨a1,a2,a3⟩:=un HW
   have e:=(un HE).trans a3
   simp only [eaL,List.append_nil] at e
   rw [e]
   exact ⟨_,rfl,a1,a2⟩
structure Qf (B C:Nat) (w w':World):Prop where
 os:w'.os=w.os
 tape:w'.tape=w.tape
 output:w'.output=w.output
 size:w.heap.size≤w'.heap.size
 block:∀ k,k<w.heap.size→k≠B→k≠C→w'.heap[k]?=w.heap[k]?
theorem Qf.of {B C:Nat} {w w':World} (h:Zn B w w'):Qf B C w w':=⟨h.os,h.tape,h.output,h.size,fun k hk hn _=>h.block k hk hn⟩
theorem Qf.trans {B C:Nat} {a b c:World} (h:Qf B C a b) (k:Qf B C b c):Qf B C a c :=
 ⟨k.os.trans h.os,k.tape.trans h.tape,k.output.trans h.output,Nat.le_trans h.size k.size,fun i hi hn hm=>(k.block i (Nat.lt_of_lt_of_le hi h.size) hn hm).trans (h.block i hi hn hm)⟩
theorem Qf.setCell {B C:Nat} {a b:World} (h:Qf B C a b) {p:Addr} (hp:p.block=B∨p.block=C∨a.heap.size≤p.block) (u:Value):Qf B C a (b.setCell p u) :=
 ⟨h.os,h.tape,h.output,by simpa [World.setCell] using h.size,fun k hk hn hm=>(Below.heap_setCell _ _ _ _ (by omega)).trans (h.block k hk hn hm)⟩
theorem Qf.below {B C:Nat} {a b c:World} (h:Qf B C a b) (k:Below a.heap.size b c):Qf B C a c :=
 ⟨k.os.trans h.os,k.tape.trans h.tape,k.output.trans h.output,Nat.le_trans h.size k.size,fun i hi hn hm=>(k.block i hi).trans (h.block i hi hn hm)⟩
theorem Qf.up {B C F:Nat} {a b c:World} (h:Qf B C a b) (hF:a.heap.size≤F) (k:Qf B F b c):Qf B C a c :=
 ⟨k.os.trans h.os,k.tape.trans h.tape,k.output.trans h.output,Nat.le_trans h.size k.size,fun i hi hn hm=>(k.block i (Nat.lt_of_lt_of_le hi h.size) hn (by omega)).trans (h.block i hi hn hm)⟩
theorem Qf.lays {B C:Nat} {w w':World} (h:Qf B C w w') {b:Nat} {o:Obj} (hn:b≠B) (hm:b≠C) (hb:w.heap[b]?=some o):w'.heap[b]?=some o :=
 (h.block b (Array.getElem?_eq_some_iff.1 hb).1 hn hm).trans hb
theorem Qf.kept {B C:Nat} {w0 w w':World} (h0:Zb w0 w) (hB:w0.heap.size≤B) (hC:w0.heap.size≤C) (h:Qf B C w w'):Zb w0 w' :=
 ⟨h.os.trans h0.os,h.tape.trans h0.tape,h.output.trans h0.output,Nat.le_trans h0.size h.size,fun k hk=>(h.block k (Nat.lt_of_lt_of_le hk h0.size) (by omega) (by omega)).trans (h0.block k hk)⟩
theorem Qf.stay {ts:List TypeId} {B C:Nat} {w w':World} {m:List UInt8} {c:Array Value} {t:TypeId} (k:Qf B C w w') (h:Qh w B m) (hc:w.heap[C]?=some (.cells c t)) (h1:63 ∉ ts) (h2:t ∉ ts):Zs ts w w':=fun g d u hu hg =>
 k.lays (fun e=>by
  subst e
  rw [Qh,hg] at h
  simp only [Option.some.injEq,Obj.cells.injEq] at h
  exact h1 (h.2.1 ▸ hu)) (fun e=>by
  subst e
  rw [hc] at hg
  simp only [Option.some.injEq,Obj.cells.injEq] at hg
  exact h2 (hg.2.1 ▸ hu)) hg
theorem Zn.stayE {ts:List TypeId} {B:Nat} {w w':World} {m:List UInt8} (k:Zn B w w') (h:Qh w B m) (h1:63 ∉ ts):Zs ts w w':=fun g d u hu hg =>
 k.lays (fun e=>by
  subst e
  rw [Qh,hg] at h
  simp only [Option.some.injEq,Obj.cells.injEq] at h
  exact h1 (h.2.1 ▸ hu)) hg
def Yq (w:World) (v:Value) (l:List Int):Prop:=∃ oa cap,v=.slice oa l.length cap∧l.length≤1000∧∀ (i:Nat) z,l[i]?=some z→∃ g cur,oa=some ⟨g,0,none⟩∧w.heap[g]?=some (.cells cur 3)∧cur[i]?=some (.int .i64 z)
def Zao (w:World) (v:Value) (l:List Fr):Prop:=∃ oa cap,v=.slice oa l.length cap∧(l.length≤1000∧l.length≤cap)∧∀ (i:Nat) x,l[i]?=some x→∃ g cur vl vs,oa=some ⟨g,0,none⟩∧w.heap[g]?=some (.cells cur 53)∧cur[i*4]?=some (.int .i64 x.fn)∧cur[i*4+1]?=some (.int .i64 x.at_)∧cur[i*4+2]?=some vl∧cur[i*4+3]?=some vs∧Yq w vl x.locals∧Yq w vs x.stack
def FrC (w:World) (c:List Value) (l:List Fr):Prop:=∀ (i:Nat) x,l[i]?=some x→∃ vl vs,c[i*4]?=some (.int .i64 x.fn)∧c[i*4+1]?=some (.int .i64 x.at_)∧c[i*4+2]?=some vl∧c[i*4+3]?=some vs∧Yq w vl x.locals∧Yq w vs x.stack
def FbC (w:World) (c:List Value) (l:List Fb):Prop:=∀ (i:Nat) x,l[i]?=some x→∃ vf,c[i*2]?=some vf∧c[i*2+1]?=some (.int .i64 x.caller)∧Zao w vf x.frames
def Yt (b:Nat) (w:World) (v:Value) (l:List Fr):Prop:=∃ c,w.ownsRow b 53 4 v l.length c∧FrC w c l
def Jp (b:Nat) (w:World) (v:Value) (l:List Fb):Prop:=∃ c,w.ownsRow b 46 2 v l.length c∧FbC w c l
theorem Yq.stay {w w':World} {v:Value} {l:List Int} (h:Yq w v l) (k:Zs [3] w w'):Yq w' v l:=by
 obtain ⟨oa,cap,e,hn,hi⟩:=h
 refine ⟨oa,cap,e,hn,fun i z hz=>?_⟩
 obtain ⟨g,cur,q1,q2,q3⟩:=hi i z hz
 exact ⟨g,cur,q1,k g cur _ (by simp) q2,q3⟩
theorem Zao.stay {w w':World} {v:Value} {l:List Fr} (h:Zao w v l) (k:Zs [3,53] w w'):Zao w' v l:=by
 obtain ⟨oa,cap,e,hn,hi⟩:=h
 refine ⟨oa,cap,e,hn,fun i z hz=>?_⟩
 obtain ⟨g,cur,vl,vs,q1,q2,q3,q4,q5,q6,q7,q8⟩:=hi i z hz
 exact ⟨g,cur,vl,vs,q1,k g cur _ (by simp) q2,q3,q4,q5,q6,q7.stay (k.sub (by simp)),q8.stay (k.sub (by simp))⟩
theorem FrC.stay {w w':World} {c:List Value} {l:List Fr} (h:FrC w c l) (k:Zs [3] w w'):FrC w' c l:=fun i x hx=>by
 obtain ⟨vl,vs,q3,q4,q5,q6,q7,q8⟩:=h i x hx
 exact ⟨vl,vs,q3,q4,q5,q6,q7.stay k,q8.stay k⟩
theorem FbC.stay {w w':World} {c:List Value} {l:List Fb} (h:FbC w c l) (k:Zs [3,53] w w'):FbC w' c l:=fun i x hx=>by
 obtain ⟨vf,q3,q4,q5⟩:=h i x hx
 exact ⟨vf,q3,q4,q5.stay k⟩
theorem Zbc {w:World} {base:Nat} {e:TypeId} {size:Nat} {v:Value} {n:Nat} {xs:List Value} (h:w.ownsRow base e size v n xs) :
  ∃ oa cap,v=.slice oa n cap∧n≤cap∧∀ (j:Nat) u,xs[j]?=some u→∃ g cur,oa=some ⟨g,0,none⟩∧w.heap[g]?=some (.cells cur e)∧∀ (j:Nat) u,xs[j]?=some u→cur[j]?=some u:=by
 obtain ⟨hl,⟨rfl,rfl⟩ | ⟨g,cap,cur,rfl,hb,hh,h1,h2,hs,ht⟩⟩:=h
 ·refine ⟨none,0,rfl,Nat.le_refl _,fun j u hj=>?_⟩
  have:=(List.getElem?_eq_some_iff.1 hj).1
  omega
 ·refine ⟨_,cap,rfl,h1,fun _ _ _=>⟨g,cur,rfl,hh,fun j u hj=>?_⟩⟩
  rw [← ht,List.getElem?_take] at hj
  split at hj
  ·simpa using hj
  ·cases hj
theorem Yq.row {w:World} {b:Nat} {v:Value} {l:List Int} (h:w.ownsRow b 3 1 v l.length (ints l)) (hl:l.length≤1000):Yq w v l:=by
 obtain ⟨oa,cap,e,_,hi⟩:=Zbc h
 refine ⟨oa,cap,e,hl,fun i z hz=>?_⟩
 have hz':(ints l)[i]?=some (.int .i64 z):=by simp [ints,hz]
 obtain ⟨g,cur,q1,q2,q3⟩:=hi i _ hz'
 exact ⟨g,cur,q1,q2,q3 _ _ hz'⟩
theorem Yt.frs {w:World} {b:Nat} {v:Value} {l:List Fr} (h:Yt b w v l) (hl:l.length≤1000):Zao w v l:=by
 obtain ⟨c,hr,hc⟩:=h
 obtain ⟨oa,cap,e,hcap,hi⟩:=Zbc hr
 refine ⟨oa,cap,e,⟨hl,hcap⟩,fun i x hx=>?_⟩
 obtain ⟨vl,vs,q3,q4,q5,q6,q7,q8⟩:=hc i x hx
 obtain ⟨g,cur,r1,r2,r3⟩:=hi _ _ q3
 exact ⟨g,cur,vl,vs,r1,r2,r3 _ _ q3,r3 _ _ q4,r3 _ _ q5,r3 _ _ q6,q7,q8⟩
theorem Yq.ints {w:World} {v:Value} {l:List Int} (h:Yq w v l):Xn w v l:=by
 obtain ⟨oa,cap,e,hn,hi⟩:=h
 refine ⟨oa,cap,e,by omega,fun i z hz=>?_⟩
 obtain ⟨g,cur,q1,q2,q3⟩:=hi i z hz
 exact ⟨g,0,q1,by rw [Nat.zero_add,Zd q2];exact q3⟩
theorem Zao.frames {w:World} {v:Value} {l:List Fr} (h:Zao w v l):Ys w v l:=by
 obtain ⟨oa,cap,e,hn,hi⟩:=h
 refine ⟨oa,cap,e,⟨by omega,hn.2⟩,fun i z hz=>?_⟩
 obtain ⟨g,cur,vl,vs,q1,q2,q3,q4,q5,q6,q7,q8⟩:=hi i z hz
 exact ⟨g,0,vl,vs,q1,by rw [Nat.zero_add,Zd q2];exact q3,by rw [Nat.zero_add,Zd q2];exact q4,by rw [Nat.zero_add,Zd q2];exact q5,by rw [Nat.zero_add,Zd q2];exact q6,q7.ints,q8.ints⟩
theorem Zjt (t ts:TypeId) (k by_:Nat) (z:Value) (hu:Tryd.prog.underlying ts=some (.slice t)) (hi:(Tryd.prog.info? t).map (fun i=>(i.zero,i.size,i.bytes))=some (some z,k,by_)) (hz:z.cells.size=k) (hk0:0<k) (hby:by_≤1000)
  (b:Nat) (w:World) (cv:Value) (n:Nat) (l e:List Value) (hrow:w.ownsRow b t k cv n l) (hb:b≤w.heap.size) (hn:n≤1000) (he:e.length=k) (h1:∀ u∈e,u.oneCell'=true) :
  ∃ v' w',(Builtin.append_ #[ts,ts] ts #[cv,.slice (some ⟨w.heap.size,0,none⟩) 1 1]).run Tryd.prog (w.alloc (.cells e.toArray t))=.ok v' w'∧w'.ownsRow b t k v' (n+1) (l++e)∧Below b w w'∧∀ us,t ∉ us→Zs us w w':=by
 obtain ⟨i0,hi0,hz0,hz1,hz2⟩:=info_parts hi
 have hL:(w.alloc (.cells e.toArray t)).heap[w.heap.size]?=some (.cells e.toArray t):=Zg rfl
 obtain ⟨v',w2,hrun,hown,hgrow,_,_⟩:=run_append_own_at (P:=Tryd.prog) (w:=w.alloc (.cells e.toArray t)) b ts ts t i0 z k by_ hu hi0 hz0 hz1 hz2 hz hk0 cv n l (hrow.alloc _) ⟨w.heap.size,0,none⟩ 1 1 e (by omega) (fun j u hj=>by
   have:((⟨w.heap.size,0,none⟩:Addr).add j)=⟨w.heap.size,j,none⟩:=by unfold Addr.add;split <;> simp_all
   rw [this,Zd hL];simpa using hj) h1 (by unfold maxLen;omega) (by have:(n+1)*by_≤1001*1000:=Nat.mul_le_mul (by omega) hby;omega) (by simp;omega)
 refine ⟨v',w2,hrun,hown,Below.grown (a:=w) (w:=w.alloc (.cells e.toArray t)) ⟨rfl,rfl,rfl,by simp,fun g hg=>Below.heap_alloc w _ g (by omega)⟩ hgrow (Nat.le_trans hb (by simp)) (fun g hg=>(World.ownsRow.lt hrow g hg).1),fun us ht g c u hu hg=>?_⟩
 have hg2:=Zr hg (.cells e.toArray t)
 refine (hgrow.block g (Array.getElem?_eq_some_iff.1 hg2).1 (fun e=>?_)).trans hg2
 obtain ⟨_,⟨h0,_⟩ | ⟨g',_,cur',h0,_,hh,_⟩⟩:=hrow
 ·rw [h0] at e;cases e
 ·rw [h0] at e
  obtain rfl:g=g':=by simpa [Value.ownBlock] using e
  rw [hg] at hh
  simp only [Option.some.injEq,Obj.cells.injEq] at hh
  exact ht (hh.2.1 ▸ hu)
theorem Zve (b:Nat) (w:World) (v:Value) (l:List Fr) (x:Fr) (vl vs:Value) (h:Yt b w v l) (hb:b≤w.heap.size) (hl:l.length≤1000) (h1:Yq w vl x.locals) (h2:Yq w vs x.stack) :
  ∃ v' w',(Builtin.append_ #[44,44] 44 #[v,.slice (some ⟨w.heap.size,0,none⟩) 1 1]).run Tryd.prog (w.alloc (.cells #[.int .i64 x.fn,.int .i64 x.at_,vl,vs] 53))=.ok v' w'∧Yt b w' v' (l++[x])∧Below b w w'∧Zs [3] w w':=by
 obtain ⟨c,hr,hc⟩:=h
 obtain ⟨v',w',q1,q2,q3,q4⟩:=Zjt 53 44 4 64 _ Tryd.underlying44 Zmt rfl (by decide) (by decide) b w v l.length c [.int .i64 x.fn,.int .i64 x.at_,vl,vs] hr hb hl rfl (fun u hu=>by
  obtain ⟨_,_,rfl,_⟩:=h1
  obtain ⟨_,_,rfl,_⟩:=h2
  simp only [List.mem_cons,List.not_mem_nil,or_false] at hu
  rcases hu with rfl | rfl | rfl | rfl <;> rfl)
 have st:=q4 [3] (by decide)
 refine ⟨v',w',q1,⟨_,by rw [List.length_append];exact q2,fun i y hy=>?_⟩,q3,st⟩
 have hcl:c.length=l.length*4:=hr.1
 by_cases hi:i<l.length
 ·rw [List.getElem?_append_left hi] at hy
  obtain ⟨vl,vs,r3,r4,r5,r6,r7,r8⟩:=hc i y hy
  exact ⟨vl,vs,by rw [List.getElem?_append_left (by omega)];exact r3,by rw [List.getElem?_append_left (by omega)];exact r4,by rw [List.getElem?_append_left (by omega)];exact r5,by rw [List.getElem?_append_left (by omega)];exact r6,r7.stay st,r8.stay st⟩
 ·rw [List.getElem?_append_right (by omega)] at hy
  obtain ⟨rfl,rfl⟩:i=l.length∧x=y:=by
   have:=(List.getElem?_eq_some_iff.1 hy).1
   simp only [List.length_cons,List.length_nil] at this
   obtain rfl:i=l.length:=by omega
   exact ⟨rfl,by simpa using hy⟩
  refine ⟨vl,vs,?_,?_,?_,?_,h1.stay st,h2.stay st⟩ <;> rw [List.getElem?_append_right (by omega),hcl] <;> simp
theorem Zoj (b:Nat) (w:World) (v:Value) (l:List Fb) (x:Fb) (vf:Value) (h:Jp b w v l) (hb:b≤w.heap.size) (hl:l.length≤1000) (h1:Zao w vf x.frames) :
  ∃ v' w',(Builtin.append_ #[23,23] 23 #[v,.slice (some ⟨w.heap.size,0,none⟩) 1 1]).run Tryd.prog (w.alloc (.cells #[vf,.int .i64 x.caller] 46))=.ok v' w'∧Jp b w' v' (l++[x])∧Below b w w':=by
 obtain ⟨c,hr,hc⟩:=h
 obtain ⟨v',w',q1,q2,q3,q4⟩:=Zjt 46 23 2 32 _ Tryd.underlying23 Zkg rfl (by decide) (by decide) b w v l.length c [vf,.int .i64 x.caller] hr hb hl rfl (fun u hu=>by
  obtain ⟨_,_,rfl,_⟩:=h1
  simp only [List.mem_cons,List.not_mem_nil,or_false] at hu
  rcases hu with rfl | rfl <;> rfl)
 have st:=q4 [3,53] (by decide)
 refine ⟨v',w',q1,⟨_,by rw [List.length_append];exact q2,fun i y hy=>?_⟩,q3⟩
 have hcl:c.length=l.length*2:=hr.1
 by_cases hi:i<l.length
 ·rw [List.getElem?_append_left hi] at hy
  obtain ⟨vf,r3,r4,r5⟩:=hc i y hy
  exact ⟨vf,by rw [List.getElem?_append_left (by omega)];exact r3,by rw [List.getElem?_append_left (by omega)];exact r4,r5.stay st⟩
 ·rw [List.getElem?_append_right (by omega)] at hy
  obtain ⟨rfl,rfl⟩:i=l.length∧x=y:=by
   have:=(List.getElem?_eq_some_iff.1 hy).1
   simp only [List.length_cons,List.length_nil] at this
   obtain rfl:i=l.length:=by omega
   exact ⟨rfl,by simpa using hy⟩
  refine ⟨vf,?_,?_,h1.stay st⟩ <;> rw [List.getElem?_append_right (by omega),hcl] <;> simp
theorem Yt.nil (b:Nat) (w:World):Yt b w (.slice none 0 0) []:=⟨[],World.ownsRow_nil _ _ _ _,fun i x h=>by simp at h⟩
theorem Jp.nil (b:Nat) (w:World):Jp b w (.slice none 0 0) []:=⟨[],World.ownsRow_nil _ _ _ _,fun i x h=>by simp at h⟩
theorem row_y {w w':World} {b B C:Nat} {e:TypeId} {size:Nat} {v:Value} {n:Nat} {xs:List Value} (h:w.ownsRow b e size v n xs) (k:Qf B C w w') (hB:B<b) (hC:C<b):w'.ownsRow b e size v n xs :=
 Jl h (fun g hg=>k.block g (World.ownsRow.lt h g hg).2 (fun e=>by have:=(World.ownsRow.lt h g hg).1;omega) (fun e=>by have:=(World.ownsRow.lt h g hg).1;omega))
theorem Yt.move {w w':World} {b B:Nat} {v:Value} {l:List Fr} {m:List UInt8} (h:Yt b w v l) (k:Zn B w w') (hE:Qh w B m) (hB:B<b):Yt b w' v l:=by
 obtain ⟨c,hr,hc⟩:=h
 exact ⟨c,row_y hr (Qf.of (C:=B) k) hB hB,hc.stay (k.stayE hE (by decide))⟩
theorem Jp.move {w w':World} {b B C:Nat} {v:Value} {l:List Fb} {m:List UInt8} {d:Array Value} (h:Jp b w v l) (k:Qf B C w w') (hE:Qh w B m) (hd:w.heap[C]?=some (.cells d 46)) (hB:B<b) (hr:∀ g,v.ownBlock=some g→g≠C):Jp b w' v l:=by
 obtain ⟨c,h1,hc⟩:=h
 exact ⟨c,Jl h1 (fun g hg=>k.block g (World.ownsRow.lt h1 g hg).2 (fun e=>by have:=(World.ownsRow.lt h1 g hg).1;omega) (hr g hg)),hc.stay (k.stay hE hd (by decide) (by decide))⟩
theorem Jp.moveX {w w':World} {b B:Nat} {v:Value} {l:List Fb} {m:List UInt8} (h:Jp b w v l) (k:Zn B w w') (hE:Qh w B m) (hB:B<b):Jp b w' v l:=by
 obtain ⟨c,hr,hc⟩:=h
 exact ⟨c,row_y hr (Qf.of (C:=B) k) hB hB,hc.stay (k.stayE hE (by decide))⟩
theorem Jp.set {w:World} {b S i:Nat} {v u:Value} {l:List Fb} {d:Array Value} (h:Jp b w v l) (hd:w.heap[S]?=some (.cells d 26)) (hS:S<b):Jp b (w.setCell ⟨S,i,none⟩ u) v l:=by
 obtain ⟨c,hr,hc⟩:=h
 exact ⟨c,Jl hr (fun g hg=>Below.heap_setCell _ _ _ _ (fun e=>by have:=(World.ownsRow.lt hr g hg).1;simp only at e;omega)),hc.stay (Zs.set hd (by decide) i u)⟩
theorem Yt.set {w:World} {b F i:Nat} {v u:Value} {l:List Fr} {d:Array Value} (h:Yt b w v l) (hd:w.heap[F]?=some (.cells d 46)) (hF:F<b):Yt b (w.setCell ⟨F,i,none⟩ u) v l:=by
 obtain ⟨c,hr,hc⟩:=h
 exact ⟨c,Jl hr (fun g hg=>Below.heap_setCell _ _ _ _ (fun e=>by have:=(World.ownsRow.lt hr g hg).1;simp only at e;omega)),hc.stay (Zs.set hd (by decide) i u)⟩
theorem Jp.st {w W:World} {b:Nat} {vf vo:Value} {s:St} (h:Jp b w vf s.fibers) (ho:Yq w vo s.out) (hl:s.fibers.length≤1000) (k:Zs [3,53,46] w W):Zy W (.agg #[vf,.int .i64 s.now,vo]) s:=by
 refine ⟨vf,vo,rfl,?_,(ho.stay (k.sub (by simp))).ints⟩
 obtain ⟨c,hr,hc⟩:=h
 obtain ⟨oa,cap,e,_,hi⟩:=Zbc hr
 refine ⟨oa,cap,e,by omega,fun i x hx=>?_⟩
 obtain ⟨vf,q3,q4,q5⟩:=hc i x hx
 obtain ⟨g,cur,r1,r2,r3⟩:=hi _ _ q3
 have r4:=k g cur _ (by simp) r2
 exact ⟨g,0,vf,r1,by rw [Nat.zero_add,Zd r4];exact r3 _ _ q3,by rw [Nat.zero_add,Zd r4];exact r3 _ _ q4,(q5.stay (k.sub (by simp))).frames⟩
theorem Yt.shape {w:World} {b:Nat} {v:Value} {l:List Fr} (h:Yt b w v l):∃ oa cap,v=.slice oa l.length cap:=by
 obtain ⟨c,hr,_⟩:=h
 obtain ⟨oa,cap,e,_⟩:=Zbc hr
 exact ⟨oa,cap,e⟩
theorem Jp.shape {w:World} {b:Nat} {v:Value} {l:List Fb} (h:Jp b w v l):∃ oa cap,v=.slice oa l.length cap:=by
 obtain ⟨c,hr,_⟩:=h
 obtain ⟨oa,cap,e,_⟩:=Zbc hr
 exact ⟨oa,cap,e⟩
end Go.Proofs.YtblihfpigjiahaaDoor
