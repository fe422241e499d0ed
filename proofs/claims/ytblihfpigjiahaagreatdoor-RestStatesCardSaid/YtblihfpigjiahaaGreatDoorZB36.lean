/- OwnG, OwnH -/
import Derived.Test.YtblihfpigjiahaaGreatDoorZB35
import Derived.Test.YtblihfpigjiahaaGreatDoorZB18
import Derived.Deep.Upon
set_option maxRecDepth 100000
set_option maxHeartbeats 8000000
namespace Go.Proofs.YtblihfpigjiahaaGreatDoor
open Go.RowKit
theorem grow_base {w:World} {base base':Nat} {e:TypeId} {size n:Nat} {v:Value} {xs:List Value} (h:w.ownsRow base e size v n xs) (hb:base'≤base):w.ownsRow base' e size v n xs:=by
 refine ⟨h.1,?_⟩
 rcases h.2 with hn | ⟨g,cap,cur,rfl,hb',rest⟩
 ·exact .inl hn
 ·exact .inr ⟨g,cap,cur,rfl,by omega,rest⟩
def oneF (b:Fb):St:=⟨[b],0,[]⟩
theorem oneF_fib (b:Fb):Za (oneF b) 0=b:=rfl
def joinV (V Vf:Key→Value) (n:Nat) (v':Value):Key→Value
 | none=>v'
 | some none=>V .out
 | some (some (.inl t))=>if t=n then Vf (.frames 0) else V (.frames t)
 | some (some (.inr (.inl (t,j))))=>if t=n then Vf (.locals 0 j) else V (.locals t j)
 | some (some (.inr (.inr (t,j))))=>if t=n then Vf (.stack 0 j) else V (.stack t j)
theorem fiber_joined (base bs:Nat) (V:Key→Value) (s:St) (w:World) (h:OwnVar base w bs V s) (N0:Nat) (hV:∀ k g,live s k→(V k).ownBlock=some g→g < N0) (hbs:bs < N0) (hN:N0≤w.heap.size) (Vf:Key→Value) (b:Fb) (hf:Own N0 w Vf (oneF b)) (hfr:s.fibers.length≤1000) :
  ∃ v' w',(Builtin.append_ #[23,23] 23 #[V .fibers,.slice (some ⟨w.heap.size,0,none⟩) 1 1]).run Tryz.prog (w.alloc (.cells #[Vf (.frames 0),.int .i64 b.caller] 46))=.ok v' w' ∧
   (∃ o c,v'=.slice o (s.fibers.length + 1) c)∧(∃ V',OwnVar base (w'.setCell ⟨bs,0,none⟩ v') bs V' { s with fibers:=s.fibers++[b] })∧Below base w w'∧w'.cell? ⟨bs,0,none⟩=some (V .fibers)∧w'.frozen? ⟨bs,0,none⟩=false ∧
   (∀ x,x < w.heap.size→(V .fibers).ownBlock≠some x→w'.heap[x]?=w.heap[x]?):=by
 obtain ⟨i0,hi0,hz0,hz1,hz2⟩:=info_parts infoFiber
 have hbase:base≤N0:=by have:=h.low; omega
 generalize hob:Obj.cells #[Vf (.frames 0),.int .i64 b.caller] 46=ob
 have lB:(w.alloc ob).heap[w.heap.size]?=some (.cells #[Vf (.frames 0),.int .i64 b.caller] 46):=by rw [hob]; exact Zd rfl
 have hu:OwnVar base (w.alloc ob) bs V s:=h.alloc ob
 have huf:Own N0 (w.alloc ob) Vf (oneF b):=hf.alloc ob
 have hku:Kept w (w.alloc ob):=(Kept.refl w).alloc _
 have hsz:(w.alloc ob).heap.size=w.heap.size + 1:=by simp
 generalize w.alloc ob=u at *
 have hbu:Below base w u:=Below.mono hku (by omega)
 obtain ⟨xs,hrow,hent⟩:=hu.own.piece .fibers trivial
 have hone:(Vf (.frames 0)).oneCell'=true:=by
  obtain ⟨ys,hy,_⟩:=huf.piece (.frames 0) (by simp [live,oneF])
  obtain ⟨o,c,e,_⟩:=Zo hy
  rw [e]; rfl
 obtain ⟨v',w',hrun,hown',hgrow,_,hat⟩:=run_append_own_at (P:=Tryz.prog) u base 23 23 46 i0 _ 2 32 Tryz.underlying23 hi0 hz0 hz1 hz2 rfl (by decide) _ _ xs hrow ⟨w.heap.size,0,none⟩ 1 1
  [Vf (.frames 0),.int .i64 b.caller] rfl (fun j x hj=>by
   have:((⟨w.heap.size,0,none⟩:Addr).add j)=⟨w.heap.size,j,none⟩:=by unfold Addr.add; split <;> simp_all
   rw [this,Zb lB]
   simpa using hj) (by intro x hx; simp only [List.mem_cons,List.not_mem_nil,or_false] at hx; rcases hx with rfl | rfl <;> first | exact hone | rfl) (by unfold maxLen; omega) (by omega) (by omega)
 have hkeep:∀ x,x < u.heap.size→(V .fibers).ownBlock≠some x→w'.heap[x]?=u.heap[x]?:=fun x hx hne=>hgrow.block x hx (fun e=>hne e.symm)
 have hnew:∀ x,N0≤x→(V .fibers).ownBlock≠some x:=fun x hx e=>by have:=hV .fibers x trivial e; omega
 have hvat:∀ x,v'.ownBlock=some x→x < N0∧(V .fibers).ownBlock=some x∨x=u.heap.size:=fun x hx=>by
  rcases hat with e | e
  ·rw [hx] at e; exact .inl ⟨hV .fibers x trivial e.symm,e.symm⟩
  ·rw [hx] at e; exact .inr (Option.some.inj e)
 generalize hn:s.fibers.length=n at *
 have hfo:∀ t,t < n→Za { s with fibers:=s.fibers++[b] } t=Za s t:=fun t ht=>Kq _ _ _ _ (by rw [hn]; exact ht)
 have hfn:Za { s with fibers:=s.fibers++[b] } n=b:=by rw [← hn]; exact Kt _ _ _
 have hfro:∀ t q,t < n→frAt { s with fibers:=s.fibers++[b] } t q=frAt s t q:=fun t q ht=>by unfold frAt; rw [hfo t ht]
 have hfrn:∀ q,frAt { s with fibers:=s.fibers++[b] } n q=frAt (oneF b) 0 q:=fun q=>by unfold frAt; rw [hfn]; rfl
 have hl1:({ s with fibers:=s.fibers++[b] }:St).fibers.length=n + 1:=by simp [hn]
 -- which key is which
 have hsplit:∀ k,live { s with fibers:=s.fibers++[b] } k→k=.fibers∨(live s k∧k≠.fibers∧joinV V Vf n v' k=V k)∨(∃ k',live (oneF b) k'∧k'≠.fibers∧k'≠.out∧joinV V Vf n v' k=Vf k'∧(∀ k2 k2',live { s with fibers:=s.fibers++[b] } k2→joinV V Vf n v' k2=Vf k2'→True)∧((k'=.frames 0∧k=.frames n)∨(∃ q,k'=.locals 0 q∧k=.locals n q)∨(∃ q,k'=.stack 0 q∧k=.stack n q))):=by
  intro k hk
  cases k using Key.by with
  | fibers=>exact .inl rfl
  | out=>exact .inr (.inl ⟨trivial,by simp,rfl⟩)
  | frames t =>
   simp only [live,hl1] at hk
   by_cases e:t=n
   ·subst e
    exact .inr (.inr ⟨.frames 0,by simp [live,oneF],by simp,by simp,by simp [joinV],fun _ _ _ _=>trivial,.inl ⟨rfl,rfl⟩⟩)
   ·exact .inr (.inl ⟨by simp only [live,hn]; omega,by simp,by simp [joinV,e]⟩)
  | locals t q =>
   simp only [live,hl1] at hk
   by_cases e:t=n
   ·subst e
    rw [hfn] at hk
    exact .inr (.inr ⟨.locals 0 q,⟨by simp [oneF],hk.2⟩,by simp,by simp,by simp [joinV],fun _ _ _ _=>trivial,.inr (.inl ⟨q,rfl,rfl⟩)⟩)
   ·rw [hfo t (by omega)] at hk
    exact .inr (.inl ⟨⟨by omega,hk.2⟩,by simp,by simp [joinV,e]⟩)
  | stack t q =>
   simp only [live,hl1] at hk
   by_cases e:t=n
   ·subst e
    rw [hfn] at hk
    exact .inr (.inr ⟨.stack 0 q,⟨by simp [oneF],hk.2⟩,by simp,by simp,by simp [joinV],fun _ _ _ _=>trivial,.inr (.inr ⟨q,rfl,rfl⟩)⟩)
   ·rw [hfo t (by omega)] at hk
    exact .inr (.inl ⟨⟨by omega,hk.2⟩,by simp,by simp [joinV,e]⟩)
 have hjoin:Own base w' (joinV V Vf n v') { s with fibers:=s.fibers++[b] }:=by
  refine ⟨fun k hk=>?_,fun k k' g hk hk' e e'=>?_⟩
  ·rcases hsplit k hk with rfl | ⟨hlk,hkf,hjv⟩ | ⟨k',hl',hkf',hko',hjv,_,hwhich⟩
   ·refine ⟨xs++[Vf (.frames 0),.int .i64 b.caller],by rw [hl1]; exact hown',fun t ht=>?_⟩
    rw [hl1] at ht
    have hxl:xs.length=n * 2:=hrow.1
    by_cases e:t=n
    ·subst e
     rw [hfn]
     refine ⟨?_,?_⟩ <;> rw [List.getElem?_append_right (by omega),hxl]
     ·rw [show t * 2 - t * 2=0 by omega]; simp [joinV]
     ·rw [show t * 2 + 1 - t * 2=1 by omega]; rfl
    ·obtain ⟨q0,q1⟩:=hent t (by omega)
     rw [hfo t (by omega)]
     refine ⟨?_,?_⟩ <;> rw [List.getElem?_append_left (by omega)]
     ·rw [q0]; simp [joinV,e]
     ·exact q1
   ·have hp:=(hu.own.piece k hlk).same (w':=w') (fun g hg=>hkeep g ((hu.own.piece k hlk).block g hg).2 (fun e=>hkf (hu.own.apart k .fibers g hlk trivial hg e)))
    cases k using Key.by with
    | fibers=>exact absurd rfl hkf
    | out=>exact hp
    | frames t =>
     obtain ⟨ys,r1,r2⟩:=hp
     have ht:t < n:=by simp only [live,hn] at hlk; exact hlk
     refine ⟨ys,by rw [hjv,hfo t ht]; exact r1,fun q hq=>?_⟩
     rw [hfo t ht] at hq
     rw [hfro t q ht]
     have:=r2 q hq
     simpa [joinV,show t≠n by omega] using this
    | locals t q =>
     have ht:t < n:=by have:=hlk.1; rw [hn] at this; exact this
     simp only [Piece] at hp ⊢; rw [hjv,hfro t q ht]; exact hp
    | stack t q =>
     have ht:t < n:=by have:=hlk.1; rw [hn] at this; exact this
     simp only [Piece] at hp ⊢; rw [hjv,hfro t q ht]; exact hp
   ·have hp:=(huf.piece k' hl').same (w':=w') (fun g hg=>hkeep g ((huf.piece k' hl').block g hg).2 (hnew g ((huf.piece k' hl').block g hg).1))
    rcases hwhich with ⟨rfl,rfl⟩ | ⟨q,rfl,rfl⟩ | ⟨q,rfl,rfl⟩
    ·obtain ⟨ys,r1,r2⟩:=hp
     refine ⟨ys,by rw [hjv,hfn]; exact grow_base r1 hbase,fun q hq=>?_⟩
     rw [hfn] at hq
     rw [hfrn q]
     have:=r2 q hq
     simpa [joinV] using this
    ·simp only [Piece] at hp ⊢; rw [hjv,hfrn q]; exact grow_base hp hbase
    ·simp only [Piece] at hp ⊢; rw [hjv,hfrn q]; exact grow_base hp hbase
  ·rcases hsplit k hk with rfl | ⟨hlk,hkf,hjv⟩ | ⟨k1,hl1',hkf1,hko1,hjv,_,hw1⟩ <;> rcases hsplit k' hk' with rfl | ⟨hlk',hkf',hjv'⟩ | ⟨k2,hl2',hkf2,hko2,hjv',_,hw2⟩
   ·rfl
   ·rw [hjv'] at e'
    rcases hvat g e with ⟨_,h2⟩ | h2
    ·exact absurd (hu.own.apart k' .fibers g hlk' trivial e' h2) hkf'
    ·have:=((hu.own.piece k' hlk').block g e').2; omega
   ·rw [hjv'] at e'
    have h3:=(huf.piece k2 hl2').block g e'
    rcases hvat g e with ⟨h2,_⟩ | h2 <;> omega
   ·rw [hjv] at e
    rcases hvat g e' with ⟨_,h2⟩ | h2
    ·exact absurd (hu.own.apart k .fibers g hlk trivial e h2) hkf
    ·have:=((hu.own.piece k hlk).block g e).2; omega
   ·rw [hjv] at e
    rw [hjv'] at e'
    exact hu.own.apart k k' g hlk hlk' e e'
   ·rw [hjv] at e
    rw [hjv'] at e'
    have h3:=(huf.piece k2 hl2').block g e'
    have h4:=hV k g hlk e
    omega
   ·rw [hjv] at e
    have h3:=(huf.piece k1 hl1').block g e
    rcases hvat g e' with ⟨h2,_⟩ | h2 <;> omega
   ·rw [hjv] at e
    rw [hjv'] at e'
    have h3:=(huf.piece k1 hl1').block g e
    have h4:=hV k' g hlk' e'
    omega
   ·rw [hjv] at e
    rw [hjv'] at e'
    have h5:=huf.apart k1 k2 g hl1' hl2' e e'
    subst h5
    rcases hw1 with ⟨a1,a2⟩ | ⟨q,a1,a2⟩ | ⟨q,a1,a2⟩ <;> rcases hw2 with ⟨c1,c2⟩ | ⟨q',c1,c2⟩ | ⟨q',c1,c2⟩ <;> rw [a1] at c1 <;> first | (cases c1; rw [a2,c2]) | cases c1
 have hoff:Own.off (joinV V Vf n v') { s with fibers:=s.fibers++[b] } bs:=by
  intro k hk e
  rcases hsplit k hk with rfl | ⟨hlk,hkf,hjv⟩ | ⟨k1,hl1',_,_,hjv,_,_⟩
  ·rcases hvat bs e with ⟨_,h2⟩ | h2
   ·exact h.off .fibers trivial h2
   ·omega
  ·rw [hjv] at e; exact h.off k hlk e
  ·rw [hjv] at e
   have h3:=(huf.piece k1 hl1').block bs e
   omega
 have hbsk:w'.heap[bs]?=u.heap[bs]?:=hkeep bs (by omega) (h.off .fibers trivial)
 have hv:w'.heap[bs]?=some (.cells #[V .fibers,.int .i64 s.now,V .out] 26):=by rw [hbsk]; exact hu.var
 refine ⟨v',w',hrun,?_,⟨joinV V Vf n v',?_,hjoin.setOff (a:=⟨bs,0,none⟩) hoff v',hoff,h.low⟩,?_,Zb hv 0,Zi hv 0,fun x hx hne=>?_⟩
 ·obtain ⟨o,c,e,_⟩:=Zo hown'
  exact ⟨o,c,e⟩
 ·rw [Zs hv 0 v']
  rfl
 ·exact Below.grown hbu hgrow (by omega) (fun r hr=>((hu.own.piece .fibers trivial).block r hr).1)
 ·rw [hkeep x (by omega) hne]
  exact hku.block x hx
theorem addr_add (B j:Nat):((⟨B,0,none⟩:Addr).add j)=⟨B,j,none⟩:=by unfold Addr.add; split <;> simp_all
theorem Kg (base B:Nat) (u:World) (v:Value) (l:List Int) (hl:IntsW u v l) (hll:l.length≤1000) (hB:u.heap[B]?=some (.cells #[] 3)) (hb:base≤B) :
  ∃ v' u',(Builtin.append_ #[24,24] 24 #[.slice (some ⟨B,0,none⟩) 0 0,v]).run Tryz.prog u=.ok v' u'∧u'.ownsRow base 3 1 v' l.length (ints l)∧u.grownBy u' (some B)∧(∃ g,v'.ownBlock=some g∧(g=B∨g=u.heap.size)):=by
 obtain ⟨i0,hi0,hz0,hz1,hz2⟩:=info_parts infoInt
 have hBl:B < u.heap.size:=(Array.getElem?_eq_some_iff.1 hB).1
 have hrow:u.ownsRow base 3 1 (.slice (some ⟨B,0,none⟩) 0 0) 0 []:=⟨rfl,.inr ⟨B,0,#[],rfl,hb,hB,Nat.le_refl _,by decide,rfl,rfl⟩⟩
 obtain ⟨oa,cap,rfl,_,hi⟩:=hl
 by_cases h0:l.length=0
 ·obtain rfl:l=[]:=List.length_eq_zero_iff.1 h0
  refine ⟨.slice (some ⟨B,0,none⟩) 0 0,u,?_,hrow,⟨rfl,rfl,rfl,Nat.le_refl _,fun _ _ _=>rfl⟩,B,rfl,.inl rfl⟩
  cases oa with
  | none=>exact run_append_nothing u _ _ _ _ i0 Tryz.underlying24 hi0 _ 0 0 (Nat.le_refl _) _ (Src.ofNil u Tryz.underlying24 cap)
  | some a=>exact run_append_nothing u _ _ _ _ i0 Tryz.underlying24 hi0 _ 0 0 (Nat.le_refl _) _ (Src.ofSlice u Tryz.underlying24 a 0 cap [] (by simp) (by simp) (by simp))
 ·obtain ⟨b,o,rfl,_⟩:=hi 0 _ (Zm l 0 0 (by omega))
  obtain ⟨v',u',hrun,hown,hgrow,_,hat⟩:=run_append_own_at (P:=Tryz.prog) u base 24 24 3 i0 _ 1 8 Tryz.underlying24 hi0 hz0 hz1 hz2 rfl (by decide) _ 0 [] hrow ⟨b,o,none⟩ l.length cap (ints l) (by simp [Jw]) (fun j x hj=>by
    have hjl:j < l.length:=by rw [← Jw]; exact (List.getElem?_eq_some_iff.1 hj).1
    obtain ⟨b',o',e,hc⟩:=hi j _ (Zm l j 0 hjl)
    obtain ⟨rfl,rfl⟩:=(by simpa using e:b=b'∧o=o')
    have:((⟨b,o,none⟩:Addr).add j)=⟨b,o + j,none⟩:=by unfold Addr.add; split <;> simp_all
    rw [this,hc,← hj]
    exact (ints_at (Zm l j 0 hjl)).symm) (by intro x hx; obtain ⟨z,_,rfl⟩:=List.mem_map.1 hx; rfl) (by unfold maxLen; omega) (by omega) (by omega)
  refine ⟨v',u',hrun,by simpa using hown,hgrow,?_⟩
  rcases hat with e | e
  ·exact ⟨B,e,.inl rfl⟩
  ·exact ⟨_,e,.inr rfl⟩
theorem frame_joined (N0 B5:Nat) (Vf:Key→Value) (b:Fb) (u:World) (h:Own N0 u Vf (oneF b)) (hF:Vf .fibers=.slice (some ⟨B5,0,none⟩) 1 1) (f:Fr) (vl vs:Value) (gl gs:Nat) (hgl:vl.ownBlock=some gl) (hgs:vs.ownBlock=some gs) (hne:gl≠gs)
  (hoff:Own.off Vf (oneF b) gl) (hoffs:Own.off Vf (oneF b) gs) (hN:N0≤u.heap.size) (hloc:u.ownsRow N0 3 1 vl f.locals.length (ints f.locals)) (hstk:u.ownsRow N0 3 1 vs f.stack.length (ints f.stack)) (hlen:b.frames.length≤1000) :
  ∃ v' w',(Builtin.append_ #[44,44] 44 #[Vf (.frames 0),.slice (some ⟨u.heap.size,0,none⟩) 1 1]).run Tryz.prog (u.alloc (.cells #[.int .i64 f.fn,.int .i64 f.at_,vl,vs] 48))=.ok v' w' ∧
   (∃ o c,v'=.slice o (b.frames.length + 1) c)∧(∃ V',Own N0 (w'.setCell ⟨B5,0,none⟩ v') V' (oneF { b with frames:=b.frames++[f] })∧V' .fibers=.slice (some ⟨B5,0,none⟩) 1 1)∧Below N0 u w' ∧
   (∀ x,x < u.heap.size→(Vf (.frames 0)).ownBlock≠some x→w'.heap[x]?=u.heap[x]?):=by
 obtain ⟨i0,hi0,hz0,hz1,hz2⟩:=info_parts infoFrame
 obtain ⟨ol,cl,el,_⟩:=Zo hloc
 obtain ⟨os,cs,es,_⟩:=Zo hstk
 have h1l:vl.oneCell'=true:=by rw [el]; rfl
 have h1s:vs.oneCell'=true:=by rw [es]; rfl
 have hgl2:=(hloc.lt gl hgl).2
 have hgs2:=(hstk.lt gs hgs).2
 generalize hob:Obj.cells #[.int .i64 f.fn,.int .i64 f.at_,vl,vs] 48=ob
 have hlay:(u.alloc ob).heap[u.heap.size]?=some (.cells #[.int .i64 f.fn,.int .i64 f.at_,vl,vs] 48):=by rw [hob]; exact Zd rfl
 have hu:Own N0 (u.alloc ob) Vf (oneF b):=h.alloc ob
 have hku:Kept u (u.alloc ob):=(Kept.refl u).alloc _
 have hsz:(u.alloc ob).heap.size=u.heap.size + 1:=by simp
 have hloc1:(u.alloc ob).ownsRow N0 3 1 vl f.locals.length (ints f.locals):=row_stays hloc hku
 have hstk1:(u.alloc ob).ownsRow N0 3 1 vs f.stack.length (ints f.stack):=row_stays hstk hku
 generalize (u.alloc ob)=u1 at *
 have hbu:Below N0 u u1:=Below.mono hku hN
 have hl0:live (oneF b) (.frames 0):=by simp [live,oneF]
 obtain ⟨xs,hrow,_⟩:=hu.piece (.frames 0) hl0
 obtain ⟨v',w',hrun,hown',hgrow,_,hat⟩:=run_append_own_at (P:=Tryz.prog) u1 N0 44 44 48 i0 _ 4 64 Tryz.underlying44 hi0 hz0 hz1 hz2 rfl (by decide) _ _ xs hrow ⟨u.heap.size,0,none⟩ 1 1
  [.int .i64 f.fn,.int .i64 f.at_,vl,vs] rfl (fun j x hj=>by
   rw [addr_add,Zb hlay]
   simpa using hj) (by intro x hx; simp only [List.mem_cons,List.not_mem_nil,or_false] at hx; rcases hx with rfl | rfl | rfl | rfl <;> first | rfl | exact h1l | exact h1s) (by unfold maxLen; rw [oneF_fib]; omega) (by rw [oneF_fib]; omega) (by omega)
 rw [oneF_fib] at hown'
 have hadd:=hu.addFrameG (i:=0) (gF:=B5) (capF:=1) (by simp [oneF]) (by rw [hF]; rfl) f vl vs v' hgl hgs hne hoff hoffs (by omega) (by omega) (Qr hstk1 (fun x hx=>hgrow.block x (by have:=(hstk1.lt x hx).2; exact this) (fun e=>hoffs (.frames 0) hl0 (by rw [← e]; rw [hgs] at hx; rw [hx]))))
  (Qr hloc1 (fun x hx=>hgrow.block x (by have:=(hloc1.lt x hx).2; exact this) (fun e=>hoff (.frames 0) hl0 (by rw [← e]; rw [hgl] at hx; rw [hx])))) (fun x hx hnx=>hgrow.block x hx (fun e=>hnx e.symm)) (fun ys hy=>by rw [row_unique hy hrow]; exact hown') hat
 refine ⟨v',w',hrun,?_,⟨_,hadd,by rw [Zl _ _ (by simp),Zl _ _ (by simp),Zl _ _ (by simp)]; exact hF⟩,?_,fun x hx hnx=>?_⟩
 ·obtain ⟨o,c,e,_⟩:=Zo hown'
  exact ⟨o,c,e⟩
 ·exact Below.grown hbu hgrow (by omega) (fun r hr=>((hu.piece (.frames 0) hl0).block r hr).1)
 ·rw [hgrow.block x (by omega) (fun e=>hnx e.symm)]
  exact hku.block x hx
theorem takeT_two {P:Program} {md:Region.Mode} {Q:Exit→Act→World→Prop} {S:World→Prop} {T:Nat} {L tl tl':List Oper} {i k:Nat} {oi ok:Oper} {fuel:Nat} {listed:Array Bool} {a:Act} {w:World} (hd:L.drop i=oi :: tl) (hd':L.drop k=ok :: tl')
  (hr:Region.ready md L.toArray listed=[i,k])
  (h:∀ K':Act→World→Prop,Shut (∀ a w,(i≠T→S w)→AnyT P md L.toArray Q S T fuel (listed.setIfInBounds i true) a w→K' a w)→if Region.wanted oi (yielded L.toArray a.tmps)=true then Oper.wp P oi a w K' Q else K' (a.put oi.dst undef) w)
  (h':∀ K':Act→World→Prop,Shut (∀ a w,(k≠T→S w)→AnyT P md L.toArray Q S T fuel (listed.setIfInBounds k true) a w→K' a w)→if Region.wanted ok (yielded L.toArray a.tmps)=true then Oper.wp P ok a w K' Q else K' (a.put ok.dst undef) w) :
  AnyT P md L.toArray Q S T (fuel + 1) listed a w :=
 ⟨fun h0=>absurd (hr ▸ h0) (by simp),fun j hj=>by
  rw [hr] at hj
  rcases (by simpa using hj:j=i∨j=k) with rfl | rfl
  ·exact wpOp_step (at_drop hd) (fun K' hK=>h K' (fun a w hS hW=>hK a w ⟨hS,hW⟩))
  ·exact wpOp_step (at_drop hd') (fun K' hK=>h' K' (fun a w hS hW=>hK a w ⟨hS,hW⟩))⟩
theorem own_one {w:World} {B:Nat} {c:Int} (hB:w.heap[B]?=some (.cells #[.slice none 0 0,.int .i64 c] 46)):Own B w (fun k=>if k=.fibers then .slice (some ⟨B,0,none⟩) 1 1 else .slice none 0 0) (oneF ⟨[],c⟩):=by
 refine ⟨fun k hk=>?_,fun k k' g' hk hk' e e'=>?_⟩
 ·cases k using Key.by with
  | fibers =>
   refine ⟨[.slice none 0 0,.int .i64 c],⟨rfl,.inr ⟨B,1,#[.slice none 0 0,.int .i64 c],rfl,Nat.le_refl _,hB,Nat.le_refl _,by decide,rfl,rfl⟩⟩,fun i hi=>?_⟩
   obtain rfl:i=0:=by simp [oneF] at hi; exact hi
   exact ⟨rfl,rfl⟩
  | out=>exact World.ownsRow_nil _ _ _ _
  | frames t =>
   obtain rfl:t=0:=by simp [live,oneF] at hk; exact hk
   exact ⟨[],World.ownsRow_nil _ _ _ _,fun j hj=>by simp [oneF_fib] at hj⟩
  | locals t q =>
   obtain rfl:t=0:=by have:=hk.1; simp [oneF] at this; exact this
   have:=hk.2; simp [oneF_fib] at this
  | stack t q =>
   obtain rfl:t=0:=by have:=hk.1; simp [oneF] at this; exact this
   have:=hk.2; simp [oneF_fib] at this
 ·by_cases h1:k=.fibers
  ·by_cases h2:k'=.fibers
   ·rw [h1,h2]
   ·simp only [if_neg h2] at e'; cases e'
  ·simp only [if_neg h1] at e; cases e
theorem Own.base {base base':Nat} {w:World} {V:Key→Value} {s:St} (h:Own base w V s) (hb:base'≤base):Own base' w V s :=
 ⟨fun k hk=>by
  have:=h.piece k hk
  cases k using Key.by with
  | fibers=>obtain ⟨xs,r1,r2⟩:=this; exact ⟨xs,grow_base r1 hb,r2⟩
  | out=>exact grow_base this hb
  | frames i=>obtain ⟨xs,r1,r2⟩:=this; exact ⟨xs,grow_base r1 hb,r2⟩
  | locals i j=>exact grow_base this hb
  | stack i j=>exact grow_base this hb,h.apart⟩
end Go.Proofs.YtblihfpigjiahaaGreatDoor
