/- StepP, OwnF, OwnG, OwnH -/
import Derived.Test.YtblihfpigjiahaaDoorWB34
import Derived.Test.YtblihfpigjiahaaDoorWB35
import Derived.Test.YtblihfpigjiahaaDoorWB36
import Derived.Test.YtblihfpigjiahaaDoorWB22
import Derived.Test.YtblihfpigjiahaaDoorWB25
import Derived.Deep.Upon
set_option maxRecDepth 100000
set_option maxHeartbeats 8000000
namespace Go.Proofs.YtblihfpigjiahaaDoor
open Go.RowKit
theorem Zsi (base bs:Nat) (V:Key→Value) (p:List Fn) (s:St) (vp:Value) (w W0:World) (h:Zi base w bs V s) (hp:Zw W0 vp p) (hk:Zb W0 w) (hb:W0.heap.size≤base) (hok:OkS p s) :
  Calls Tryd.prog 89 #[vp,.pointer (some ⟨bs,0,none⟩)] w fun e w'=>Jj base bs (Xj p s) w e w':=by
 obtain ⟨⟨h0,hi,h5,h30⟩,hall,hfr,hcal,⟨hl1,hl2⟩,hloc,⟨g1,g2,g3,g4,g5⟩,hneed⟩:=hok
 obtain ⟨i,hn⟩:∃ i:Nat,s.now=i:=⟨s.now.toNat,by omega⟩
 rw [hn,Int.toNat_natCast] at hi hfr
 have htop:=Zfn hn
 rw [htop] at g1 g2 g3 g4 g5 hneed
 have hj:(Zc s i).frames.length - 1<(Zc s i).frames.length:=by omega
 have hfrs:∀ k,k<s.fibers.length→(Zc s k).frames.length≤6:=fun k hk=>(hall _ (Zfe k hk)).1.1
 have hstk:∀ k j,k<s.fibers.length→j<(Zc s k).frames.length→(Ze s k j).locals.length≤1000∧(Ze s k j).stack.length≤1000:=fun k j hk hj=>(hall _ (Zfe k hk)).2 _ (fr_mem k j hj)
 have hruns:∀ k,k<s.fibers.length→0<(Zc s k).frames.length→Qa s k:=fun k hk hf=>⟨hk,hf,by have:=hfrs k hk;omega,(hstk k _ hk (by omega)).2⟩
 have hr:Qa s i:=hruns i hi hfr
 obtain ⟨fi,hfn⟩:∃ fi:Nat,(Ze s i ((Zc s i).frames.length - 1)).fn=fi:=⟨(Ze s i ((Zc s i).frames.length - 1)).fn.toNat,by omega⟩
 obtain ⟨ai,hat⟩:∃ ai:Nat,(Ze s i ((Zc s i).frames.length - 1)).at_=ai:=⟨(Ze s i ((Zc s i).frames.length - 1)).at_.toNat,by omega⟩
 rw [hfn,Int.toNat_natCast] at g2 g4 g5
 rw [hat,Int.toNat_natCast] at g4
 obtain ⟨oa,cp,rfl,hpl,hcell⟩:=hp
 obtain ⟨bp,op,cv,rfl,c0,c1,c2,hcode⟩:=hcell fi _ (Zq p fi Fn.zero g2)
 have hcd:(p.getD fi Fn.zero).code=Zx p fi:=rfl
 rw [hcd] at hcode
 obtain ⟨oc,cc,rfl,_,hci⟩:=hcode
 obtain ⟨cb,co,rfl,x1,x2⟩:=hci ai _ (Zq (Zx p fi) ai (0,0) g4)
 have hx:(Zx p fi).getD ai (0,0)=Jz p (Ze s i ((Zc s i).frames.length - 1)):=by unfold Jz;rw [hfn,hat,Int.toNat_natCast,Int.toNat_natCast]
 rw [hx] at x1 x2
 generalize hxx:Jz p (Ze s i ((Zc s i).frames.length - 1))=x at x1 x2 hx
 obtain ⟨kd,a⟩:=x
 unfold Zhy at hneed
 rw [hxx] at hneed
 simp only at x1 x2 hneed
 obtain ⟨hst,hlo,hca,hma⟩:=hneed
 have keep:∀ {q:Addr} {v:Value},W0.cell? q=some v→∀ u,Below base w u→u.cell? q=some v:=fun hq u hu=>(Below.cell hu (Nat.lt_of_lt_of_le (Xo hq) hb)).trans (hk.cell hq)
 have hd:DoAt base w s i bp op p.length fi ai cb co (Zx p fi).length cc kd a:=⟨hn,hr,hfn,hat,g2,g4,g5,fun u hu=>⟨keep c2 u hu,keep x1 u hu,keep x2 u hu⟩⟩
 rw [Zok hn hfn hat hx]
 have hcc:∀ c:Int,(Zc s i).caller=c→0≤c→∃ k:Nat,c=k∧k≠i∧Qa s k:=fun c hc hc0=>by
  rw [hn,Int.toNat_natCast,hc] at hcal
  obtain ⟨h1,h2⟩:=hcal hc0
  obtain ⟨k,rfl⟩:∃ k:Nat,c=k:=⟨c.toNat,by omega⟩
  rw [Int.toNat_natCast] at h2
  have h3:=(hall _ (Zfe i hi)).1.2.2
  rw [hc] at h3
  exact ⟨k,rfl,by omega,hruns k (by omega) h2⟩
 have hfits:Ph s:=⟨by omega,h30,fun k hk=>by have:=hfrs k hk;omega,fun k j hk hj=>(hstk k j hk hj).1,fun k j hk hj=>(hstk k j hk hj).2⟩
 by_cases k0:kd=0
 ·subst k0;rw [if_pos rfl];exact Zoo base bs V s i cp bp op _ fi ai cb co _ cc a w h hd
 rw [if_neg k0]
 by_cases k1:kd=1
 ·subst k1;rw [if_pos rfl];exact Zrj base bs V s i cp bp op _ fi ai cb co _ cc a w h hd (Nat.lt_of_lt_of_le (by decide) hst)
 rw [if_neg k1]
 by_cases k2:kd=2
 ·subst k2
  rw [if_pos rfl]
  obtain ⟨l1,l2⟩:=hlo (.inl rfl)
  exact Xav base bs V s i cp bp op _ fi ai cb co _ cc a w h hd a.toNat (by omega) l2
 rw [if_neg k2]
 by_cases k3:kd=3
 ·subst k3
  rw [if_pos rfl]
  obtain ⟨l1,l2⟩:=hlo (.inr rfl)
  exact Xbe base bs V s i cp bp op _ fi ai cb co _ cc a w h hd (Nat.lt_of_lt_of_le (by decide) hst) a.toNat (by omega) l2
 rw [if_neg k3]
 by_cases k9:kd=9
 ·subst k9;rw [if_pos rfl];exact Zop base bs V s i cp bp op _ fi ai cb co _ cc a w h hd
 rw [if_neg k9]
 by_cases k10:kd=10
 ·subst k10;rw [if_pos rfl];exact Zsy base bs V s i cp bp op _ fi ai cb co _ cc a w h hd (Nat.lt_of_lt_of_le (by decide) hst)
 rw [if_neg k10]
 by_cases k11:kd=11
 ·subst k11
  rw [if_pos rfl]
  obtain ⟨l1,l2,l3,l4,l5,l6⟩:=hca rfl
  obtain ⟨f2,rfl⟩:∃ f2:Nat,a=f2:=⟨a.toNat,by omega⟩
  rw [Int.toNat_natCast] at l2 l3 l4 l5 l6
  obtain ⟨a2,ha2⟩:∃ a2:Nat,(p.getD f2 Fn.zero).args=a2:=⟨(p.getD f2 Fn.zero).args.toNat,by omega⟩
  obtain ⟨lo2,hlo2⟩:∃ lo2:Nat,(p.getD f2 Fn.zero).locals=lo2:=⟨(p.getD f2 Fn.zero).locals.toNat,by omega⟩
  obtain ⟨b',o',cv',e',d0,d1,_,_⟩:=hcell f2 _ (Zq p f2 Fn.zero l2)
  obtain ⟨rfl,rfl⟩:=(by simpa using e':bp=b'∧op=o')
  rw [ha2] at d0 l3 l4 l6
  rw [hlo2] at d1 l4 l5
  exact Zof base bs V s i cp bp op _ fi ai cb co _ cc _ w h hd p f2 a2 lo2 rfl (fun u hu=>⟨keep d0 u hu,keep d1 u hu⟩) l2 (by omega) (by omega) (by omega) (hfrs i hi) ha2 hlo2
 rw [if_neg k11]
 by_cases k12:kd=12
 ·subst k12
  rw [if_pos rfl]
  exact Zwk base bs V s i cp bp op _ fi ai cb co _ cc a w h hd (Nat.lt_of_lt_of_le (by decide) hst) h30 (fun h1=>(hstk i _ hi (by omega)).2) hcc
 rw [if_neg k12]
 by_cases k13:kd=13
 ·subst k13
  rw [if_pos rfl]
  obtain ⟨l1,l2,l3,l4⟩:=hma rfl
  obtain ⟨f2,rfl⟩:∃ f2:Nat,a=f2:=⟨a.toNat,by omega⟩
  rw [Int.toNat_natCast] at l2 l3 l4
  obtain ⟨lo2,hlo2⟩:∃ lo2:Nat,(p.getD f2 Fn.zero).locals=lo2:=⟨(p.getD f2 Fn.zero).locals.toNat,by omega⟩
  obtain ⟨b',o',cv',e',d0,d1,_,_⟩:=hcell f2 _ (Zq p f2 Fn.zero l2)
  obtain ⟨rfl,rfl⟩:=(by simpa using e':bp=b'∧op=o')
  rw [hlo2] at d1 l4
  exact Zwh base bs V s i cp bp op _ fi ai cb co _ cc _ w h hd p f2 lo2 rfl (fun u hu=>keep d1 u hu) l2 (by omega) h5 hlo2
 rw [if_neg k13]
 by_cases k14:kd=14
 ·subst k14
  rw [if_pos rfl]
  obtain ⟨l,hl⟩:=Option.isSome_iff_exists.1 hl1
  rw [hl] at hl2 hloc
  rw [hn] at hl2
  exact Zrq base bs V s i cp bp op _ fi ai cb co _ cc a w h hd (Nat.lt_of_lt_of_le (by decide) hst) l hfits (fun b hb'=>(hall b hb').1.2) hl hl2 hloc
 rw [if_neg k14]
 by_cases k15:kd=15
 ·subst k15
  rw [if_pos rfl]
  exact Zwq base bs V s i cp bp op _ fi ai cb co _ cc a w h hd (Nat.lt_of_lt_of_le (by decide) hst) hcc
 rw [if_neg k15]
 by_cases k16:kd=16
 ·subst k16
  rw [if_pos rfl]
  exact Zws base bs V s i cp bp op _ fi ai cb co _ cc a w h hd (Nat.lt_of_lt_of_le (by decide) hst) h30
 rw [if_neg k16]
 exact Zwl base bs V s i cp bp op _ fi ai cb co _ cc kd a w h hd k0 k1 k2 k3 k9 k10 k11 k12 k13 k14 k15 k16 (by
  have:Zgb kd=2:=by unfold Zgb;rw [if_neg (by omega),if_neg (by omega)]
  omega)
theorem Own.addFrameG {base:Nat} {w w1:World} {V:Key→Value} {s:St} (h:Own base w V s) {i gF capF:Nat} (hi:i<s.fibers.length)
  (hF:V .fibers=.slice (some ⟨gF,0,none⟩) s.fibers.length capF) (f:Fr) (vl vs vf:Value) {gl gs:Nat} (hgl:vl.ownBlock=some gl) (hgs:vs.ownBlock=some gs) (hlgs:gl≠gs) (hoff:Own.off V s gl) (hoffs:Own.off V s gs) (hlt:gl<w.heap.size) (hlts:gs<w.heap.size)
  (hstk:w1.ownsRow base 3 1 vs f.stack.length (ints f.stack))
  (hloc:w1.ownsRow base 3 1 vl f.locals.length (ints f.locals))
  (hgrow:∀ b,b<w.heap.size→(V (.frames i)).ownBlock≠some b→w1.heap[b]?=w.heap[b]?)
  (hown:∀ xs,w.ownsRow base 53 4 (V (.frames i)) (Zc s i).frames.length xs→w1.ownsRow base 53 4 vf ((Zc s i).frames.length+1) (xs++[.int .i64 f.fn,.int .i64 f.at_,vl,vs]))
  (hat:vf.ownBlock=(V (.frames i)).ownBlock∨vf.ownBlock=some w.heap.size) :
  Own base (w1.setCell ⟨gF,i*2,none⟩ vf) (upd (upd (upd V (.frames i) vf) (.locals i (Zc s i).frames.length) vl) (.stack i (Zc s i).frames.length) vs) (Zh s i { Zc s i with frames:=(Zc s i).frames++[f] }):=by
 generalize hn:(Zc s i).frames.length=n at *
 have hFb:(V .fibers).ownBlock=some gF:=by rw [hF];rfl
 have hlvF:live s (.frames i):=hi
 have hlen:=Xf s i { Zc s i with frames:=(Zc s i).frames++[f] }
 have hfrn:(V (.frames i)).ownBlock≠some gF:=fun e=>by have:=h.apart _ .fibers _ hlvF trivial e hFb;cases this
 have hgFw:gF<w.heap.size:=((h.piece .fibers trivial).block gF hFb).2
 have hvfF:vf.ownBlock≠some gF:=by
  rcases hat with e | e
  ·rw [e];exact hfrn
  ·rw [e];intro e';cases e';omega
 have hvlF:vl.ownBlock≠some gF:=by
  rw [hgl];intro e';cases e';exact hoff .fibers trivial hFb
 have hvsF:vs.ownBlock≠some gF:=by
  rw [hgs];intro e';cases e';exact hoffs .fibers trivial hFb
 have hfs:Zc (Zh s i { Zc s i with frames:=(Zc s i).frames++[f] }) i={ Zc s i with frames:=(Zc s i).frames++[f] }:=Qg _ hi
 have hfn:∀ t,i≠t→Zc (Zh s i { Zc s i with frames:=(Zc s i).frames++[f] }) t=Zc s t:=fun t e=>Jb _ e
 have hold:∀ t q,(i=t→q<n)→Ze (Zh s i { Zc s i with frames:=(Zc s i).frames++[f] }) t q=Ze s t q:=fun t q hq=>by
  unfold Ze
  by_cases e:i=t
  ·subst e;rw [hfs];exact Zef _ _ _ _ (by rw [hn];exact hq rfl)
  ·rw [hfn t e]
 have hnew:Ze (Zh s i { Zc s i with frames:=(Zc s i).frames++[f] }) i n=f:=by
  unfold Ze;rw [hfs,← hn];exact Zed _ _ _
 have hlv:∀ k,live (Zh s i { Zc s i with frames:=(Zc s i).frames++[f] }) k→k=.locals i n∨k=.stack i n∨(live s k∧∀ t q,(k=.locals t q∨k=.stack t q)→i=t→q<n):=by
  intro k hk
  cases k using Key.by with
  | fibers=>exact .inr (.inr ⟨trivial,fun t q h=>by simp at h⟩)
  | out=>exact .inr (.inr ⟨trivial,fun t q h=>by simp at h⟩)
  | frames t=>exact .inr (.inr ⟨by simpa only [live,hlen] using hk,fun t q h=>by simp at h⟩)
  | locals t q =>
   simp only [live,hlen] at hk
   by_cases e:i=t
   ·subst e
    rw [hfs] at hk
    simp only [List.length_append,List.length_cons,List.length_nil,hn] at hk
    by_cases e:q=n
    ·left;rw [e]
    ·exact .inr (.inr ⟨⟨hi,by omega⟩,fun t' q' h _=>by simp at h;omega⟩)
   ·rw [hfn t e] at hk
    exact .inr (.inr ⟨hk,fun t' q' h e'=>by simp at h;omega⟩)
  | stack t q =>
   simp only [live,hlen] at hk
   by_cases e:i=t
   ·subst e
    rw [hfs] at hk
    simp only [List.length_append,List.length_cons,List.length_nil,hn] at hk
    by_cases e:q=n
    ·right;left;rw [e]
    ·exact .inr (.inr ⟨⟨hi,by omega⟩,fun t' q' h _=>by simp at h;omega⟩)
   ·rw [hfn t e] at hk
    exact .inr (.inr ⟨hk,fun t' q' h e'=>by simp at h;omega⟩)
 have hdead1:¬ live s (.locals i n):=fun hh=>by have:=hh.2;omega
 have hdead2:¬ live s (.stack i n):=fun hh=>by have:=hh.2;omega
 have hVold:∀ k,live s k→k≠.frames i→upd (upd (upd V (.frames i) vf) (.locals i n) vl) (.stack i n) vs k=V k:=fun k hk e=>by
  rw [Zp _ _ (fun (e:k=.stack i n)=>hdead2 (e ▸ hk)),Zp _ _ (fun (e:k=.locals i n)=>hdead1 (e ▸ hk)),Zp _ _ e]
 have hVf:upd (upd (upd V (.frames i) vf) (.locals i n) vl) (.stack i n) vs (.frames i)=vf:=by
  rw [Zp _ _ (by simp),Zp _ _ (by simp),Qk]
 have hVl:upd (upd (upd V (.frames i) vf) (.locals i n) vl) (.stack i n) vs (.locals i n)=vl:=by
  rw [Zp _ _ (by simp),Qk]
 have hVs:upd (upd (upd V (.frames i) vf) (.locals i n) vl) (.stack i n) vs (.stack i n)=vs:=Qk _ _ _
 generalize upd (upd (upd V (.frames i) vf) (.locals i n) vl) (.stack i n) vs=V' at *
 refine h.turned (fun k hk=>?_) (fun k b hk e=>?_) (fun k k' b hk hk' ho e e'=>?_)
 ·rcases hlv k hk with rfl | rfl | ⟨hlk,hq⟩
  ·left
   show World.ownsRow _ _ _ _ _ _ _
   rw [hVl,hnew]
   exact ownsRow_setCell_other hloc hvlF _
  ·left
   show World.ownsRow _ _ _ _ _ _ _
   rw [hVs,hnew]
   exact ownsRow_setCell_other hstk hvsF _
  ·by_cases hkF:k=.fibers
   ·subst hkF
    left
    obtain ⟨xs,h1,h2⟩:=h.piece .fibers trivial
    rw [hF] at h1
    have h1':w1.ownsRow base 46 2 (.slice (some ⟨gF,0,none⟩) s.fibers.length capF) s.fibers.length xs:=Jl h1 (fun b e=>by cases e;exact hgrow gF hgFw hfrn)
    refine ⟨xs.set (i*2) vf,?_,fun t ht=>?_⟩
    ·rw [hVold .fibers trivial (by simp),hF,hlen];exact (h1'.stored _ _).1
    ·rw [hlen] at ht
     obtain ⟨h3,h4⟩:=h2 t ht
     have hx:i*2<xs.length:=by rw [h1.1];omega
     by_cases e:i=t
     ·subst e
      refine ⟨by rw [List.getElem?_set,if_pos rfl,if_pos hx,hVf],?_⟩
      rw [List.getElem?_set,if_neg (by omega),hfs]
      exact h4
     ·refine ⟨by rw [List.getElem?_set,if_neg (by omega),hVold (.frames t) ht (by simp;exact fun h=>e h.symm)];exact h3,?_⟩
      rw [List.getElem?_set,if_neg (by omega),hfn t e]
      exact h4
   ·by_cases hkf:k=.frames i
    ·subst hkf
     left
     obtain ⟨xs,h1,h2⟩:=h.piece _ hlvF
     rw [hn] at h1 h2
     have h1':=hown xs h1
     refine ⟨_,by rw [hVf,hfs];simp only [List.length_append,List.length_cons,List.length_nil,hn];exact ownsRow_setCell_other h1' hvfF _,fun t ht=>?_⟩
     rw [hfs] at ht
     simp only [List.length_append,List.length_cons,List.length_nil,hn] at ht
     have hxl:xs.length=n*4:=h1.1
     by_cases e:t=n
     ·subst e
      rw [hnew,hVl,hVs]
      refine ⟨?_,?_,?_,?_⟩ <;> rw [List.getElem?_append_right (by omega),hxl]
      ·rw [show t*4 - t*4=0 by omega];rfl
      ·rw [show t*4+1 - t*4=1 by omega];rfl
      ·rw [show t*4+2 - t*4=2 by omega];rfl
      ·rw [show t*4+3 - t*4=3 by omega];rfl
     ·have htn:t<n:=by omega
      obtain ⟨q0,q1,q2,q3⟩:=h2 t htn
      rw [hold i t (fun _=>htn),hVold (.locals i t) ⟨hi,by omega⟩ (by simp),hVold (.stack i t) ⟨hi,by omega⟩ (by simp)]
      refine ⟨?_,?_,?_,?_⟩ <;> rw [List.getElem?_append_left (by omega)] <;> assumption
    ·right
     refine ⟨hlk,hVold k hlk hkf,fun hp=>?_,fun b e=>?_⟩
     ·cases k using Key.by with
      | fibers=>exact absurd rfl hkF
      | out=>simp only [Xs] at hp ⊢;rw [hVold .out trivial (by simp)];exact hp
      | frames t =>
       have hne:i≠t:=fun e=>hkf (by rw [e])
       obtain ⟨xs,r1,r2⟩:=hp
       refine ⟨xs,by rw [hfn t hne,hVold _ hlk hkf];exact r1,fun q hq'=>?_⟩
       rw [hfn t hne] at hq'
       rw [hold t q (fun e=>absurd e hne),hVold (.locals t q) ⟨hlk,hq'⟩ (by simp),hVold (.stack t q) ⟨hlk,hq'⟩ (by simp)]
       exact r2 q hq'
      | locals t q=>simp only [Xs] at hp ⊢;rw [hVold _ hlk (by simp),hold t q (hq t q (.inl rfl))];exact hp
      | stack t q=>simp only [Xs] at hp ⊢;rw [hVold _ hlk (by simp),hold t q (hq t q (.inr rfl))];exact hp
     ·rw [Below.heap_setCell w1 _ _ b (fun e'=>hkF (h.apart k _ b hlk trivial e (by rw [hFb,e'])))]
      exact hgrow b ((h.piece k hlk).block b e).2 (fun e'=>hkf (h.apart k _ b hlk hlvF e e'))
 ·rcases hlv k hk with rfl | rfl | ⟨hlk,hq⟩
  ·right
   rw [hVl,hgl] at e
   cases e;exact hoff
  ·right
   rw [hVs,hgs] at e
   cases e;exact hoffs
  ·by_cases hkf:k=.frames i
   ·subst hkf
    rw [hVf] at e
    rcases hat with e' | e'
    ·exact .inl ⟨hlk,by rw [← e',e]⟩
    ·rw [e] at e';cases e'
     exact .inr (h.new_off (.inl (Nat.le_refl _)))
   ·rw [hVold k hlk hkf] at e
    exact .inl ⟨hlk,e⟩
 ·have hwhich:∀ k,live (Zh s i { Zc s i with frames:=(Zc s i).frames++[f] }) k→(V' k).ownBlock=some b→(k=.locals i n∧b=gl)∨(k=.stack i n∧b=gs)∨(k=.frames i∧b=w.heap.size):=by
   intro k hk e
   rcases hlv k hk with rfl | rfl | ⟨hlk,hq⟩
   ·left
    rw [hVl,hgl] at e
    cases e;exact ⟨rfl,rfl⟩
   ·right;left
    rw [hVs,hgs] at e
    cases e;exact ⟨rfl,rfl⟩
   ·by_cases hkf:k=.frames i
    ·subst hkf
     right;right
     rw [hVf] at e
     rcases hat with e' | e'
     ·exact absurd (by rw [← e',e]) (ho (.frames i) hlk)
     ·rw [e] at e';cases e';exact ⟨rfl,rfl⟩
    ·rw [hVold k hlk hkf] at e
     exact absurd e (ho k hlk)
  rcases hwhich k hk e with ⟨h1,h2⟩ | ⟨h1,h2⟩ | ⟨h1,h2⟩ <;> rcases hwhich k' hk' e' with ⟨h3,h4⟩ | ⟨h3,h4⟩ | ⟨h3,h4⟩ <;> first | exact h1.trans h3.symm | (exfalso;omega)
theorem Zay {w:World} {base base':Nat} {e:TypeId} {size n:Nat} {v:Value} {xs:List Value} (h:w.ownsRow base e size v n xs) (hb:base'≤base):w.ownsRow base' e size v n xs:=by
 refine ⟨h.1,?_⟩
 rcases h.2 with hn | ⟨g,cap,cur,rfl,hb',rest⟩
 ·exact .inl hn
 ·exact .inr ⟨g,cap,cur,rfl,by omega,rest⟩
def Qq (b:Fb):St:=⟨[b],0,[]⟩
theorem Zas (b:Fb):Zc (Qq b) 0=b:=rfl
def Wi (V Vf:Key→Value) (n:Nat) (v':Value):Key→Value
 | none=>v'
 | some none=>V .out
 | some (some (.inl t))=>if t=n then Vf (.frames 0) else V (.frames t)
 | some (some (.inr (.inl (t,j))))=>if t=n then Vf (.locals 0 j) else V (.locals t j)
 | some (some (.inr (.inr (t,j))))=>if t=n then Vf (.stack 0 j) else V (.stack t j)
theorem Zpo (base bs:Nat) (V:Key→Value) (s:St) (w:World) (h:Zi base w bs V s) (N0:Nat) (hV:∀ k g,live s k→(V k).ownBlock=some g→g<N0) (hbs:bs<N0) (hN:N0≤w.heap.size) (Vf:Key→Value) (b:Fb) (hf:Own N0 w Vf (Qq b)) (hfr:s.fibers.length≤1000) :
  ∃ v' w',(Builtin.append_ #[23,23] 23 #[V .fibers,.slice (some ⟨w.heap.size,0,none⟩) 1 1]).run Tryd.prog (w.alloc (.cells #[Vf (.frames 0),.int .i64 b.caller] 46))=.ok v' w' ∧
   (∃ o c,v'=.slice o (s.fibers.length+1) c)∧(∃ V',Zi base (w'.setCell ⟨bs,0,none⟩ v') bs V' { s with fibers:=s.fibers++[b] })∧Below base w w'∧w'.cell? ⟨bs,0,none⟩=some (V .fibers)∧w'.frozen? ⟨bs,0,none⟩=false ∧
   (∀ x,x<w.heap.size→(V .fibers).ownBlock≠some x→w'.heap[x]?=w.heap[x]?):=by
 obtain ⟨i0,hi0,hz0,hz1,hz2⟩:=info_parts Znx
 have hbase:base≤N0:=by have:=h.low;omega
 generalize hob:Obj.cells #[Vf (.frames 0),.int .i64 b.caller] 46=ob
 have lB:(w.alloc ob).heap[w.heap.size]?=some (.cells #[Vf (.frames 0),.int .i64 b.caller] 46):=by rw [hob];exact Zg rfl
 have hu:Zi base (w.alloc ob) bs V s:=h.alloc ob
 have huf:Own N0 (w.alloc ob) Vf (Qq b):=hf.alloc ob
 have hku:Zb w (w.alloc ob):=(Zb.refl w).alloc _
 have hsz:(w.alloc ob).heap.size=w.heap.size+1:=by simp
 generalize w.alloc ob=u at *
 have hbu:Below base w u:=Below.mono hku (by omega)
 obtain ⟨xs,hrow,hent⟩:=hu.own.piece .fibers trivial
 have hone:(Vf (.frames 0)).oneCell'=true:=by
  obtain ⟨ys,hy,_⟩:=huf.piece (.frames 0) (by simp [live,Qq])
  obtain ⟨o,c,e,_⟩:=Xq hy
  rw [e];rfl
 obtain ⟨v',w',hrun,hown',hgrow,_,hat⟩:=run_append_own_at (P:=Tryd.prog) u base 23 23 46 i0 _ 2 32 Tryd.underlying23 hi0 hz0 hz1 hz2 rfl (by decide) _ _ xs hrow ⟨w.heap.size,0,none⟩ 1 1
  [Vf (.frames 0),.int .i64 b.caller] rfl (fun j x hj=>by
   have:((⟨w.heap.size,0,none⟩:Addr).add j)=⟨w.heap.size,j,none⟩:=by unfold Addr.add;split <;> simp_all
   rw [this,Zd lB]
   simpa using hj) (by intro x hx;simp only [List.mem_cons,List.not_mem_nil,or_false] at hx;rcases hx with rfl | rfl <;> first | exact hone | rfl) (by unfold maxLen;omega) (by omega) (by omega)
 have hkeep:∀ x,x<u.heap.size→(V .fibers).ownBlock≠some x→w'.heap[x]?=u.heap[x]?:=fun x hx hne=>hgrow.block x hx (fun e=>hne e.symm)
 have hnew:∀ x,N0≤x→(V .fibers).ownBlock≠some x:=fun x hx e=>by have:=hV .fibers x trivial e;omega
 have hvat:∀ x,v'.ownBlock=some x→x<N0∧(V .fibers).ownBlock=some x∨x=u.heap.size:=fun x hx=>by
  rcases hat with e | e
  ·rw [hx] at e;exact .inl ⟨hV .fibers x trivial e.symm,e.symm⟩
  ·rw [hx] at e;exact .inr (Option.some.inj e)
 generalize hn:s.fibers.length=n at *
 have hfo:∀ t,t<n→Zc { s with fibers:=s.fibers++[b] } t=Zc s t:=fun t ht=>Zef _ _ _ _ (by rw [hn];exact ht)
 have hfn:Zc { s with fibers:=s.fibers++[b] } n=b:=by rw [← hn];exact Zed _ _ _
 have hfro:∀ t q,t<n→Ze { s with fibers:=s.fibers++[b] } t q=Ze s t q:=fun t q ht=>by unfold Ze;rw [hfo t ht]
 have hfrn:∀ q,Ze { s with fibers:=s.fibers++[b] } n q=Ze (Qq b) 0 q:=fun q=>by unfold Ze;rw [hfn];rfl
 have hl1:({ s with fibers:=s.fibers++[b] }:St).fibers.length=n+1:=by simp [hn]
 -- which key is which
 have hsplit:∀ k,live { s with fibers:=s.fibers++[b] } k→k=.fibers∨(live s k∧k≠.fibers∧Wi V Vf n v' k=V k)∨(∃ k',live (Qq b) k'∧k'≠.fibers∧k'≠.out∧Wi V Vf n v' k=Vf k'∧(∀ k2 k2',live { s with fibers:=s.fibers++[b] } k2→Wi V Vf n v' k2=Vf k2'→True)∧((k'=.frames 0∧k=.frames n)∨(∃ q,k'=.locals 0 q∧k=.locals n q)∨(∃ q,k'=.stack 0 q∧k=.stack n q))):=by
  intro k hk
  cases k using Key.by with
  | fibers=>exact .inl rfl
  | out=>exact .inr (.inl ⟨trivial,by simp,rfl⟩)
  | frames t =>
   simp only [live,hl1] at hk
   by_cases e:t=n
   ·subst e
    exact .inr (.inr ⟨.frames 0,by simp [live,Qq],by simp,by simp,by simp [Wi],fun _ _ _ _=>trivial,.inl ⟨rfl,rfl⟩⟩)
   ·exact .inr (.inl ⟨by simp only [live,hn];omega,by simp,by simp [Wi,e]⟩)
  | locals t q =>
   simp only [live,hl1] at hk
   by_cases e:t=n
   ·subst e
    rw [hfn] at hk
    exact .inr (.inr ⟨.locals 0 q,⟨by simp [Qq],hk.2⟩,by simp,by simp,by simp [Wi],fun _ _ _ _=>trivial,.inr (.inl ⟨q,rfl,rfl⟩)⟩)
   ·rw [hfo t (by omega)] at hk
    exact .inr (.inl ⟨⟨by omega,hk.2⟩,by simp,by simp [Wi,e]⟩)
  | stack t q =>
   simp only [live,hl1] at hk
   by_cases e:t=n
   ·subst e
    rw [hfn] at hk
    exact .inr (.inr ⟨.stack 0 q,⟨by simp [Qq],hk.2⟩,by simp,by simp,by simp [Wi],fun _ _ _ _=>trivial,.inr (.inr ⟨q,rfl,rfl⟩)⟩)
   ·rw [hfo t (by omega)] at hk
    exact .inr (.inl ⟨⟨by omega,hk.2⟩,by simp,by simp [Wi,e]⟩)
 have hjoin:Own base w' (Wi V Vf n v') { s with fibers:=s.fibers++[b] }:=by
  refine ⟨fun k hk=>?_,fun k k' g hk hk' e e'=>?_⟩
  ·rcases hsplit k hk with rfl | ⟨hlk,hkf,hjv⟩ | ⟨k',hl',hkf',hko',hjv,_,hwhich⟩
   ·refine ⟨xs++[Vf (.frames 0),.int .i64 b.caller],by rw [hl1];exact hown',fun t ht=>?_⟩
    rw [hl1] at ht
    have hxl:xs.length=n*2:=hrow.1
    by_cases e:t=n
    ·subst e
     rw [hfn]
     refine ⟨?_,?_⟩ <;> rw [List.getElem?_append_right (by omega),hxl]
     ·rw [show t*2 - t*2=0 by omega];simp [Wi]
     ·rw [show t*2+1 - t*2=1 by omega];rfl
    ·obtain ⟨q0,q1⟩:=hent t (by omega)
     rw [hfo t (by omega)]
     refine ⟨?_,?_⟩ <;> rw [List.getElem?_append_left (by omega)]
     ·rw [q0];simp [Wi,e]
     ·exact q1
   ·have hp:=(hu.own.piece k hlk).same (w':=w') (fun g hg=>hkeep g ((hu.own.piece k hlk).block g hg).2 (fun e=>hkf (hu.own.apart k .fibers g hlk trivial hg e)))
    cases k using Key.by with
    | fibers=>exact absurd rfl hkf
    | out=>exact hp
    | frames t =>
     obtain ⟨ys,r1,r2⟩:=hp
     have ht:t<n:=by simp only [live,hn] at hlk;exact hlk
     refine ⟨ys,by rw [hjv,hfo t ht];exact r1,fun q hq=>?_⟩
     rw [hfo t ht] at hq
     rw [hfro t q ht]
     have:=r2 q hq
     simpa [Wi,show t≠n by omega] using this
    | locals t q =>
     have ht:t<n:=by have:=hlk.1;rw [hn] at this;exact this
     simp only [Xs] at hp ⊢;rw [hjv,hfro t q ht];exact hp
    | stack t q =>
     have ht:t<n:=by have:=hlk.1;rw [hn] at this;exact this
     simp only [Xs] at hp ⊢;rw [hjv,hfro t q ht];exact hp
   ·have hp:=(huf.piece k' hl').same (w':=w') (fun g hg=>hkeep g ((huf.piece k' hl').block g hg).2 (hnew g ((huf.piece k' hl').block g hg).1))
    rcases hwhich with ⟨rfl,rfl⟩ | ⟨q,rfl,rfl⟩ | ⟨q,rfl,rfl⟩
    ·obtain ⟨ys,r1,r2⟩:=hp
     refine ⟨ys,by rw [hjv,hfn];exact Zay r1 hbase,fun q hq=>?_⟩
     rw [hfn] at hq
     rw [hfrn q]
     have:=r2 q hq
     simpa [Wi] using this
    ·simp only [Xs] at hp ⊢;rw [hjv,hfrn q];exact Zay hp hbase
    ·simp only [Xs] at hp ⊢;rw [hjv,hfrn q];exact Zay hp hbase
  ·rcases hsplit k hk with rfl | ⟨hlk,hkf,hjv⟩ | ⟨k1,hl1',hkf1,hko1,hjv,_,hw1⟩ <;> rcases hsplit k' hk' with rfl | ⟨hlk',hkf',hjv'⟩ | ⟨k2,hl2',hkf2,hko2,hjv',_,hw2⟩
   ·rfl
   ·rw [hjv'] at e'
    rcases hvat g e with ⟨_,h2⟩ | h2
    ·exact absurd (hu.own.apart k' .fibers g hlk' trivial e' h2) hkf'
    ·have:=((hu.own.piece k' hlk').block g e').2;omega
   ·rw [hjv'] at e'
    have h3:=(huf.piece k2 hl2').block g e'
    rcases hvat g e with ⟨h2,_⟩ | h2 <;> omega
   ·rw [hjv] at e
    rcases hvat g e' with ⟨_,h2⟩ | h2
    ·exact absurd (hu.own.apart k .fibers g hlk trivial e h2) hkf
    ·have:=((hu.own.piece k hlk).block g e).2;omega
   ·rw [hjv] at e
    rw [hjv'] at e'
    exact hu.own.apart k k' g hlk hlk' e e'
   ·rw [hjv] at e
    rw [hjv'] at e'
    have h3:=(huf.piece k2 hl2').block g e'
    have h4:=hV k g hlk e
    omega
   ·rw [hjv] at e
    have h3:=(huf.piece k1 hl1').block g e
    rcases hvat g e' with ⟨h2,_⟩ | h2 <;> omega
   ·rw [hjv] at e
    rw [hjv'] at e'
    have h3:=(huf.piece k1 hl1').block g e
    have h4:=hV k' g hlk' e'
    omega
   ·rw [hjv] at e
    rw [hjv'] at e'
    have h5:=huf.apart k1 k2 g hl1' hl2' e e'
    subst h5
    rcases hw1 with ⟨a1,a2⟩ | ⟨q,a1,a2⟩ | ⟨q,a1,a2⟩ <;> rcases hw2 with ⟨c1,c2⟩ | ⟨q',c1,c2⟩ | ⟨q',c1,c2⟩ <;> rw [a1] at c1 <;> first | (cases c1;rw [a2,c2]) | cases c1
 have hoff:Own.off (Wi V Vf n v') { s with fibers:=s.fibers++[b] } bs:=by
  intro k hk e
  rcases hsplit k hk with rfl | ⟨hlk,hkf,hjv⟩ | ⟨k1,hl1',_,_,hjv,_,_⟩
  ·rcases hvat bs e with ⟨_,h2⟩ | h2
   ·exact h.off .fibers trivial h2
   ·omega
  ·rw [hjv] at e;exact h.off k hlk e
  ·rw [hjv] at e
   have h3:=(huf.piece k1 hl1').block bs e
   omega
 have hbsk:w'.heap[bs]?=u.heap[bs]?:=hkeep bs (by omega) (h.off .fibers trivial)
 have hv:w'.heap[bs]?=some (.cells #[V .fibers,.int .i64 s.now,V .out] 26):=by rw [hbsk];exact hu.var
 refine ⟨v',w',hrun,?_,⟨Wi V Vf n v',?_,hjoin.setOff (a:=⟨bs,0,none⟩) hoff v',hoff,h.low⟩,?_,Zd hv 0,Zk hv 0,fun x hx hne=>?_⟩
 ·obtain ⟨o,c,e,_⟩:=Xq hown'
  exact ⟨o,c,e⟩
 ·rw [Zl hv 0 v']
  rfl
 ·exact Below.grown hbu hgrow (by omega) (fun r hr=>((hu.own.piece .fibers trivial).block r hr).1)
 ·rw [hkeep x (by omega) hne]
  exact hku.block x hx
theorem Zkv (B j:Nat):((⟨B,0,none⟩:Addr).add j)=⟨B,j,none⟩:=by unfold Addr.add;split <;> simp_all
theorem Pw (base B:Nat) (u:World) (v:Value) (l:List Int) (hl:Xn u v l) (hll:l.length≤1000) (hB:u.heap[B]?=some (.cells #[] 3)) (hb:base≤B) :
  ∃ v' u',(Builtin.append_ #[24,24] 24 #[.slice (some ⟨B,0,none⟩) 0 0,v]).run Tryd.prog u=.ok v' u'∧u'.ownsRow base 3 1 v' l.length (ints l)∧u.grownBy u' (some B)∧(∃ g,v'.ownBlock=some g∧(g=B∨g=u.heap.size)):=by
 obtain ⟨i0,hi0,hz0,hz1,hz2⟩:=info_parts Zaw
 have hBl:B<u.heap.size:=(Array.getElem?_eq_some_iff.1 hB).1
 have hrow:u.ownsRow base 3 1 (.slice (some ⟨B,0,none⟩) 0 0) 0 []:=⟨rfl,.inr ⟨B,0,#[],rfl,hb,hB,Nat.le_refl _,by decide,rfl,rfl⟩⟩
 obtain ⟨oa,cap,rfl,_,hi⟩:=hl
 by_cases h0:l.length=0
 ·obtain rfl:l=[]:=List.length_eq_zero_iff.1 h0
  refine ⟨.slice (some ⟨B,0,none⟩) 0 0,u,?_,hrow,⟨rfl,rfl,rfl,Nat.le_refl _,fun _ _ _=>rfl⟩,B,rfl,.inl rfl⟩
  cases oa with
  | none=>exact run_append_nothing u _ _ _ _ i0 Tryd.underlying24 hi0 _ 0 0 (Nat.le_refl _) _ (Src.ofNil u Tryd.underlying24 cap)
  | some a=>exact run_append_nothing u _ _ _ _ i0 Tryd.underlying24 hi0 _ 0 0 (Nat.le_refl _) _ (Src.ofSlice u Tryd.underlying24 a 0 cap [] (by simp) (by simp) (by simp))
 ·obtain ⟨b,o,rfl,_⟩:=hi 0 _ (Zq l 0 0 (by omega))
  obtain ⟨v',u',hrun,hown,hgrow,_,hat⟩:=run_append_own_at (P:=Tryd.prog) u base 24 24 3 i0 _ 1 8 Tryd.underlying24 hi0 hz0 hz1 hz2 rfl (by decide) _ 0 [] hrow ⟨b,o,none⟩ l.length cap (ints l) (by simp [Zcw]) (fun j x hj=>by
    have hjl:j<l.length:=by rw [← Zcw];exact (List.getElem?_eq_some_iff.1 hj).1
    obtain ⟨b',o',e,hc⟩:=hi j _ (Zq l j 0 hjl)
    obtain ⟨rfl,rfl⟩:=(by simpa using e:b=b'∧o=o')
    have:((⟨b,o,none⟩:Addr).add j)=⟨b,o+j,none⟩:=by unfold Addr.add;split <;> simp_all
    rw [this,hc,← hj]
    exact (Zci (Zq l j 0 hjl)).symm) (by intro x hx;obtain ⟨z,_,rfl⟩:=List.mem_map.1 hx;rfl) (by unfold maxLen;omega) (by omega) (by omega)
  refine ⟨v',u',hrun,by simpa using hown,hgrow,?_⟩
  rcases hat with e | e
  ·exact ⟨B,e,.inl rfl⟩
  ·exact ⟨_,e,.inr rfl⟩
theorem Zhw (N0 B5:Nat) (Vf:Key→Value) (b:Fb) (u:World) (h:Own N0 u Vf (Qq b)) (hF:Vf .fibers=.slice (some ⟨B5,0,none⟩) 1 1) (f:Fr) (vl vs:Value) (gl gs:Nat) (hgl:vl.ownBlock=some gl) (hgs:vs.ownBlock=some gs) (hne:gl≠gs)
  (hoff:Own.off Vf (Qq b) gl) (hoffs:Own.off Vf (Qq b) gs) (hN:N0≤u.heap.size) (hloc:u.ownsRow N0 3 1 vl f.locals.length (ints f.locals)) (hstk:u.ownsRow N0 3 1 vs f.stack.length (ints f.stack)) (hlen:b.frames.length≤1000) :
  ∃ v' w',(Builtin.append_ #[44,44] 44 #[Vf (.frames 0),.slice (some ⟨u.heap.size,0,none⟩) 1 1]).run Tryd.prog (u.alloc (.cells #[.int .i64 f.fn,.int .i64 f.at_,vl,vs] 53))=.ok v' w' ∧
   (∃ o c,v'=.slice o (b.frames.length+1) c)∧(∃ V',Own N0 (w'.setCell ⟨B5,0,none⟩ v') V' (Qq { b with frames:=b.frames++[f] })∧V' .fibers=.slice (some ⟨B5,0,none⟩) 1 1)∧Below N0 u w' ∧
   (∀ x,x<u.heap.size→(Vf (.frames 0)).ownBlock≠some x→w'.heap[x]?=u.heap[x]?):=by
 obtain ⟨i0,hi0,hz0,hz1,hz2⟩:=info_parts Zkw
 obtain ⟨ol,cl,el,_⟩:=Xq hloc
 obtain ⟨os,cs,es,_⟩:=Xq hstk
 have h1l:vl.oneCell'=true:=by rw [el];rfl
 have h1s:vs.oneCell'=true:=by rw [es];rfl
 have hgl2:=(hloc.lt gl hgl).2
 have hgs2:=(hstk.lt gs hgs).2
 generalize hob:Obj.cells #[.int .i64 f.fn,.int .i64 f.at_,vl,vs] 53=ob
 have hlay:(u.alloc ob).heap[u.heap.size]?=some (.cells #[.int .i64 f.fn,.int .i64 f.at_,vl,vs] 53):=by rw [hob];exact Zg rfl
 have hu:Own N0 (u.alloc ob) Vf (Qq b):=h.alloc ob
 have hku:Zb u (u.alloc ob):=(Zb.refl u).alloc _
 have hsz:(u.alloc ob).heap.size=u.heap.size+1:=by simp
 have hloc1:(u.alloc ob).ownsRow N0 3 1 vl f.locals.length (ints f.locals):=Zij hloc hku
 have hstk1:(u.alloc ob).ownsRow N0 3 1 vs f.stack.length (ints f.stack):=Zij hstk hku
 generalize (u.alloc ob)=u1 at *
 have hbu:Below N0 u u1:=Below.mono hku hN
 have hl0:live (Qq b) (.frames 0):=by simp [live,Qq]
 obtain ⟨xs,hrow,_⟩:=hu.piece (.frames 0) hl0
 obtain ⟨v',w',hrun,hown',hgrow,_,hat⟩:=run_append_own_at (P:=Tryd.prog) u1 N0 44 44 53 i0 _ 4 64 Tryd.underlying44 hi0 hz0 hz1 hz2 rfl (by decide) _ _ xs hrow ⟨u.heap.size,0,none⟩ 1 1
  [.int .i64 f.fn,.int .i64 f.at_,vl,vs] rfl (fun j x hj=>by
   rw [Zkv,Zd hlay]
   simpa using hj) (by intro x hx;simp only [List.mem_cons,List.not_mem_nil,or_false] at hx;rcases hx with rfl | rfl | rfl | rfl <;> first | rfl | exact h1l | exact h1s) (by unfold maxLen;rw [Zas];omega) (by rw [Zas];omega) (by omega)
 rw [Zas] at hown'
 have hadd:=hu.addFrameG (i:=0) (gF:=B5) (capF:=1) (by simp [Qq]) (by rw [hF];rfl) f vl vs v' hgl hgs hne hoff hoffs (by omega) (by omega) (Jl hstk1 (fun x hx=>hgrow.block x (by have:=(hstk1.lt x hx).2;exact this) (fun e=>hoffs (.frames 0) hl0 (by rw [← e];rw [hgs] at hx;rw [hx]))))
  (Jl hloc1 (fun x hx=>hgrow.block x (by have:=(hloc1.lt x hx).2;exact this) (fun e=>hoff (.frames 0) hl0 (by rw [← e];rw [hgl] at hx;rw [hx])))) (fun x hx hnx=>hgrow.block x hx (fun e=>hnx e.symm)) (fun ys hy=>by rw [Zik hy hrow];exact hown') hat
 refine ⟨v',w',hrun,?_,⟨_,hadd,by rw [Zp _ _ (by simp),Zp _ _ (by simp),Zp _ _ (by simp)];exact hF⟩,?_,fun x hx hnx=>?_⟩
 ·obtain ⟨o,c,e,_⟩:=Xq hown'
  exact ⟨o,c,e⟩
 ·exact Below.grown hbu hgrow (by omega) (fun r hr=>((hu.piece (.frames 0) hl0).block r hr).1)
 ·rw [hgrow.block x (by omega) (fun e=>hnx e.symm)]
  exact hku.block x hx
theorem Zey {P:Program} {md:Region.Mode} {Q:Exit→Act→World→Prop} {S:World→Prop} {T:Nat} {L tl tl':List Oper} {i k:Nat} {oi ok:Oper} {fuel:Nat} {listed:Array Bool} {a:Act} {w:World} (hd:L.drop i=oi :: tl) (hd':L.drop k=ok :: tl')
  (hr:Region.ready md L.toArray listed=[i,k])
  (h:∀ K':Act→World→Prop,Shut (∀ a w,(i≠T→S w)→Jo P md L.toArray Q S T fuel (listed.setIfInBounds i true) a w→K' a w)→if Region.wanted oi (yielded L.toArray a.tmps)=true then Oper.wp P oi a w K' Q else K' (a.put oi.dst undef) w)
  (h':∀ K':Act→World→Prop,Shut (∀ a w,(k≠T→S w)→Jo P md L.toArray Q S T fuel (listed.setIfInBounds k true) a w→K' a w)→if Region.wanted ok (yielded L.toArray a.tmps)=true then Oper.wp P ok a w K' Q else K' (a.put ok.dst undef) w) :
  Jo P md L.toArray Q S T (fuel+1) listed a w :=
 ⟨fun h0=>absurd (hr ▸ h0) (by simp),fun j hj=>by
  rw [hr] at hj
  rcases (by simpa using hj:j=i∨j=k) with rfl | rfl
  ·exact wpOp_step (Pb hd) (fun K' hK=>h K' (fun a w hS hW=>hK a w ⟨hS,hW⟩))
  ·exact wpOp_step (Pb hd') (fun K' hK=>h' K' (fun a w hS hW=>hK a w ⟨hS,hW⟩))⟩
theorem Zxg {w:World} {B:Nat} {c:Int} (hB:w.heap[B]?=some (.cells #[.slice none 0 0,.int .i64 c] 46)):Own B w (fun k=>if k=.fibers then .slice (some ⟨B,0,none⟩) 1 1 else .slice none 0 0) (Qq ⟨[],c⟩):=by
 refine ⟨fun k hk=>?_,fun k k' g' hk hk' e e'=>?_⟩
 ·cases k using Key.by with
  | fibers =>
   refine ⟨[.slice none 0 0,.int .i64 c],⟨rfl,.inr ⟨B,1,#[.slice none 0 0,.int .i64 c],rfl,Nat.le_refl _,hB,Nat.le_refl _,by decide,rfl,rfl⟩⟩,fun i hi=>?_⟩
   obtain rfl:i=0:=by simp [Qq] at hi;exact hi
   exact ⟨rfl,rfl⟩
  | out=>exact World.ownsRow_nil _ _ _ _
  | frames t =>
   obtain rfl:t=0:=by simp [live,Qq] at hk;exact hk
   exact ⟨[],World.ownsRow_nil _ _ _ _,fun j hj=>by simp [Zas] at hj⟩
  | locals t q =>
   obtain rfl:t=0:=by have:=hk.1;simp [Qq] at this;exact this
   have:=hk.2;simp [Zas] at this
  | stack t q =>
   obtain rfl:t=0:=by have:=hk.1;simp [Qq] at this;exact this
   have:=hk.2;simp [Zas] at this
 ·by_cases h1:k=.fibers
  ·by_cases h2:k'=.fibers
   ·rw [h1,h2]
   ·simp only [if_neg h2] at e';cases e'
  ·simp only [if_neg h1] at e;cases e
theorem Own.base {base base':Nat} {w:World} {V:Key→Value} {s:St} (h:Own base w V s) (hb:base'≤base):Own base' w V s :=
 ⟨fun k hk=>by
  have:=h.piece k hk
  cases k using Key.by with
  | fibers=>obtain ⟨xs,r1,r2⟩:=this;exact ⟨xs,Zay r1 hb,r2⟩
  | out=>exact Zay this hb
  | frames i=>obtain ⟨xs,r1,r2⟩:=this;exact ⟨xs,Zay r1 hb,r2⟩
  | locals i j=>exact Zay this hb
  | stack i j=>exact Zay this hb,h.apart⟩
end Go.Proofs.YtblihfpigjiahaaDoor
