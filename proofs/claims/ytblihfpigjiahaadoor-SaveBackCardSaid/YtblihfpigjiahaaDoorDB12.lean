/- OwnB, OwnC, OwnD, OwnE, ProgS, ProgT -/
import Derived.Test.YtblihfpigjiahaaDoorDB11
import Derived.Test.YtblihfpigjiahaaDoorDB01
import Derived.Test.YtblihfpigjiahaaDoorDB09
set_option maxRecDepth 100000
set_option maxHeartbeats 8000000
namespace Go.Proofs.YtblihfpigjiahaaDoor
open Go.RowKit
theorem Own.setLocal {base:Nat} {w:World} {V:Key→Value} {s:St} (h:Own base w V s) {i j g cap q:Nat} (hi:i<s.fibers.length) (hj:j<(Zc s i).frames.length)
  (hV:V (.locals i j)=.slice (some ⟨g,0,none⟩) (Ze s i j).locals.length cap) (z:Int) :
  Own base (w.setCell ⟨g,q,none⟩ (.int .i64 z)) V (Qo s i j { Ze s i j with locals:=(Ze s i j).locals.set q z }):=by
 have hgb:(V (.locals i j)).ownBlock=some g:=by rw [hV];rfl
 have hlvL:live s (.locals i j):=⟨hi,hj⟩
 refine h.turned (fun k hk=>?_) (fun k b hk e=>.inl ⟨(Yu _ hi k).1 hk,e⟩) (fun k k' b hk _ ho e _=>absurd e (ho k ((Yu _ hi k).1 hk)))
 have hlk:=(Yu _ hi k).1 hk
 by_cases hkL:k=.locals i j
 ·subst hkL
  left
  have h1:w.ownsRow base 3 1 (V (.locals i j)) (Ze s i j).locals.length (ints (Ze s i j).locals):=h.piece _ hlvL
  rw [hV] at h1
  show World.ownsRow _ _ _ _ _ _ _
  rw [Wz _ hi hj,hV]
  have:=(h1.stored q (.int .i64 z)).1
  simpa [ints,List.map_set] using this
 ·right
  refine ⟨hlk,rfl,fun hp=>?_,fun b e=>Below.heap_setCell w _ _ b (fun e'=>hkL (h.apart k _ b hlk hlvL e (by rw [hgb,e'])))⟩
  cases k using Key.by with
  | fibers =>
   obtain ⟨xs,r1,r2⟩:=hp
   have hl:(Qo s i j { Ze s i j with locals:=(Ze s i j).locals.set q z }).fibers.length=s.fibers.length:=Xb _ _ _
   exact ⟨xs,by rw [hl];exact r1,fun t ht=>by rw [hl] at ht;rw [Zbf _ hi];exact r2 t ht⟩
  | out=>exact hp
  | frames t =>
   obtain ⟨xs,r1,r2⟩:=hp
   refine ⟨xs,by rw [Ut _ hi];exact r1,fun q' hq=>?_⟩
   rw [Ut _ hi] at hq
   by_cases e:i=t∧j=q'
   ·obtain ⟨rfl,rfl⟩:=e
    rw [Wz _ hi hj]
    exact r2 _ hq
   ·rw [Pa _ hi e];exact r2 q' hq
  | locals t q' =>
   simp only [Xp] at hp ⊢
   rw [Pa _ hi (fun h=>hkL (by rw [h.1,h.2]))]
   exact hp
  | stack t q' =>
   simp only [Xp] at hp ⊢
   by_cases e:i=t∧j=q'
   ·obtain ⟨rfl,rfl⟩:=e
    rw [Wz _ hi hj];exact hp
   ·rw [Pa _ hi e];exact hp
theorem Zcx {α:Type} (l r:List α) (i:Nat) (d:α) (h:i<l.length):(l++r).getD i d=l.getD i d:=by simp [List.getD,List.getElem?_append_left h]
theorem Zcs {α:Type} (l:List α) (x d:α):(l++[x]).getD l.length d=x:=by simp [List.getD]
theorem Own.dropFrame {base:Nat} {w:World} {V:Key→Value} {s:St} (h:Own base w V s) {i gF capF g cap:Nat} (hi:i<s.fibers.length)
  (hF:V .fibers=.slice (some ⟨gF,0,none⟩) s.fibers.length capF) (hV:V (.frames i)=.slice (some ⟨g,0,none⟩) (Zc s i).frames.length cap) :
  Own base (w.setCell ⟨gF,i*2,none⟩ (.slice (some ⟨g,0,none⟩) ((Zc s i).frames.length - 1) cap)) (upd V (.frames i) (.slice (some ⟨g,0,none⟩) ((Zc s i).frames.length - 1) cap)) (Zg s i { Zc s i with frames:=(Zc s i).frames.dropLast }):=by
 have hgb:(V (.frames i)).ownBlock=some g:=by rw [hV];rfl
 have hFb:(V .fibers).ownBlock=some gF:=by rw [hF];rfl
 have hlvF:live s (.frames i):=hi
 have hlen:=Xb s i { Zc s i with frames:=(Zc s i).frames.dropLast }
 have hfl:∀ t,(Zc (Zg s i { Zc s i with frames:=(Zc s i).frames.dropLast }) t).frames.length≤(Zc s t).frames.length:=fun t=>by
  by_cases e:i=t
  ·subst e;rw [Qa _ hi];simp
  ·rw [Qs _ e];exact Nat.le_refl _
 have hfa:∀ t q,q<(Zc (Zg s i { Zc s i with frames:=(Zc s i).frames.dropLast }) t).frames.length→Ze (Zg s i { Zc s i with frames:=(Zc s i).frames.dropLast }) t q=Ze s t q:=fun t q hq=>by
  unfold Ze
  by_cases e:i=t
  ·subst e
   rw [Qa _ hi] at hq ⊢
   simp at hq
   have hq':q<(Zc s i).frames.length:=by omega
   simp [List.getD,hq,hq']
  ·rw [Qs _ e]
 have hca:∀ t,(Zc (Zg s i { Zc s i with frames:=(Zc s i).frames.dropLast }) t).caller=(Zc s t).caller:=fun t=>by
  by_cases e:i=t
  ·subst e;rw [Qa _ hi]
  ·rw [Qs _ e]
 have hlv:∀ k,live (Zg s i { Zc s i with frames:=(Zc s i).frames.dropLast }) k→live s k:=by
  intro k hk
  cases k using Key.by with
  | fibers=>trivial
  | out=>trivial
  | frames t=>simpa only [live,hlen] using hk
  | locals t q=>simp only [live,hlen] at hk ⊢;exact ⟨hk.1,Nat.lt_of_lt_of_le hk.2 (hfl t)⟩
  | stack t q=>simp only [live,hlen] at hk ⊢;exact ⟨hk.1,Nat.lt_of_lt_of_le hk.2 (hfl t)⟩
 have hbk:∀ k,(upd V (.frames i) (.slice (some ⟨g,0,none⟩) ((Zc s i).frames.length - 1) cap) k).ownBlock=(V k).ownBlock:=by
  intro k
  by_cases e:k=.frames i
  ·subst e;rw [Qd,hgb];rfl
  ·rw [Zn V _ e]
 refine h.turned (fun k hk=>?_) (fun k b hk e=>.inl ⟨hlv k hk,by rw [← hbk];exact e⟩) (fun k k' b hk _ ho e _=>absurd (by rw [← hbk];exact e) (ho k (hlv k hk)))
 have hlk:=hlv k hk
 by_cases hkF:k=.fibers
 ·subst hkF
  left
  obtain ⟨xs,h1,h2⟩:=h.piece .fibers trivial
  rw [hF] at h1
  refine ⟨xs.set (i*2) (.slice (some ⟨g,0,none⟩) ((Zc s i).frames.length - 1) cap),?_,fun t ht=>?_⟩
  ·rw [Zn V _ (by simp),hF,hlen];exact (h1.stored _ _).1
  ·rw [hlen] at ht
   obtain ⟨h3,h4⟩:=h2 t ht
   have hx:i*2<xs.length:=by rw [h1.1];omega
   refine ⟨?_,by rw [List.getElem?_set,if_neg (by omega),hca];exact h4⟩
   by_cases e:i=t
   ·subst e;rw [List.getElem?_set,if_pos rfl,if_pos hx,Qd]
   ·rw [List.getElem?_set,if_neg (by omega),Zn V _ (by simp;exact fun h=>e h.symm)];exact h3
 ·have hgg:g≠gF:=fun e=>by have:=h.apart _ .fibers g hlvF trivial hgb (by rw [hFb,e]);cases this
  by_cases hkf:k=.frames i
  ·subst hkf
   left
   obtain ⟨xs,h1,h2⟩:=h.piece _ hlvF
   rw [hV] at h1
   have hnl:((Zc s i).frames.dropLast).length=(Zc s i).frames.length - 1:=by simp
   refine ⟨xs.take (((Zc s i).frames.length - 1)*4),?_,fun t ht=>?_⟩
   ·rw [Qd,Qa _ hi]
    simp only [hnl]
    refine ownsRow_setCell_other ?_ (by simp [Value.ownBlock,hgg]) _
    refine ⟨by rw [List.length_take,h1.1];omega,?_⟩
    rcases h1.2 with ⟨h',_⟩ | ⟨g',cap',cur,h',hb,hgh,hnc,hcm,hcs,htake⟩
    ·simp at h'
    ·simp only [Value.slice.injEq,Option.some.injEq,Addr.mk.injEq,and_true,true_and] at h'
     obtain ⟨rfl,rfl⟩:=h'
     refine .inr ⟨g,cap,cur,rfl,hb,hgh,by omega,hcm,hcs,?_⟩
     rw [← htake,List.take_take,Nat.min_eq_left (by omega)]
   ·rw [hfa i t ht]
    rw [Qa _ hi] at ht
    simp only [hnl] at ht
    obtain ⟨q0,q1,q2,q3⟩:=h2 t (by omega)
    rw [Zn V _ (by simp),Zn V _ (by simp)]
    refine ⟨?_,?_,?_,?_⟩ <;> rw [List.getElem?_take,if_pos (by omega)] <;> assumption
  ·right
   refine ⟨hlk,Zn V _ hkf,fun hp=>?_,fun b e=>Below.heap_setCell w _ _ b (fun e'=>hkF (h.apart k _ b hlk trivial e (by rw [hFb,e'])))⟩
   cases k using Key.by with
   | fibers=>exact absurd rfl hkF
   | out=>simp only [Xp] at hp ⊢;rw [Zn V _ (by simp)];exact hp
   | frames t =>
    have hne:i≠t:=fun e=>hkf (by rw [e])
    obtain ⟨xs,r1,r2⟩:=hp
    refine ⟨xs,by rw [Qs _ hne,Zn V _ (by simp;exact fun h=>hne h.symm)];exact r1,fun q hq=>?_⟩
    rw [hfa t q hq]
    rw [Qs _ hne] at hq
    rw [Zn V _ (by simp),Zn V _ (by simp)]
    exact r2 q hq
   | locals t q=>simp only [Xp] at hp ⊢;rw [Zn V _ (by simp),hfa t q hk.2];exact hp
   | stack t q=>simp only [Xp] at hp ⊢;rw [Zn V _ (by simp),hfa t q hk.2];exact hp
theorem Own.addFrame {base:Nat} {w w1:World} {V:Key→Value} {s:St} (h:Own base w V s) {i gF capF:Nat} (hi:i<s.fibers.length)
  (hF:V .fibers=.slice (some ⟨gF,0,none⟩) s.fibers.length capF) (f:Fr) (vl vf:Value) (hst:f.stack=[]) {gl:Nat} (hgl:vl.ownBlock=none∨vl.ownBlock=some gl) (hoff:Own.off V s gl) (hlt:gl<w.heap.size)
  (hloc:w1.ownsRow base 3 1 vl f.locals.length (ints f.locals))
  (hgrow:∀ b,b<w.heap.size→(V (.frames i)).ownBlock≠some b→w1.heap[b]?=w.heap[b]?)
  (hown:∀ xs,w.ownsRow base 53 4 (V (.frames i)) (Zc s i).frames.length xs→w1.ownsRow base 53 4 vf ((Zc s i).frames.length+1) (xs++[.int .i64 f.fn,.int .i64 f.at_,vl,.slice none 0 0]))
  (hat:vf.ownBlock=(V (.frames i)).ownBlock∨vf.ownBlock=some w.heap.size) :
  Own base (w1.setCell ⟨gF,i*2,none⟩ vf) (upd (upd (upd V (.frames i) vf) (.locals i (Zc s i).frames.length) vl) (.stack i (Zc s i).frames.length) (.slice none 0 0)) (Zg s i { Zc s i with frames:=(Zc s i).frames++[f] }):=by
 generalize hn:(Zc s i).frames.length=n at *
 have hFb:(V .fibers).ownBlock=some gF:=by rw [hF];rfl
 have hlvF:live s (.frames i):=hi
 have hlen:=Xb s i { Zc s i with frames:=(Zc s i).frames++[f] }
 have hfrn:(V (.frames i)).ownBlock≠some gF:=fun e=>by have:=h.apart _ .fibers _ hlvF trivial e hFb;cases this
 have hgFw:gF<w.heap.size:=((h.piece .fibers trivial).block gF hFb).2
 have hvfF:vf.ownBlock≠some gF:=by
  rcases hat with e | e
  ·rw [e];exact hfrn
  ·rw [e];intro e';cases e';omega
 have hvlF:vl.ownBlock≠some gF:=by
  rcases hgl with e | e
  ·rw [e];simp
  ·rw [e];intro e';cases e';exact hoff .fibers trivial hFb
 have hfs:Zc (Zg s i { Zc s i with frames:=(Zc s i).frames++[f] }) i={ Zc s i with frames:=(Zc s i).frames++[f] }:=Qa _ hi
 have hfn:∀ t,i≠t→Zc (Zg s i { Zc s i with frames:=(Zc s i).frames++[f] }) t=Zc s t:=fun t e=>Qs _ e
 have hold:∀ t q,(i=t→q<n)→Ze (Zg s i { Zc s i with frames:=(Zc s i).frames++[f] }) t q=Ze s t q:=fun t q hq=>by
  unfold Ze
  by_cases e:i=t
  ·subst e;rw [hfs];exact Zcx _ _ _ _ (by rw [hn];exact hq rfl)
  ·rw [hfn t e]
 have hnew:Ze (Zg s i { Zc s i with frames:=(Zc s i).frames++[f] }) i n=f:=by
  unfold Ze;rw [hfs,← hn];exact Zcs _ _ _
 have hlv:∀ k,live (Zg s i { Zc s i with frames:=(Zc s i).frames++[f] }) k→k=.locals i n∨k=.stack i n∨(live s k∧∀ t q,(k=.locals t q∨k=.stack t q)→i=t→q<n):=by
  intro k hk
  cases k using Key.by with
  | fibers=>exact .inr (.inr ⟨trivial,fun t q h=>by simp at h⟩)
  | out=>exact .inr (.inr ⟨trivial,fun t q h=>by simp at h⟩)
  | frames t=>exact .inr (.inr ⟨by simpa only [live,hlen] using hk,fun t q h=>by simp at h⟩)
  | locals t q =>
   simp only [live,hlen] at hk
   by_cases e:i=t
   ·subst e
    rw [hfs] at hk
    simp only [List.length_append,List.length_cons,List.length_nil,hn] at hk
    by_cases e:q=n
    ·left;rw [e]
    ·exact .inr (.inr ⟨⟨hi,by omega⟩,fun t' q' h _=>by simp at h;omega⟩)
   ·rw [hfn t e] at hk
    exact .inr (.inr ⟨hk,fun t' q' h e'=>by simp at h;omega⟩)
  | stack t q =>
   simp only [live,hlen] at hk
   by_cases e:i=t
   ·subst e
    rw [hfs] at hk
    simp only [List.length_append,List.length_cons,List.length_nil,hn] at hk
    by_cases e:q=n
    ·right;left;rw [e]
    ·exact .inr (.inr ⟨⟨hi,by omega⟩,fun t' q' h _=>by simp at h;omega⟩)
   ·rw [hfn t e] at hk
    exact .inr (.inr ⟨hk,fun t' q' h e'=>by simp at h;omega⟩)
 have hdead1:¬ live s (.locals i n):=fun hh=>by have:=hh.2;omega
 have hdead2:¬ live s (.stack i n):=fun hh=>by have:=hh.2;omega
 have hVold:∀ k,live s k→k≠.frames i→upd (upd (upd V (.frames i) vf) (.locals i n) vl) (.stack i n) (.slice none 0 0) k=V k:=fun k hk e=>by
  rw [Zn _ _ (fun (e:k=.stack i n)=>hdead2 (e ▸ hk)),Zn _ _ (fun (e:k=.locals i n)=>hdead1 (e ▸ hk)),Zn _ _ e]
 have hVf:upd (upd (upd V (.frames i) vf) (.locals i n) vl) (.stack i n) (.slice none 0 0) (.frames i)=vf:=by
  rw [Zn _ _ (by simp),Zn _ _ (by simp),Qd]
 have hVl:upd (upd (upd V (.frames i) vf) (.locals i n) vl) (.stack i n) (.slice none 0 0) (.locals i n)=vl:=by
  rw [Zn _ _ (by simp),Qd]
 have hVs:upd (upd (upd V (.frames i) vf) (.locals i n) vl) (.stack i n) (.slice none 0 0) (.stack i n)=.slice none 0 0:=Qd _ _ _
 generalize upd (upd (upd V (.frames i) vf) (.locals i n) vl) (.stack i n) (.slice none 0 0)=V' at *
 refine h.turned (fun k hk=>?_) (fun k b hk e=>?_) (fun k k' b hk hk' ho e e'=>?_)
 ·rcases hlv k hk with rfl | rfl | ⟨hlk,hq⟩
  ·left
   show World.ownsRow _ _ _ _ _ _ _
   rw [hVl,hnew]
   exact ownsRow_setCell_other hloc hvlF _
  ·left
   show World.ownsRow _ _ _ _ _ _ _
   rw [hVs,hnew,hst]
   exact World.ownsRow_nil _ _ _ _
  ·by_cases hkF:k=.fibers
   ·subst hkF
    left
    obtain ⟨xs,h1,h2⟩:=h.piece .fibers trivial
    rw [hF] at h1
    have h1':w1.ownsRow base 46 2 (.slice (some ⟨gF,0,none⟩) s.fibers.length capF) s.fibers.length xs:=Jz h1 (fun b e=>by cases e;exact hgrow gF hgFw hfrn)
    refine ⟨xs.set (i*2) vf,?_,fun t ht=>?_⟩
    ·rw [hVold .fibers trivial (by simp),hF,hlen];exact (h1'.stored _ _).1
    ·rw [hlen] at ht
     obtain ⟨h3,h4⟩:=h2 t ht
     have hx:i*2<xs.length:=by rw [h1.1];omega
     by_cases e:i=t
     ·subst e
      refine ⟨by rw [List.getElem?_set,if_pos rfl,if_pos hx,hVf],?_⟩
      rw [List.getElem?_set,if_neg (by omega),hfs]
      exact h4
     ·refine ⟨by rw [List.getElem?_set,if_neg (by omega),hVold (.frames t) ht (by simp;exact fun h=>e h.symm)];exact h3,?_⟩
      rw [List.getElem?_set,if_neg (by omega),hfn t e]
      exact h4
   ·by_cases hkf:k=.frames i
    ·subst hkf
     left
     obtain ⟨xs,h1,h2⟩:=h.piece _ hlvF
     rw [hn] at h1 h2
     have h1':=hown xs h1
     refine ⟨_,by rw [hVf,hfs];simp only [List.length_append,List.length_cons,List.length_nil,hn];exact ownsRow_setCell_other h1' hvfF _,fun t ht=>?_⟩
     rw [hfs] at ht
     simp only [List.length_append,List.length_cons,List.length_nil,hn] at ht
     have hxl:xs.length=n*4:=h1.1
     by_cases e:t=n
     ·subst e
      rw [hnew,hVl,hVs]
      refine ⟨?_,?_,?_,?_⟩ <;> rw [List.getElem?_append_right (by omega),hxl]
      ·rw [show t*4 - t*4=0 by omega];rfl
      ·rw [show t*4+1 - t*4=1 by omega];rfl
      ·rw [show t*4+2 - t*4=2 by omega];rfl
      ·rw [show t*4+3 - t*4=3 by omega];rfl
     ·have htn:t<n:=by omega
      obtain ⟨q0,q1,q2,q3⟩:=h2 t htn
      rw [hold i t (fun _=>htn),hVold (.locals i t) ⟨hi,by omega⟩ (by simp),hVold (.stack i t) ⟨hi,by omega⟩ (by simp)]
      refine ⟨?_,?_,?_,?_⟩ <;> rw [List.getElem?_append_left (by omega)] <;> assumption
    ·right
     refine ⟨hlk,hVold k hlk hkf,fun hp=>?_,fun b e=>?_⟩
     ·cases k using Key.by with
      | fibers=>exact absurd rfl hkF
      | out=>simp only [Xp] at hp ⊢;rw [hVold .out trivial (by simp)];exact hp
      | frames t =>
       have hne:i≠t:=fun e=>hkf (by rw [e])
       obtain ⟨xs,r1,r2⟩:=hp
       refine ⟨xs,by rw [hfn t hne,hVold _ hlk hkf];exact r1,fun q hq'=>?_⟩
       rw [hfn t hne] at hq'
       rw [hold t q (fun e=>absurd e hne),hVold (.locals t q) ⟨hlk,hq'⟩ (by simp),hVold (.stack t q) ⟨hlk,hq'⟩ (by simp)]
       exact r2 q hq'
      | locals t q=>simp only [Xp] at hp ⊢;rw [hVold _ hlk (by simp),hold t q (hq t q (.inl rfl))];exact hp
      | stack t q=>simp only [Xp] at hp ⊢;rw [hVold _ hlk (by simp),hold t q (hq t q (.inr rfl))];exact hp
     ·rw [Below.heap_setCell w1 _ _ b (fun e'=>hkF (h.apart k _ b hlk trivial e (by rw [hFb,e'])))]
      exact hgrow b ((h.piece k hlk).block b e).2 (fun e'=>hkf (h.apart k _ b hlk hlvF e e'))
 ·rcases hlv k hk with rfl | rfl | ⟨hlk,hq⟩
  ·right
   rw [hVl] at e
   rcases hgl with e' | e'
   ·rw [e'] at e;cases e
   ·rw [e'] at e;cases e;exact hoff
  ·rw [hVs] at e;cases e
  ·by_cases hkf:k=.frames i
   ·subst hkf
    rw [hVf] at e
    rcases hat with e' | e'
    ·exact .inl ⟨hlk,by rw [← e',e]⟩
    ·rw [e] at e';cases e'
     exact .inr (h.new_off (.inl (Nat.le_refl _)))
   ·rw [hVold k hlk hkf] at e
    exact .inl ⟨hlk,e⟩
 ·have hwhich:∀ k,live (Zg s i { Zc s i with frames:=(Zc s i).frames++[f] }) k→(V' k).ownBlock=some b→(k=.locals i n∧b=gl)∨(k=.frames i∧b=w.heap.size):=by
   intro k hk e
   rcases hlv k hk with rfl | rfl | ⟨hlk,hq⟩
   ·left
    rw [hVl] at e
    rcases hgl with e' | e'
    ·rw [e'] at e;cases e
    ·rw [e'] at e;cases e;exact ⟨rfl,rfl⟩
   ·rw [hVs] at e;cases e
   ·by_cases hkf:k=.frames i
    ·subst hkf
     right
     rw [hVf] at e
     rcases hat with e' | e'
     ·exact absurd (by rw [← e',e]) (ho (.frames i) hlk)
     ·rw [e] at e';cases e';exact ⟨rfl,rfl⟩
    ·rw [hVold k hlk hkf] at e
     exact absurd e (ho k hlk)
  rcases hwhich k hk e with ⟨h1,h2⟩ | ⟨h1,h2⟩ <;> rcases hwhich k' hk' e' with ⟨h3,h4⟩ | ⟨h3,h4⟩
  ·rw [h1,h3]
  ·omega
  ·omega
  ·rw [h1,h3]
theorem Own.turnOut {base:Nat} {w w1:World} {V:Key→Value} {s:St} (h:Own base w V s) (l:List Int) (vo:Value) (hown:w1.ownsRow base 3 1 vo l.length (ints l))
  (hgrow:∀ b,b<w.heap.size→(V .out).ownBlock≠some b→w1.heap[b]?=w.heap[b]?) (hat:vo.ownBlock=(V .out).ownBlock∨vo.ownBlock=some w.heap.size):Own base w1 (upd V .out vo) { s with out:=l }:=by
 have hlv:∀ k,live { s with out:=l } k↔live s k:=fun k=>by cases k using Key.by <;> exact Iff.rfl
 refine h.turned (fun k hk=>?_) (fun k b hk e=>?_) (fun k k' b hk hk' ho e e'=>?_)
 ·have hlk:=(hlv k).1 hk
  by_cases hko:k=.out
  ·subst hko;left
   show World.ownsRow _ _ _ _ _ _ _
   rw [Qd];exact hown
  ·right
   refine ⟨hlk,Zn V vo hko,fun hp=>?_,fun b e=>hgrow b ((h.piece k hlk).block b e).2 (fun e'=>hko (h.apart k .out b hlk trivial e e'))⟩
   cases k using Key.by with
   | fibers =>
    obtain ⟨xs,r1,r2⟩:=hp
    exact ⟨xs,by rw [Zn V vo hko];exact r1,fun i hi=>by rw [Zn V vo (by simp)];exact r2 i hi⟩
   | out=>exact absurd rfl hko
   | frames i =>
    obtain ⟨xs,r1,r2⟩:=hp
    exact ⟨xs,by rw [Zn V vo hko];exact r1,fun j hj=>by rw [Zn V vo (by simp),Zn V vo (by simp)];exact r2 j hj⟩
   | locals i j=>simp only [Xp] at hp ⊢;rw [Zn V vo hko];exact hp
   | stack i j=>simp only [Xp] at hp ⊢;rw [Zn V vo hko];exact hp
 ·have hlk:=(hlv k).1 hk
  by_cases hko:k=.out
  ·subst hko
   rw [Qd] at e
   rcases hat with e' | e'
   ·exact .inl ⟨hlk,by rw [← e',e]⟩
   ·rw [e] at e';cases e';exact .inr (h.new_off (.inl (Nat.le_refl _)))
  ·rw [Zn V vo hko] at e;exact .inl ⟨hlk,e⟩
 ·by_cases hko:k=.out
  ·by_cases hko':k'=.out
   ·rw [hko,hko']
   ·rw [Zn V vo hko'] at e';exact absurd e' (ho k' ((hlv k').1 hk'))
  ·rw [Zn V vo hko] at e;exact absurd e (ho k ((hlv k).1 hk))
theorem Own.addFiber {base:Nat} {w w1:World} {V:Key→Value} {s:St} (h:Own base w V s) (f:Fr) (c:Int) (vl vf vF:Value) (hst:f.stack=[]) {gl gf:Nat} (hgl:vl.ownBlock=none∨vl.ownBlock=some gl) (hgf:vf.ownBlock=some gf) (hne:gl≠gf)
  (hoff:Own.off V s gl) (hoff':Own.off V s gf) (hlt:gl<w.heap.size) (hlt':gf<w.heap.size)
  (hloc:w1.ownsRow base 3 1 vl f.locals.length (ints f.locals)) (hfr:w1.ownsRow base 53 4 vf 1 [.int .i64 f.fn,.int .i64 f.at_,vl,.slice none 0 0])
  (hgrow:∀ b,b<w.heap.size→(V .fibers).ownBlock≠some b→w1.heap[b]?=w.heap[b]?)
  (hown:∀ xs,w.ownsRow base 46 2 (V .fibers) s.fibers.length xs→w1.ownsRow base 46 2 vF (s.fibers.length+1) (xs++[vf,.int .i64 c]))
  (hat:vF.ownBlock=(V .fibers).ownBlock∨vF.ownBlock=some w.heap.size) :
  Own base w1 (upd (upd (upd (upd V .fibers vF) (.frames s.fibers.length) vf) (.locals s.fibers.length 0) vl) (.stack s.fibers.length 0) (.slice none 0 0)) { s with fibers:=s.fibers++[⟨[f],c⟩] }:=by
 generalize hn:s.fibers.length=n at *
 have hlen:({ s with fibers:=s.fibers++[⟨[f],c⟩] }:St).fibers.length=n+1:=by simp [hn]
 have hfo:∀ t,t<n→Zc { s with fibers:=s.fibers++[⟨[f],c⟩] } t=Zc s t:=fun t ht=>Zcx _ _ _ _ (by rw [hn];exact ht)
 have hfn:Zc { s with fibers:=s.fibers++[⟨[f],c⟩] } n=⟨[f],c⟩:=by rw [← hn];exact Zcs _ _ _
 have hfrn:Ze { s with fibers:=s.fibers++[⟨[f],c⟩] } n 0=f:=by unfold Ze;rw [hfn];rfl
 have hfro:∀ t q,t<n→Ze { s with fibers:=s.fibers++[⟨[f],c⟩] } t q=Ze s t q:=fun t q ht=>by unfold Ze;rw [hfo t ht]
 have hlv:∀ k,live { s with fibers:=s.fibers++[⟨[f],c⟩] } k→k=.frames n∨k=.locals n 0∨k=.stack n 0∨(live s k∧∀ t q,(k=.frames t∨k=.locals t q∨k=.stack t q)→t<n):=by
  intro k hk
  cases k using Key.by with
  | fibers=>exact .inr (.inr (.inr ⟨trivial,fun t q h=>by simp at h⟩))
  | out=>exact .inr (.inr (.inr ⟨trivial,fun t q h=>by simp at h⟩))
  | frames t =>
   simp only [live,hlen] at hk
   by_cases e:t=n
   ·left;rw [e]
   ·exact .inr (.inr (.inr ⟨by show t<s.fibers.length;omega,fun t' q h=>by simp at h;omega⟩))
  | locals t q =>
   simp only [live,hlen] at hk
   by_cases e:t=n
   ·subst e;rw [hfn] at hk;simp at hk
    right;left;rw [hk]
   ·rw [hfo t (by omega)] at hk
    exact .inr (.inr (.inr ⟨⟨by omega,hk.2⟩,fun t' q h=>by simp at h;omega⟩))
  | stack t q =>
   simp only [live,hlen] at hk
   by_cases e:t=n
   ·subst e;rw [hfn] at hk;simp at hk
    right;right;left;rw [hk]
   ·rw [hfo t (by omega)] at hk
    exact .inr (.inr (.inr ⟨⟨by omega,hk.2⟩,fun t' q h=>by simp at h;omega⟩))
 have hd0:¬ live s (.frames n):=fun hh=>by have:n<s.fibers.length:=hh;omega
 have hd1:¬ live s (.locals n 0):=fun hh=>by have:=hh.1;omega
 have hd2:¬ live s (.stack n 0):=fun hh=>by have:=hh.1;omega
 have hVold:∀ k,live s k→k≠.fibers→upd (upd (upd (upd V .fibers vF) (.frames n) vf) (.locals n 0) vl) (.stack n 0) (.slice none 0 0) k=V k:=fun k hk e=>by
  rw [Zn _ _ (fun (e:k=.stack n 0)=>hd2 (e ▸ hk)),Zn _ _ (fun (e:k=.locals n 0)=>hd1 (e ▸ hk)),Zn _ _ (fun (e:k=.frames n)=>hd0 (e ▸ hk)),Zn _ _ e]
 have hVF:upd (upd (upd (upd V .fibers vF) (.frames n) vf) (.locals n 0) vl) (.stack n 0) (.slice none 0 0) .fibers=vF:=by
  rw [Zn _ _ (by simp),Zn _ _ (by simp),Zn _ _ (by simp),Qd]
 have hVf:upd (upd (upd (upd V .fibers vF) (.frames n) vf) (.locals n 0) vl) (.stack n 0) (.slice none 0 0) (.frames n)=vf:=by
  rw [Zn _ _ (by simp),Zn _ _ (by simp),Qd]
 have hVl:upd (upd (upd (upd V .fibers vF) (.frames n) vf) (.locals n 0) vl) (.stack n 0) (.slice none 0 0) (.locals n 0)=vl:=by
  rw [Zn _ _ (by simp),Qd]
 have hVs:upd (upd (upd (upd V .fibers vF) (.frames n) vf) (.locals n 0) vl) (.stack n 0) (.slice none 0 0) (.stack n 0)=.slice none 0 0:=Qd _ _ _
 generalize upd (upd (upd (upd V .fibers vF) (.frames n) vf) (.locals n 0) vl) (.stack n 0) (.slice none 0 0)=V' at *
 refine h.turned (fun k hk=>?_) (fun k b hk e=>?_) (fun k k' b hk hk' ho e e'=>?_)
 ·rcases hlv k hk with rfl | rfl | rfl | ⟨hlk,hq⟩
  ·left
   refine ⟨_,by rw [hVf,hfn];exact hfr,fun j hj=>?_⟩
   rw [hfn] at hj
   simp at hj
   subst hj
   rw [hfrn,hVl,hVs]
   exact ⟨rfl,rfl,rfl,rfl⟩
  ·left
   show World.ownsRow _ _ _ _ _ _ _
   rw [hVl,hfrn];exact hloc
  ·left
   show World.ownsRow _ _ _ _ _ _ _
   rw [hVs,hfrn,hst];exact World.ownsRow_nil _ _ _ _
  ·by_cases hkF:k=.fibers
   ·subst hkF;left
    obtain ⟨xs,h1,h2⟩:=h.piece .fibers trivial
    rw [hn] at h1 h2
    refine ⟨_,by rw [hVF,hlen];exact hown xs h1,fun t ht=>?_⟩
    rw [hlen] at ht
    have hxl:xs.length=n*2:=h1.1
    by_cases e:t=n
    ·subst e
     rw [hVf,hfn]
     refine ⟨?_,?_⟩ <;> rw [List.getElem?_append_right (by omega),hxl]
     ·rw [show t*2 - t*2=0 by omega];rfl
     ·rw [show t*2+1 - t*2=1 by omega];rfl
    ·have htn:t<n:=by omega
     obtain ⟨q0,q1⟩:=h2 t htn
     rw [hVold (.frames t) (by show t<s.fibers.length;omega) (by simp),hfo t htn]
     refine ⟨?_,?_⟩ <;> rw [List.getElem?_append_left (by omega)] <;> assumption
   ·right
    refine ⟨hlk,hVold k hlk hkF,fun hp=>?_,fun b e=>hgrow b ((h.piece k hlk).block b e).2 (fun e'=>hkF (h.apart k .fibers b hlk trivial e e'))⟩
    cases k using Key.by with
    | fibers=>exact absurd rfl hkF
    | out=>simp only [Xp] at hp ⊢;rw [hVold _ hlk hkF];exact hp
    | frames t =>
     have htn:=hq t 0 (.inl rfl)
     obtain ⟨xs,r1,r2⟩:=hp
     refine ⟨xs,by rw [hfo t htn,hVold _ hlk hkF];exact r1,fun q hq'=>?_⟩
     rw [hfo t htn] at hq'
     rw [hfro t q htn,hVold (.locals t q) ⟨hlk,hq'⟩ (by simp),hVold (.stack t q) ⟨hlk,hq'⟩ (by simp)]
     exact r2 q hq'
    | locals t q=>simp only [Xp] at hp ⊢;rw [hVold _ hlk hkF,hfro t q (hq t q (.inr (.inl rfl)))];exact hp
    | stack t q=>simp only [Xp] at hp ⊢;rw [hVold _ hlk hkF,hfro t q (hq t q (.inr (.inr rfl)))];exact hp
 ·rcases hlv k hk with rfl | rfl | rfl | ⟨hlk,hq⟩
  ·right;rw [hVf,hgf] at e;cases e;exact hoff'
  ·right
   rw [hVl] at e
   rcases hgl with e' | e'
   ·rw [e'] at e;cases e
   ·rw [e'] at e;cases e;exact hoff
  ·rw [hVs] at e;cases e
  ·by_cases hkF:k=.fibers
   ·subst hkF
    rw [hVF] at e
    rcases hat with e' | e'
    ·exact .inl ⟨trivial,by rw [← e',e]⟩
    ·rw [e] at e';cases e';exact .inr (h.new_off (.inl (Nat.le_refl _)))
   ·rw [hVold k hlk hkF] at e;exact .inl ⟨hlk,e⟩
 ·have hwhich:∀ k,live { s with fibers:=s.fibers++[⟨[f],c⟩] } k→(V' k).ownBlock=some b→(k=.locals n 0∧b=gl)∨(k=.frames n∧b=gf)∨(k=.fibers∧b=w.heap.size):=by
   intro k hk e
   rcases hlv k hk with rfl | rfl | rfl | ⟨hlk,hq⟩
   ·rw [hVf,hgf] at e;cases e;exact .inr (.inl ⟨rfl,rfl⟩)
   ·left
    rw [hVl] at e
    rcases hgl with e' | e'
    ·rw [e'] at e;cases e
    ·rw [e'] at e;cases e;exact ⟨rfl,rfl⟩
   ·rw [hVs] at e;cases e
   ·by_cases hkF:k=.fibers
    ·subst hkF
     rw [hVF] at e
     rcases hat with e' | e'
     ·exact absurd (by rw [← e',e]) (ho .fibers trivial)
     ·rw [e] at e';cases e';exact .inr (.inr ⟨rfl,rfl⟩)
    ·rw [hVold k hlk hkF] at e
     exact absurd e (ho k hlk)
  rcases hwhich k hk e with ⟨h1,h2⟩ | ⟨h1,h2⟩ | ⟨h1,h2⟩ <;> rcases hwhich k' hk' e' with ⟨h3,h4⟩ | ⟨h3,h4⟩ | ⟨h3,h4⟩ <;> first | omega | (rw [h1,h3])
theorem Zye {w:World} {base:Nat} {e:TypeId} {size:Nat} {oa:Option Addr} {n cap:Nat} {xs:List Value} (h:w.ownsRow base e size (.slice oa n cap) n xs):n≤cap:=by
 rcases h.2 with ⟨h1,h2⟩ | ⟨g,c,cur,h1,_,_,h2,_⟩
 ·omega
 ·simp only [Value.slice.injEq] at h1
  omega
theorem Xl {w:World} {base:Nat} {e:TypeId} {size:Nat} {v:Value} {n:Nat} {xs:List Value} (h:w.ownsRow base e size v n xs):∃ oa cap,v=.slice oa n cap∧(oa=none∧n=0∨∃ g,oa=some ⟨g,0,none⟩∧∀ j u,xs[j]?=some u→w.cell? ⟨g,j,none⟩=some u):=by
 rcases h.2 with ⟨rfl,rfl⟩ | ⟨g,cap,cur,rfl,hb,hg,hnc,hcm,hcs,htake⟩
 ·exact ⟨none,0,rfl,.inl ⟨rfl,rfl⟩⟩
 ·refine ⟨_,cap,rfl,.inr ⟨g,rfl,fun j u hu=>?_⟩⟩
  have:=h.cells (g:=g) rfl j u hu
  have hadd:(⟨g,0,none⟩:Addr).add j=⟨g,j,none⟩:=by unfold Addr.add;split <;> simp_all
  rwa [hadd] at this
theorem Zhd {w:World} {base:Nat} {v:Value} {l:List Int} (h:w.ownsRow base 3 1 v l.length (ints l)) (hl:l.length≤1000):Xm w v l:=by
 obtain ⟨oa,cap,rfl,h1⟩:=Xl h
 refine ⟨oa,cap,rfl,by omega,fun i z hz=>?_⟩
 have hi:i<l.length:=(List.getElem?_eq_some_iff.1 hz).1
 rcases h1 with ⟨_,h0⟩ | ⟨g,rfl,h1⟩
 ·omega
 ·exact ⟨g,0,rfl,by rw [Nat.zero_add];exact h1 i _ (by simp [ints,hz])⟩
theorem Zqd {s:St} {i:Nat} {b:Fb} (h:s.fibers[i]?=some b):i<s.fibers.length∧Zc s i=b:=by
 have hi:=(List.getElem?_eq_some_iff.1 h).1
 exact ⟨hi,by simp [Zc,List.getD,h]⟩
theorem Xaf {s:St} {i j:Nat} {f:Fr} (h:(Zc s i).frames[j]?=some f):j<(Zc s i).frames.length∧Ze s i j=f:=by
 have hi:=(List.getElem?_eq_some_iff.1 h).1
 exact ⟨hi,by simp [Ze,List.getD,h]⟩
theorem Own.reads {base:Nat} {w:World} {V:Key→Value} {s:St} (h:Own base w V s) (hs:Yc s):Xj w (.agg #[V .fibers,.int .i64 s.now,V .out]) s:=by
 refine ⟨_,_,rfl,?_,Zhd (h.piece .out trivial) hs.2.1⟩
 obtain ⟨xs,h1,h2⟩:=h.piece .fibers trivial
 obtain ⟨oa,cap,e,h3⟩:=Xl h1
 refine ⟨oa,cap,e,by have:=hs.1;omega,fun i b hb=>?_⟩
 obtain ⟨hi,hbe⟩:=Zqd hb
 rcases h3 with ⟨_,h0⟩ | ⟨g,rfl,h3⟩
 ·omega
 ·obtain ⟨q0,q1⟩:=h2 i hi
  refine ⟨g,0,V (.frames i),rfl,by rw [Nat.zero_add];exact h3 _ _ q0,by rw [Nat.zero_add];rw [hbe] at q1;exact h3 _ _ q1,?_⟩
  obtain ⟨ys,r1,r2⟩:=h.piece (.frames i) hi
  have hsb:=hs.2.2 b (List.mem_of_getElem? hb)
  obtain ⟨oa',cap',e',r3⟩:=Xl r1
  rw [hbe] at e' r3
  refine ⟨oa',cap',e',⟨by have:=hsb.1;omega,?_⟩,fun j f hf=>?_⟩
  ·rw [hbe,e'] at r1;exact Zye r1
  obtain ⟨hj,hfe⟩:=Xaf (s:=s) (i:=i) (by rw [hbe];exact hf)
  have hj':=hj
  rw [hbe] at hj'
  rcases r3 with ⟨_,h0⟩ | ⟨g',rfl,r3⟩
  ·omega
  ·obtain ⟨t0,t1,t2,t3⟩:=r2 j hj
   rw [hfe] at t0 t1
   have hl:=h.piece (.locals i j) ⟨hi,hj⟩
   have hk:=h.piece (.stack i j) ⟨hi,hj⟩
   simp only [Xp,hfe] at hl hk
   have hsf:=hsb.2 f (List.mem_of_getElem? hf)
   refine ⟨g',0,_,_,rfl,?_,?_,?_,?_,Zhd hl hsf.1,Zhd hk hsf.2⟩ <;> rw [Nat.zero_add] <;> exact r3 _ _ (by assumption)
theorem Zds (w:World) (v:Value) (t:TypeId):∀ j u,[v][j]?=some u→(w.alloc (.cells #[v] t)).cell? ((⟨w.heap.size,0,none⟩:Addr).add j)=some u:=cell_one_new w v t
theorem Zew (z:Int):∀ u,u∈[Value.int .i64 z]→u.oneCell'=true:=by
 intro u hu
 simp only [List.mem_cons,List.not_mem_nil,or_false] at hu
 subst hu
 rfl
theorem Zvv {w:World} {base:Nat} {e:TypeId} {size:Nat} {v:Value} {n:Nat} {xs:List Value} (h:w.ownsRow base e size v n xs):∀ r,v.ownBlock=some r→base≤r:=fun r hr=>(h.lt r hr).1
theorem Zgj {w w':World} {base:Nat} {e:TypeId} {size:Nat} {v:Value} {n:Nat} {xs:List Value} (h:w.ownsRow base e size v n xs) (k:Za w w'):w'.ownsRow base e size v n xs :=
 Jz h fun g hg=>k.block g (h.lt g hg).2
structure Zi (base:Nat) (w:World) (bs:Nat) (V:Key→Value) (s:St):Prop where
 var:w.heap[bs]?=some (.cells #[V .fibers,.int .i64 s.now,V .out] 26)
 own:Own base w V s
 off:Own.off V s bs
 low:base≤bs
theorem Zeb {l:List Int} {i:Nat} {z:Int} (h:l[i]?=some z):(ints l)[i]?=some (.int .i64 z):=by simp [ints,h]
theorem Zaw {w:World} {base:Nat} {e:TypeId} {size:Nat} {v:Value} {n:Nat} {xs:List Value} (h:w.ownsRow base e size v n xs) (hn:0<n) :
  ∃ g cap,v=.slice (some ⟨g,0,none⟩) n cap∧n≤cap∧(∀ j u,xs[j]?=some u→w.cell? ⟨g,j,none⟩=some u)∧(∀ j,w.frozen? ⟨g,j,none⟩=false)∧base≤g:=by
 rcases h.2 with ⟨_,h0⟩ | ⟨g,cap,cur,rfl,hb,hg,hnc,hcm,hcs,htake⟩
 ·omega
 ·refine ⟨g,cap,rfl,hnc,fun j u hu=>?_,fun j=>h.frozenAt j,hb⟩
  have hjl:j<n*size:=by rw [← h.1];exact (List.getElem?_eq_some_iff.1 hu).1
  rw [h.cellAt j hjl];exact hu
theorem Own.fib {base:Nat} {w:World} {V:Key→Value} {s:St} (h:Own base w V s) {i:Nat} (hi:i<s.fibers.length) :
  ∃ gF capF,V .fibers=.slice (some ⟨gF,0,none⟩) s.fibers.length capF∧s.fibers.length≤capF∧w.cell? ⟨gF,i*2,none⟩=some (V (.frames i))∧w.cell? ⟨gF,i*2+1,none⟩=some (.int .i64 (Zc s i).caller)∧(∀ j,w.frozen? ⟨gF,j,none⟩=false)∧base≤gF:=by
 obtain ⟨xs,h1,h2⟩:=h.piece .fibers trivial
 obtain ⟨g,cap,e,hc,hx,hf,hb⟩:=Zaw h1 (by omega)
 obtain ⟨q0,q1⟩:=h2 i hi
 exact ⟨g,cap,e,hc,hx _ _ q0,hx _ _ q1,hf,hb⟩
theorem Own.fr {base:Nat} {w:World} {V:Key→Value} {s:St} (h:Own base w V s) {i j:Nat} (hi:i<s.fibers.length) (hj:j<(Zc s i).frames.length) :
  ∃ g cap,V (.frames i)=.slice (some ⟨g,0,none⟩) (Zc s i).frames.length cap∧(Zc s i).frames.length≤cap∧w.cell? ⟨g,j*4,none⟩=some (.int .i64 (Ze s i j).fn)∧w.cell? ⟨g,j*4+1,none⟩=some (.int .i64 (Ze s i j).at_)∧w.cell? ⟨g,j*4+2,none⟩=some (V (.locals i j))∧w.cell? ⟨g,j*4+3,none⟩=some (V (.stack i j))∧(∀ t,w.frozen? ⟨g,t,none⟩=false)∧base≤g:=by
 obtain ⟨xs,h1,h2⟩:=h.piece (.frames i) hi
 obtain ⟨g,cap,e,hc,hx,hf,hb⟩:=Zaw h1 (by omega)
 obtain ⟨q0,q1,q2,q3⟩:=h2 j hj
 exact ⟨g,cap,e,hc,hx _ _ q0,hx _ _ q1,hx _ _ q2,hx _ _ q3,hf,hb⟩
theorem Own.stk {base:Nat} {w:World} {V:Key→Value} {s:St} (h:Own base w V s) {i j:Nat} (hi:i<s.fibers.length) (hj:j<(Zc s i).frames.length):w.ownsRow base 3 1 (V (.stack i j)) (Ze s i j).stack.length (ints (Ze s i j).stack):=h.piece (.stack i j) ⟨hi,hj⟩
theorem Own.loc {base:Nat} {w:World} {V:Key→Value} {s:St} (h:Own base w V s) {i j:Nat} (hi:i<s.fibers.length) (hj:j<(Zc s i).frames.length):w.ownsRow base 3 1 (V (.locals i j)) (Ze s i j).locals.length (ints (Ze s i j).locals):=h.piece (.locals i j) ⟨hi,hj⟩
theorem Zi.same {base bs:Nat} {w w':World} {V:Key→Value} {s:St} (h:Zi base w bs V s) (hh:w'.heap=w.heap):Zi base w' bs V s :=
 ⟨by rw [hh];exact h.var,h.own.same (fun k g _ _=>by rw [hh]),h.off,h.low⟩
theorem Zi.alloc {base bs:Nat} {w:World} {V:Key→Value} {s:St} (h:Zi base w bs V s) (o:Obj):Zi base (w.alloc o) bs V s :=
 ⟨by rw [Below.heap_alloc w o bs (lt_of_block h.var)];exact h.var,h.own.alloc o,h.off,h.low⟩
theorem Zi.cells {base bs:Nat} {w:World} {V:Key→Value} {s:St} (h:Zi base w bs V s):w.cell? ⟨bs,0,none⟩=some (V .fibers)∧w.cell? ⟨bs,1,none⟩=some (.int .i64 s.now)∧w.cell? ⟨bs,2,none⟩=some (V .out)∧∀ j,w.frozen? ⟨bs,j,none⟩=false:=by
 have hv:=h.var
 refine ⟨?_,?_,?_,fun j=>?_⟩ <;> simp [World.cell?,World.frozen?,hv]
theorem Zi.setNow {base bs:Nat} {w:World} {V:Key→Value} {s:St} (h:Zi base w bs V s) (n:Int):Zi base (w.setCell ⟨bs,1,none⟩ (.int .i64 n)) bs V { s with now:=n }:=by
 refine ⟨?_,(h.own.setOff (a:=⟨bs,1,none⟩) h.off _).now n,?_,h.low⟩
 ·have:=h.var
  simp [World.setCell,Array.getElem?_modify,this]
 ·intro k hk
  exact h.off k (by cases k using Key.by <;> exact hk)
theorem Zi.turn {base bs:Nat} {w w':World} {V V':Key→Value} {s s':St} (h:Zi base w bs V s) (ho:Own base w' V' s') (hb:w'.heap[bs]?=w.heap[bs]?) (hf:V' .fibers=V .fibers) (hout:V' .out=V .out) (hn:s'.now=s.now) (hoff:Own.off V' s' bs):Zi base w' bs V' s' :=
 ⟨by rw [hb,h.var,hf,hout,hn],ho,hoff,h.low⟩
theorem Zi.setCaller {base bs:Nat} {w:World} {V:Key→Value} {s:St} (h:Zi base w bs V s) {i g cap:Nat} (hi:i<s.fibers.length) (hV:V .fibers=.slice (some ⟨g,0,none⟩) s.fibers.length cap) (c:Int) :
  Zi base (w.setCell ⟨g,i*2+1,none⟩ (.int .i64 c)) bs V (Zg s i { Zc s i with caller:=c })∧Below base w (w.setCell ⟨g,i*2+1,none⟩ (.int .i64 c)):=by
 have hgb:(V .fibers).ownBlock=some g:=by rw [hV];rfl
 have hlv:∀ k,live (Zg s i { Zc s i with caller:=c }) k→live s k:=by
  have hfr:∀ j,(Zc (Zg s i { Zc s i with caller:=c }) j).frames=(Zc s j).frames:=fun j=>by
   by_cases e:i=j
   ·subst e;rw [Qa _ hi]
   ·rw [Qs _ e]
  intro k hk
  cases k using Key.by <;> simp only [live,Xb,hfr] at hk ⊢ <;> exact hk
 refine ⟨h.turn (h.own.setCaller hi hV c) (Below.heap_setCell _ _ _ _ (fun e=>h.off .fibers trivial (by rw [hgb];exact congrArg some e.symm))) rfl rfl rfl (fun k hk=>h.off k (hlv k hk)),Below.setCell (Below.refl _ w) ((h.own.piece .fibers trivial).block g hgb).1 _⟩
theorem Zi.setAt {base bs:Nat} {w:World} {V:Key→Value} {s:St} (h:Zi base w bs V s) {i j g cap:Nat} (hi:i<s.fibers.length) (hj:j<(Zc s i).frames.length) (hV:V (.frames i)=.slice (some ⟨g,0,none⟩) (Zc s i).frames.length cap) (a:Int) :
  Zi base (w.setCell ⟨g,j*4+1,none⟩ (.int .i64 a)) bs V (Qo s i j { Ze s i j with at_:=a })∧Below base w (w.setCell ⟨g,j*4+1,none⟩ (.int .i64 a)):=by
 have hgb:(V (.frames i)).ownBlock=some g:=by rw [hV];rfl
 have hown:=h.own.turnFrame (w1:=w) hi hj hV (V (.stack i j)) { Ze s i j with at_:=a } 1 (.int .i64 a) (by omega) (fun _ _ _=>rfl) (h.own.stk hi hj) (.inl rfl) rfl rfl rfl rfl rfl
 have hu:upd V (.stack i j) (V (.stack i j))=V:=by
  funext k
  by_cases e:k=.stack i j
  ·subst e;rw [Qd]
  ·rw [Zn V _ e]
 rw [hu] at hown
 exact ⟨h.turn hown (Below.heap_setCell _ _ _ _ (fun e=>h.off (.frames i) hi (by rw [hgb];exact congrArg some e.symm))) rfl rfl rfl (fun k hk=>h.off k ((Yu _ hi k).1 hk)),Below.setCell (Below.refl _ w) ((h.own.piece (.frames i) hi).block g hgb).1 _⟩
theorem Zi.setLocal {base bs:Nat} {w:World} {V:Key→Value} {s:St} (h:Zi base w bs V s) {i j g cap q:Nat} (hi:i<s.fibers.length) (hj:j<(Zc s i).frames.length) (hV:V (.locals i j)=.slice (some ⟨g,0,none⟩) (Ze s i j).locals.length cap) (z:Int) :
  Zi base (w.setCell ⟨g,q,none⟩ (.int .i64 z)) bs V (Qo s i j { Ze s i j with locals:=(Ze s i j).locals.set q z })∧Below base w (w.setCell ⟨g,q,none⟩ (.int .i64 z)):=by
 have hgb:(V (.locals i j)).ownBlock=some g:=by rw [hV];rfl
 exact ⟨h.turn (h.own.setLocal hi hj hV z) (Below.heap_setCell _ _ _ _ (fun e=>h.off (.locals i j) ⟨hi,hj⟩ (by rw [hgb];exact congrArg some e.symm))) rfl rfl rfl (fun k hk=>h.off k ((Yu _ hi k).1 hk)),Below.setCell (Below.refl _ w) ((h.own.piece (.locals i j) ⟨hi,hj⟩).block g hgb).1 _⟩
theorem Zi.dropFrame {base bs:Nat} {w:World} {V:Key→Value} {s:St} (h:Zi base w bs V s) {i gF capF g cap:Nat} (hi:i<s.fibers.length)
  (hF:V .fibers=.slice (some ⟨gF,0,none⟩) s.fibers.length capF) (hV:V (.frames i)=.slice (some ⟨g,0,none⟩) (Zc s i).frames.length cap) :
  Zi base (w.setCell ⟨gF,i*2,none⟩ (.slice (some ⟨g,0,none⟩) ((Zc s i).frames.length - 1) cap)) bs (upd V (.frames i) (.slice (some ⟨g,0,none⟩) ((Zc s i).frames.length - 1) cap)) (Zg s i { Zc s i with frames:=(Zc s i).frames.dropLast })∧Below base w (w.setCell ⟨gF,i*2,none⟩ (.slice (some ⟨g,0,none⟩) ((Zc s i).frames.length - 1) cap)):=by
 have hFb:(V .fibers).ownBlock=some gF:=by rw [hF];rfl
 have hgb:(V (.frames i)).ownBlock=some g:=by rw [hV];rfl
 refine ⟨h.turn (h.own.dropFrame hi hF hV) (Below.heap_setCell _ _ _ _ (fun e=>h.off .fibers trivial (by rw [hFb];exact congrArg some e.symm))) (Zn V _ (by simp)) (Zn V _ (by simp)) rfl (fun k hk e=>?_),Below.setCell (Below.refl _ w) ((h.own.piece .fibers trivial).block gF hFb).1 _⟩
 have hlv:live s k:=by
  have hfl:∀ t,(Zc (Zg s i { Zc s i with frames:=(Zc s i).frames.dropLast }) t).frames.length≤(Zc s t).frames.length:=fun t=>by
   by_cases e:i=t
   ·subst e;rw [Qa _ hi];simp
   ·rw [Qs _ e];exact Nat.le_refl _
  cases k using Key.by with
  | fibers=>trivial
  | out=>trivial
  | frames t=>simpa only [live,Xb] using hk
  | locals t q=>simp only [live,Xb] at hk ⊢;exact ⟨hk.1,Nat.lt_of_lt_of_le hk.2 (hfl t)⟩
  | stack t q=>simp only [live,Xb] at hk ⊢;exact ⟨hk.1,Nat.lt_of_lt_of_le hk.2 (hfl t)⟩
 by_cases hkf:k=.frames i
 ·subst hkf
  rw [Qd] at e
  exact h.off _ hlv (by rw [hgb];exact e)
 ·rw [Zn V _ hkf] at e
  exact h.off k hlv e
def namesB (x:Int × Int):Bool:=decide (x.1=11) || decide (x.1=13)
def targets (c:List (Int × Int)):List Nat:=(c.filter namesB).map fun x=>x.2.toNat
def Zw (p:List Fn) (g:Nat):List (Int × Int):=(p.getD g Fn.zero).code
def Zav (p:List Fn) (f k:Nat):Prop:=∀ S:Nat→Prop,S f→(∀ k j,k<p.length→S k→j∈targets (Zw p k)→S j)→S k
theorem Zav.step {p:List Fn} {f k j:Nat} (h:Zav p f k) (hk:k<p.length) (hj:j∈targets (Zw p k)):Zav p f j :=
 fun S h0 hs=>hs k j hk (h S h0 hs) hj
theorem Zav.trans {p:List Fn} {f g k:Nat} (h:Zav p f g) (h':Zav p g k):Zav p f k :=
 fun S h0 hs=>h' S (h S h0 hs) hs
def Pn (B B':List Bool):Prop:=B'.length=B.length∧∀ k,B.getD k false=true→B'.getD k false=true
theorem Pn.refl (B:List Bool):Pn B B:=⟨rfl,fun _ h=>h⟩
theorem Pn.trans {A B C:List Bool} (h:Pn A B) (k:Pn B C):Pn A C:=⟨k.1.trans h.1,fun i hi=>k.2 i (h.2 i hi)⟩
theorem Zwx (B:List Bool) (k i:Nat):(B.set k true).getD i false=true↔(i=k∧k<B.length)∨B.getD i false=true:=by
 simp only [List.getD,List.getElem?_set]
 by_cases h:k=i
 ·subst h
  by_cases hk:k<B.length
  ·simp [hk]
  ·simp [hk]
 ·simp [h,Ne.symm h]
theorem Pn.set (B:List Bool) (k:Nat):Pn B (B.set k true):=⟨by simp,fun i hi=>(Zwx B k i).2 (.inr hi)⟩
def Ui (B:List Bool):Nat:=(B.filter fun b=>!b).length
theorem Zkp:∀ (B:List Bool) (k:Nat),k<B.length→B.getD k false=false→Ui (B.set k true)+1=Ui B
 | [],k,h,_=>by simp at h
 | b :: B,0,_,h=>by
  simp at h
  subst h
  simp [Ui]
 | b :: B,k+1,hk,h=>by
  have ih:=Zkp B k (by simpa using hk) (by simpa using h)
  simp only [Ui,List.set_cons_succ,List.filter_cons] at ih ⊢
  cases b
  ·simp only [Bool.not_false,if_true,List.length_cons];omega
  ·simpa using ih
def Zbr (p:List Fn) (B B':List Bool):Prop :=
 Pn B B'∧∀ k j,B'.getD k false=true→B.getD k false=false→j∈targets (Zw p k)→B'.getD j false=true
theorem Zbr.refl (p:List Fn) (B:List Bool):Zbr p B B:=⟨.refl B,fun k j h h'=>by rw [h] at h';cases h'⟩
theorem Zbr.trans {p:List Fn} {A B C:List Bool} (h:Zbr p A B) (h':Zbr p B C):Zbr p A C :=
 ⟨h.1.trans h'.1,fun k j hC hA hj=>by
  cases hB:B.getD k false with
  | true=>exact h'.1.2 j (h.2 k j hB hA hj)
  | false=>exact h'.2 k j hC hB hj⟩
def Jb (e:Nat→Int):Nat→Nat→Int
 | _,0=>0
 | k,n+1=>if e k=0 then Jb e (k+1) n else e k
theorem Zci {e:Nat→Int}:∀ {n k:Nat},Jb e k n=0→∀ i,k≤i→i<k+n→e i=0
 | 0,_,_,i,h1,h2=>by omega
 | n+1,k,h,i,h1,h2=>by
  unfold Jb at h
  split at h
  ·rename_i h0
   rcases Nat.lt_or_eq_of_le h1 with h3 | rfl
   ·exact Zci h i h3 (by omega)
   ·exact h0
  ·rename_i h0;exact absurd h h0
theorem Zfd {e:Nat→Int} {k m:Nat} (h:k<m):Jb e k (m - k)=if e k=0 then Jb e (k+1) (m - (k+1)) else e k:=by
 obtain ⟨n,hn⟩:∃ n,m - k=n+1:=⟨m - k - 1,by omega⟩
 rw [hn,show m - (k+1)=n by omega]
 rfl
def Ye (p:List Fn) (k:Nat):Int:=match Qc p (Zw p k) with | some _=>0 | none=>1
def Xd (p:List Fn):Int :=
 if 5<p.length then 2 else if p.length=0 then 5 else if (p.getD 0 Fn.zero).args≠0 then 1
 else if Jb (fun k=>Xs p k) 0 p.length=0 then Jb (Ye p) 0 p.length else Jb (fun k=>Xs p k) 0 p.length
theorem Pt {p:List Fn} (h:Xd p=0):p.length≤5∧0<p.length∧∀ k,k<p.length→Xs p k=0:=by
 unfold Xd at h
 split at h
 ·cases h
 ·split at h
  ·cases h
  ·split at h
   ·cases h
   ·split at h
    ·rename_i h0
     exact ⟨by omega,by omega,fun k hk=>Zci h0 k (by omega) (by omega)⟩
    ·rename_i h0;exact absurd h h0
theorem Zge {p:List Fn} {k:Nat} (h:Xs p k=0):k<p.length∧(Zw p k).length≤24∧Wi p (p.getD k Fn.zero) (Zw p k)=0:=by
 unfold Xs at h
 split at h
 ·rename_i hk
  simp only [Int.toNat_natCast] at h
  split at h
  ·cases h
  ·split at h
   ·exact ⟨by omega,by unfold Zw;omega,h⟩
   ·cases h
 ·cases h
end Go.Proofs.YtblihfpigjiahaaDoor
