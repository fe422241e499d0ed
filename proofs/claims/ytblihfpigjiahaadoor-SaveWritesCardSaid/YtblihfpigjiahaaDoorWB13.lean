/- OwnB, OwnC, StateC -/
import Derived.Test.YtblihfpigjiahaaDoorWB12
set_option maxRecDepth 100000
set_option maxHeartbeats 8000000
namespace Go.Proofs.YtblihfpigjiahaaDoor
open Go.RowKit
theorem Own.setLocal {base:Nat} {w:World} {V:Key→Value} {s:St} (h:Own base w V s) {i j g cap q:Nat} (hi:i<s.fibers.length) (hj:j<(Zc s i).frames.length)
  (hV:V (.locals i j)=.slice (some ⟨g,0,none⟩) (Ze s i j).locals.length cap) (z:Int) :
  Own base (w.setCell ⟨g,q,none⟩ (.int .i64 z)) V (Qu s i j { Ze s i j with locals:=(Ze s i j).locals.set q z }):=by
 have hgb:(V (.locals i j)).ownBlock=some g:=by rw [hV];rfl
 have hlvL:live s (.locals i j):=⟨hi,hj⟩
 refine h.turned (fun k hk=>?_) (fun k b hk e=>.inl ⟨(We _ hi k).1 hk,e⟩) (fun k k' b hk _ ho e _=>absurd e (ho k ((We _ hi k).1 hk)))
 have hlk:=(We _ hi k).1 hk
 by_cases hkL:k=.locals i j
 ·subst hkL
  left
  have h1:w.ownsRow base 3 1 (V (.locals i j)) (Ze s i j).locals.length (ints (Ze s i j).locals):=h.piece _ hlvL
  rw [hV] at h1
  show World.ownsRow _ _ _ _ _ _ _
  rw [Uh _ hi hj,hV]
  have:=(h1.stored q (.int .i64 z)).1
  simpa [ints,List.map_set] using this
 ·right
  refine ⟨hlk,rfl,fun hp=>?_,fun b e=>Below.heap_setCell w _ _ b (fun e'=>hkL (h.apart k _ b hlk hlvL e (by rw [hgb,e'])))⟩
  cases k using Key.by with
  | fibers =>
   obtain ⟨xs,r1,r2⟩:=hp
   have hl:(Qu s i j { Ze s i j with locals:=(Ze s i j).locals.set q z }).fibers.length=s.fibers.length:=Xf _ _ _
   exact ⟨xs,by rw [hl];exact r1,fun t ht=>by rw [hl] at ht;rw [Zbe _ hi];exact r2 t ht⟩
  | out=>exact hp
  | frames t =>
   obtain ⟨xs,r1,r2⟩:=hp
   refine ⟨xs,by rw [Pc _ hi];exact r1,fun q' hq=>?_⟩
   rw [Pc _ hi] at hq
   by_cases e:i=t∧j=q'
   ·obtain ⟨rfl,rfl⟩:=e
    rw [Uh _ hi hj]
    exact r2 _ hq
   ·rw [Pm _ hi e];exact r2 q' hq
  | locals t q' =>
   simp only [Xs] at hp ⊢
   rw [Pm _ hi (fun h=>hkL (by rw [h.1,h.2]))]
   exact hp
  | stack t q' =>
   simp only [Xs] at hp ⊢
   by_cases e:i=t∧j=q'
   ·obtain ⟨rfl,rfl⟩:=e
    rw [Uh _ hi hj];exact hp
   ·rw [Pm _ hi e];exact hp
theorem Zef {α:Type} (l r:List α) (i:Nat) (d:α) (h:i<l.length):(l++r).getD i d=l.getD i d:=by simp [List.getD,List.getElem?_append_left h]
theorem Zed {α:Type} (l:List α) (x d:α):(l++[x]).getD l.length d=x:=by simp [List.getD]
theorem Own.dropFrame {base:Nat} {w:World} {V:Key→Value} {s:St} (h:Own base w V s) {i gF capF g cap:Nat} (hi:i<s.fibers.length)
  (hF:V .fibers=.slice (some ⟨gF,0,none⟩) s.fibers.length capF) (hV:V (.frames i)=.slice (some ⟨g,0,none⟩) (Zc s i).frames.length cap) :
  Own base (w.setCell ⟨gF,i*2,none⟩ (.slice (some ⟨g,0,none⟩) ((Zc s i).frames.length - 1) cap)) (upd V (.frames i) (.slice (some ⟨g,0,none⟩) ((Zc s i).frames.length - 1) cap)) (Zh s i { Zc s i with frames:=(Zc s i).frames.dropLast }):=by
 have hgb:(V (.frames i)).ownBlock=some g:=by rw [hV];rfl
 have hFb:(V .fibers).ownBlock=some gF:=by rw [hF];rfl
 have hlvF:live s (.frames i):=hi
 have hlen:=Xf s i { Zc s i with frames:=(Zc s i).frames.dropLast }
 have hfl:∀ t,(Zc (Zh s i { Zc s i with frames:=(Zc s i).frames.dropLast }) t).frames.length≤(Zc s t).frames.length:=fun t=>by
  by_cases e:i=t
  ·subst e;rw [Qg _ hi];simp
  ·rw [Jb _ e];exact Nat.le_refl _
 have hfa:∀ t q,q<(Zc (Zh s i { Zc s i with frames:=(Zc s i).frames.dropLast }) t).frames.length→Ze (Zh s i { Zc s i with frames:=(Zc s i).frames.dropLast }) t q=Ze s t q:=fun t q hq=>by
  unfold Ze
  by_cases e:i=t
  ·subst e
   rw [Qg _ hi] at hq ⊢
   simp at hq
   have hq':q<(Zc s i).frames.length:=by omega
   simp [List.getD,hq,hq']
  ·rw [Jb _ e]
 have hca:∀ t,(Zc (Zh s i { Zc s i with frames:=(Zc s i).frames.dropLast }) t).caller=(Zc s t).caller:=fun t=>by
  by_cases e:i=t
  ·subst e;rw [Qg _ hi]
  ·rw [Jb _ e]
 have hlv:∀ k,live (Zh s i { Zc s i with frames:=(Zc s i).frames.dropLast }) k→live s k:=by
  intro k hk
  cases k using Key.by with
  | fibers=>trivial
  | out=>trivial
  | frames t=>simpa only [live,hlen] using hk
  | locals t q=>simp only [live,hlen] at hk ⊢;exact ⟨hk.1,Nat.lt_of_lt_of_le hk.2 (hfl t)⟩
  | stack t q=>simp only [live,hlen] at hk ⊢;exact ⟨hk.1,Nat.lt_of_lt_of_le hk.2 (hfl t)⟩
 have hbk:∀ k,(upd V (.frames i) (.slice (some ⟨g,0,none⟩) ((Zc s i).frames.length - 1) cap) k).ownBlock=(V k).ownBlock:=by
  intro k
  by_cases e:k=.frames i
  ·subst e;rw [Qk,hgb];rfl
  ·rw [Zp V _ e]
 refine h.turned (fun k hk=>?_) (fun k b hk e=>.inl ⟨hlv k hk,by rw [← hbk];exact e⟩) (fun k k' b hk _ ho e _=>absurd (by rw [← hbk];exact e) (ho k (hlv k hk)))
 have hlk:=hlv k hk
 by_cases hkF:k=.fibers
 ·subst hkF
  left
  obtain ⟨xs,h1,h2⟩:=h.piece .fibers trivial
  rw [hF] at h1
  refine ⟨xs.set (i*2) (.slice (some ⟨g,0,none⟩) ((Zc s i).frames.length - 1) cap),?_,fun t ht=>?_⟩
  ·rw [Zp V _ (by simp),hF,hlen];exact (h1.stored _ _).1
  ·rw [hlen] at ht
   obtain ⟨h3,h4⟩:=h2 t ht
   have hx:i*2<xs.length:=by rw [h1.1];omega
   refine ⟨?_,by rw [List.getElem?_set,if_neg (by omega),hca];exact h4⟩
   by_cases e:i=t
   ·subst e;rw [List.getElem?_set,if_pos rfl,if_pos hx,Qk]
   ·rw [List.getElem?_set,if_neg (by omega),Zp V _ (by simp;exact fun h=>e h.symm)];exact h3
 ·have hgg:g≠gF:=fun e=>by have:=h.apart _ .fibers g hlvF trivial hgb (by rw [hFb,e]);cases this
  by_cases hkf:k=.frames i
  ·subst hkf
   left
   obtain ⟨xs,h1,h2⟩:=h.piece _ hlvF
   rw [hV] at h1
   have hnl:((Zc s i).frames.dropLast).length=(Zc s i).frames.length - 1:=by simp
   refine ⟨xs.take (((Zc s i).frames.length - 1)*4),?_,fun t ht=>?_⟩
   ·rw [Qk,Qg _ hi]
    simp only [hnl]
    refine ownsRow_setCell_other ?_ (by simp [Value.ownBlock,hgg]) _
    refine ⟨by rw [List.length_take,h1.1];omega,?_⟩
    rcases h1.2 with ⟨h',_⟩ | ⟨g',cap',cur,h',hb,hgh,hnc,hcm,hcs,htake⟩
    ·simp at h'
    ·simp only [Value.slice.injEq,Option.some.injEq,Addr.mk.injEq,and_true,true_and] at h'
     obtain ⟨rfl,rfl⟩:=h'
     refine .inr ⟨g,cap,cur,rfl,hb,hgh,by omega,hcm,hcs,?_⟩
     rw [← htake,List.take_take,Nat.min_eq_left (by omega)]
   ·rw [hfa i t ht]
    rw [Qg _ hi] at ht
    simp only [hnl] at ht
    obtain ⟨q0,q1,q2,q3⟩:=h2 t (by omega)
    rw [Zp V _ (by simp),Zp V _ (by simp)]
    refine ⟨?_,?_,?_,?_⟩ <;> rw [List.getElem?_take,if_pos (by omega)] <;> assumption
  ·right
   refine ⟨hlk,Zp V _ hkf,fun hp=>?_,fun b e=>Below.heap_setCell w _ _ b (fun e'=>hkF (h.apart k _ b hlk trivial e (by rw [hFb,e'])))⟩
   cases k using Key.by with
   | fibers=>exact absurd rfl hkF
   | out=>simp only [Xs] at hp ⊢;rw [Zp V _ (by simp)];exact hp
   | frames t =>
    have hne:i≠t:=fun e=>hkf (by rw [e])
    obtain ⟨xs,r1,r2⟩:=hp
    refine ⟨xs,by rw [Jb _ hne,Zp V _ (by simp;exact fun h=>hne h.symm)];exact r1,fun q hq=>?_⟩
    rw [hfa t q hq]
    rw [Jb _ hne] at hq
    rw [Zp V _ (by simp),Zp V _ (by simp)]
    exact r2 q hq
   | locals t q=>simp only [Xs] at hp ⊢;rw [Zp V _ (by simp),hfa t q hk.2];exact hp
   | stack t q=>simp only [Xs] at hp ⊢;rw [Zp V _ (by simp),hfa t q hk.2];exact hp
theorem Own.addFrame {base:Nat} {w w1:World} {V:Key→Value} {s:St} (h:Own base w V s) {i gF capF:Nat} (hi:i<s.fibers.length)
  (hF:V .fibers=.slice (some ⟨gF,0,none⟩) s.fibers.length capF) (f:Fr) (vl vf:Value) (hst:f.stack=[]) {gl:Nat} (hgl:vl.ownBlock=none∨vl.ownBlock=some gl) (hoff:Own.off V s gl) (hlt:gl<w.heap.size)
  (hloc:w1.ownsRow base 3 1 vl f.locals.length (ints f.locals))
  (hgrow:∀ b,b<w.heap.size→(V (.frames i)).ownBlock≠some b→w1.heap[b]?=w.heap[b]?)
  (hown:∀ xs,w.ownsRow base 53 4 (V (.frames i)) (Zc s i).frames.length xs→w1.ownsRow base 53 4 vf ((Zc s i).frames.length+1) (xs++[.int .i64 f.fn,.int .i64 f.at_,vl,.slice none 0 0]))
  (hat:vf.ownBlock=(V (.frames i)).ownBlock∨vf.ownBlock=some w.heap.size) :
  Own base (w1.setCell ⟨gF,i*2,none⟩ vf) (upd (upd (upd V (.frames i) vf) (.locals i (Zc s i).frames.length) vl) (.stack i (Zc s i).frames.length) (.slice none 0 0)) (Zh s i { Zc s i with frames:=(Zc s i).frames++[f] }):=by
 generalize hn:(Zc s i).frames.length=n at *
 have hFb:(V .fibers).ownBlock=some gF:=by rw [hF];rfl
 have hlvF:live s (.frames i):=hi
 have hlen:=Xf s i { Zc s i with frames:=(Zc s i).frames++[f] }
 have hfrn:(V (.frames i)).ownBlock≠some gF:=fun e=>by have:=h.apart _ .fibers _ hlvF trivial e hFb;cases this
 have hgFw:gF<w.heap.size:=((h.piece .fibers trivial).block gF hFb).2
 have hvfF:vf.ownBlock≠some gF:=by
  rcases hat with e | e
  ·rw [e];exact hfrn
  ·rw [e];intro e';cases e';omega
 have hvlF:vl.ownBlock≠some gF:=by
  rcases hgl with e | e
  ·rw [e];simp
  ·rw [e];intro e';cases e';exact hoff .fibers trivial hFb
 have hfs:Zc (Zh s i { Zc s i with frames:=(Zc s i).frames++[f] }) i={ Zc s i with frames:=(Zc s i).frames++[f] }:=Qg _ hi
 have hfn:∀ t,i≠t→Zc (Zh s i { Zc s i with frames:=(Zc s i).frames++[f] }) t=Zc s t:=fun t e=>Jb _ e
 have hold:∀ t q,(i=t→q<n)→Ze (Zh s i { Zc s i with frames:=(Zc s i).frames++[f] }) t q=Ze s t q:=fun t q hq=>by
  unfold Ze
  by_cases e:i=t
  ·subst e;rw [hfs];exact Zef _ _ _ _ (by rw [hn];exact hq rfl)
  ·rw [hfn t e]
 have hnew:Ze (Zh s i { Zc s i with frames:=(Zc s i).frames++[f] }) i n=f:=by
  unfold Ze;rw [hfs,← hn];exact Zed _ _ _
 have hlv:∀ k,live (Zh s i { Zc s i with frames:=(Zc s i).frames++[f] }) k→k=.locals i n∨k=.stack i n∨(live s k∧∀ t q,(k=.locals t q∨k=.stack t q)→i=t→q<n):=by
  intro k hk
  cases k using Key.by with
  | fibers=>exact .inr (.inr ⟨trivial,fun t q h=>by simp at h⟩)
  | out=>exact .inr (.inr ⟨trivial,fun t q h=>by simp at h⟩)
  | frames t=>exact .inr (.inr ⟨by simpa only [live,hlen] using hk,fun t q h=>by simp at h⟩)
  | locals t q =>
   simp only [live,hlen] at hk
   by_cases e:i=t
   ·subst e
    rw [hfs] at hk
    simp only [List.length_append,List.length_cons,List.length_nil,hn] at hk
    by_cases e:q=n
    ·left;rw [e]
    ·exact .inr (.inr ⟨⟨hi,by omega⟩,fun t' q' h _=>by simp at h;omega⟩)
   ·rw [hfn t e] at hk
    exact .inr (.inr ⟨hk,fun t' q' h e'=>by simp at h;omega⟩)
  | stack t q =>
   simp only [live,hlen] at hk
   by_cases e:i=t
   ·subst e
    rw [hfs] at hk
    simp only [List.length_append,List.length_cons,List.length_nil,hn] at hk
    by_cases e:q=n
    ·right;left;rw [e]
    ·exact .inr (.inr ⟨⟨hi,by omega⟩,fun t' q' h _=>by simp at h;omega⟩)
   ·rw [hfn t e] at hk
    exact .inr (.inr ⟨hk,fun t' q' h e'=>by simp at h;omega⟩)
 have hdead1:¬ live s (.locals i n):=fun hh=>by have:=hh.2;omega
 have hdead2:¬ live s (.stack i n):=fun hh=>by have:=hh.2;omega
 have hVold:∀ k,live s k→k≠.frames i→upd (upd (upd V (.frames i) vf) (.locals i n) vl) (.stack i n) (.slice none 0 0) k=V k:=fun k hk e=>by
  rw [Zp _ _ (fun (e:k=.stack i n)=>hdead2 (e ▸ hk)),Zp _ _ (fun (e:k=.locals i n)=>hdead1 (e ▸ hk)),Zp _ _ e]
 have hVf:upd (upd (upd V (.frames i) vf) (.locals i n) vl) (.stack i n) (.slice none 0 0) (.frames i)=vf:=by
  rw [Zp _ _ (by simp),Zp _ _ (by simp),Qk]
 have hVl:upd (upd (upd V (.frames i) vf) (.locals i n) vl) (.stack i n) (.slice none 0 0) (.locals i n)=vl:=by
  rw [Zp _ _ (by simp),Qk]
 have hVs:upd (upd (upd V (.frames i) vf) (.locals i n) vl) (.stack i n) (.slice none 0 0) (.stack i n)=.slice none 0 0:=Qk _ _ _
 generalize upd (upd (upd V (.frames i) vf) (.locals i n) vl) (.stack i n) (.slice none 0 0)=V' at *
 refine h.turned (fun k hk=>?_) (fun k b hk e=>?_) (fun k k' b hk hk' ho e e'=>?_)
 ·rcases hlv k hk with rfl | rfl | ⟨hlk,hq⟩
  ·left
   show World.ownsRow _ _ _ _ _ _ _
   rw [hVl,hnew]
   exact ownsRow_setCell_other hloc hvlF _
  ·left
   show World.ownsRow _ _ _ _ _ _ _
   rw [hVs,hnew,hst]
   exact World.ownsRow_nil _ _ _ _
  ·by_cases hkF:k=.fibers
   ·subst hkF
    left
    obtain ⟨xs,h1,h2⟩:=h.piece .fibers trivial
    rw [hF] at h1
    have h1':w1.ownsRow base 46 2 (.slice (some ⟨gF,0,none⟩) s.fibers.length capF) s.fibers.length xs:=Jl h1 (fun b e=>by cases e;exact hgrow gF hgFw hfrn)
    refine ⟨xs.set (i*2) vf,?_,fun t ht=>?_⟩
    ·rw [hVold .fibers trivial (by simp),hF,hlen];exact (h1'.stored _ _).1
    ·rw [hlen] at ht
     obtain ⟨h3,h4⟩:=h2 t ht
     have hx:i*2<xs.length:=by rw [h1.1];omega
     by_cases e:i=t
     ·subst e
      refine ⟨by rw [List.getElem?_set,if_pos rfl,if_pos hx,hVf],?_⟩
      rw [List.getElem?_set,if_neg (by omega),hfs]
      exact h4
     ·refine ⟨by rw [List.getElem?_set,if_neg (by omega),hVold (.frames t) ht (by simp;exact fun h=>e h.symm)];exact h3,?_⟩
      rw [List.getElem?_set,if_neg (by omega),hfn t e]
      exact h4
   ·by_cases hkf:k=.frames i
    ·subst hkf
     left
     obtain ⟨xs,h1,h2⟩:=h.piece _ hlvF
     rw [hn] at h1 h2
     have h1':=hown xs h1
     refine ⟨_,by rw [hVf,hfs];simp only [List.length_append,List.length_cons,List.length_nil,hn];exact ownsRow_setCell_other h1' hvfF _,fun t ht=>?_⟩
     rw [hfs] at ht
     simp only [List.length_append,List.length_cons,List.length_nil,hn] at ht
     have hxl:xs.length=n*4:=h1.1
     by_cases e:t=n
     ·subst e
      rw [hnew,hVl,hVs]
      refine ⟨?_,?_,?_,?_⟩ <;> rw [List.getElem?_append_right (by omega),hxl]
      ·rw [show t*4 - t*4=0 by omega];rfl
      ·rw [show t*4+1 - t*4=1 by omega];rfl
      ·rw [show t*4+2 - t*4=2 by omega];rfl
      ·rw [show t*4+3 - t*4=3 by omega];rfl
     ·have htn:t<n:=by omega
      obtain ⟨q0,q1,q2,q3⟩:=h2 t htn
      rw [hold i t (fun _=>htn),hVold (.locals i t) ⟨hi,by omega⟩ (by simp),hVold (.stack i t) ⟨hi,by omega⟩ (by simp)]
      refine ⟨?_,?_,?_,?_⟩ <;> rw [List.getElem?_append_left (by omega)] <;> assumption
    ·right
     refine ⟨hlk,hVold k hlk hkf,fun hp=>?_,fun b e=>?_⟩
     ·cases k using Key.by with
      | fibers=>exact absurd rfl hkF
      | out=>simp only [Xs] at hp ⊢;rw [hVold .out trivial (by simp)];exact hp
      | frames t =>
       have hne:i≠t:=fun e=>hkf (by rw [e])
       obtain ⟨xs,r1,r2⟩:=hp
       refine ⟨xs,by rw [hfn t hne,hVold _ hlk hkf];exact r1,fun q hq'=>?_⟩
       rw [hfn t hne] at hq'
       rw [hold t q (fun e=>absurd e hne),hVold (.locals t q) ⟨hlk,hq'⟩ (by simp),hVold (.stack t q) ⟨hlk,hq'⟩ (by simp)]
       exact r2 q hq'
      | locals t q=>simp only [Xs] at hp ⊢;rw [hVold _ hlk (by simp),hold t q (hq t q (.inl rfl))];exact hp
      | stack t q=>simp only [Xs] at hp ⊢;rw [hVold _ hlk (by simp),hold t q (hq t q (.inr rfl))];exact hp
     ·rw [Below.heap_setCell w1 _ _ b (fun e'=>hkF (h.apart k _ b hlk trivial e (by rw [hFb,e'])))]
      exact hgrow b ((h.piece k hlk).block b e).2 (fun e'=>hkf (h.apart k _ b hlk hlvF e e'))
 ·rcases hlv k hk with rfl | rfl | ⟨hlk,hq⟩
  ·right
   rw [hVl] at e
   rcases hgl with e' | e'
   ·rw [e'] at e;cases e
   ·rw [e'] at e;cases e;exact hoff
  ·rw [hVs] at e;cases e
  ·by_cases hkf:k=.frames i
   ·subst hkf
    rw [hVf] at e
    rcases hat with e' | e'
    ·exact .inl ⟨hlk,by rw [← e',e]⟩
    ·rw [e] at e';cases e'
     exact .inr (h.new_off (.inl (Nat.le_refl _)))
   ·rw [hVold k hlk hkf] at e
    exact .inl ⟨hlk,e⟩
 ·have hwhich:∀ k,live (Zh s i { Zc s i with frames:=(Zc s i).frames++[f] }) k→(V' k).ownBlock=some b→(k=.locals i n∧b=gl)∨(k=.frames i∧b=w.heap.size):=by
   intro k hk e
   rcases hlv k hk with rfl | rfl | ⟨hlk,hq⟩
   ·left
    rw [hVl] at e
    rcases hgl with e' | e'
    ·rw [e'] at e;cases e
    ·rw [e'] at e;cases e;exact ⟨rfl,rfl⟩
   ·rw [hVs] at e;cases e
   ·by_cases hkf:k=.frames i
    ·subst hkf
     right
     rw [hVf] at e
     rcases hat with e' | e'
     ·exact absurd (by rw [← e',e]) (ho (.frames i) hlk)
     ·rw [e] at e';cases e';exact ⟨rfl,rfl⟩
    ·rw [hVold k hlk hkf] at e
     exact absurd e (ho k hlk)
  rcases hwhich k hk e with ⟨h1,h2⟩ | ⟨h1,h2⟩ <;> rcases hwhich k' hk' e' with ⟨h3,h4⟩ | ⟨h3,h4⟩
  ·rw [h1,h3]
  ·omega
  ·omega
  ·rw [h1,h3]
theorem Own.turnOut {base:Nat} {w w1:World} {V:Key→Value} {s:St} (h:Own base w V s) (l:List Int) (vo:Value) (hown:w1.ownsRow base 3 1 vo l.length (ints l))
  (hgrow:∀ b,b<w.heap.size→(V .out).ownBlock≠some b→w1.heap[b]?=w.heap[b]?) (hat:vo.ownBlock=(V .out).ownBlock∨vo.ownBlock=some w.heap.size):Own base w1 (upd V .out vo) { s with out:=l }:=by
 have hlv:∀ k,live { s with out:=l } k↔live s k:=fun k=>by cases k using Key.by <;> exact Iff.rfl
 refine h.turned (fun k hk=>?_) (fun k b hk e=>?_) (fun k k' b hk hk' ho e e'=>?_)
 ·have hlk:=(hlv k).1 hk
  by_cases hko:k=.out
  ·subst hko;left
   show World.ownsRow _ _ _ _ _ _ _
   rw [Qk];exact hown
  ·right
   refine ⟨hlk,Zp V vo hko,fun hp=>?_,fun b e=>hgrow b ((h.piece k hlk).block b e).2 (fun e'=>hko (h.apart k .out b hlk trivial e e'))⟩
   cases k using Key.by with
   | fibers =>
    obtain ⟨xs,r1,r2⟩:=hp
    exact ⟨xs,by rw [Zp V vo hko];exact r1,fun i hi=>by rw [Zp V vo (by simp)];exact r2 i hi⟩
   | out=>exact absurd rfl hko
   | frames i =>
    obtain ⟨xs,r1,r2⟩:=hp
    exact ⟨xs,by rw [Zp V vo hko];exact r1,fun j hj=>by rw [Zp V vo (by simp),Zp V vo (by simp)];exact r2 j hj⟩
   | locals i j=>simp only [Xs] at hp ⊢;rw [Zp V vo hko];exact hp
   | stack i j=>simp only [Xs] at hp ⊢;rw [Zp V vo hko];exact hp
 ·have hlk:=(hlv k).1 hk
  by_cases hko:k=.out
  ·subst hko
   rw [Qk] at e
   rcases hat with e' | e'
   ·exact .inl ⟨hlk,by rw [← e',e]⟩
   ·rw [e] at e';cases e';exact .inr (h.new_off (.inl (Nat.le_refl _)))
  ·rw [Zp V vo hko] at e;exact .inl ⟨hlk,e⟩
 ·by_cases hko:k=.out
  ·by_cases hko':k'=.out
   ·rw [hko,hko']
   ·rw [Zp V vo hko'] at e';exact absurd e' (ho k' ((hlv k').1 hk'))
  ·rw [Zp V vo hko] at e;exact absurd e (ho k ((hlv k).1 hk))
theorem Own.addFiber {base:Nat} {w w1:World} {V:Key→Value} {s:St} (h:Own base w V s) (f:Fr) (c:Int) (vl vf vF:Value) (hst:f.stack=[]) {gl gf:Nat} (hgl:vl.ownBlock=none∨vl.ownBlock=some gl) (hgf:vf.ownBlock=some gf) (hne:gl≠gf)
  (hoff:Own.off V s gl) (hoff':Own.off V s gf) (hlt:gl<w.heap.size) (hlt':gf<w.heap.size)
  (hloc:w1.ownsRow base 3 1 vl f.locals.length (ints f.locals)) (hfr:w1.ownsRow base 53 4 vf 1 [.int .i64 f.fn,.int .i64 f.at_,vl,.slice none 0 0])
  (hgrow:∀ b,b<w.heap.size→(V .fibers).ownBlock≠some b→w1.heap[b]?=w.heap[b]?)
  (hown:∀ xs,w.ownsRow base 46 2 (V .fibers) s.fibers.length xs→w1.ownsRow base 46 2 vF (s.fibers.length+1) (xs++[vf,.int .i64 c]))
  (hat:vF.ownBlock=(V .fibers).ownBlock∨vF.ownBlock=some w.heap.size) :
  Own base w1 (upd (upd (upd (upd V .fibers vF) (.frames s.fibers.length) vf) (.locals s.fibers.length 0) vl) (.stack s.fibers.length 0) (.slice none 0 0)) { s with fibers:=s.fibers++[⟨[f],c⟩] }:=by
 generalize hn:s.fibers.length=n at *
 have hlen:({ s with fibers:=s.fibers++[⟨[f],c⟩] }:St).fibers.length=n+1:=by simp [hn]
 have hfo:∀ t,t<n→Zc { s with fibers:=s.fibers++[⟨[f],c⟩] } t=Zc s t:=fun t ht=>Zef _ _ _ _ (by rw [hn];exact ht)
 have hfn:Zc { s with fibers:=s.fibers++[⟨[f],c⟩] } n=⟨[f],c⟩:=by rw [← hn];exact Zed _ _ _
 have hfrn:Ze { s with fibers:=s.fibers++[⟨[f],c⟩] } n 0=f:=by unfold Ze;rw [hfn];rfl
 have hfro:∀ t q,t<n→Ze { s with fibers:=s.fibers++[⟨[f],c⟩] } t q=Ze s t q:=fun t q ht=>by unfold Ze;rw [hfo t ht]
 have hlv:∀ k,live { s with fibers:=s.fibers++[⟨[f],c⟩] } k→k=.frames n∨k=.locals n 0∨k=.stack n 0∨(live s k∧∀ t q,(k=.frames t∨k=.locals t q∨k=.stack t q)→t<n):=by
  intro k hk
  cases k using Key.by with
  | fibers=>exact .inr (.inr (.inr ⟨trivial,fun t q h=>by simp at h⟩))
  | out=>exact .inr (.inr (.inr ⟨trivial,fun t q h=>by simp at h⟩))
  | frames t =>
   simp only [live,hlen] at hk
   by_cases e:t=n
   ·left;rw [e]
   ·exact .inr (.inr (.inr ⟨by show t<s.fibers.length;omega,fun t' q h=>by simp at h;omega⟩))
  | locals t q =>
   simp only [live,hlen] at hk
   by_cases e:t=n
   ·subst e;rw [hfn] at hk;simp at hk
    right;left;rw [hk]
   ·rw [hfo t (by omega)] at hk
    exact .inr (.inr (.inr ⟨⟨by omega,hk.2⟩,fun t' q h=>by simp at h;omega⟩))
  | stack t q =>
   simp only [live,hlen] at hk
   by_cases e:t=n
   ·subst e;rw [hfn] at hk;simp at hk
    right;right;left;rw [hk]
   ·rw [hfo t (by omega)] at hk
    exact .inr (.inr (.inr ⟨⟨by omega,hk.2⟩,fun t' q h=>by simp at h;omega⟩))
 have hd0:¬ live s (.frames n):=fun hh=>by have:n<s.fibers.length:=hh;omega
 have hd1:¬ live s (.locals n 0):=fun hh=>by have:=hh.1;omega
 have hd2:¬ live s (.stack n 0):=fun hh=>by have:=hh.1;omega
 have hVold:∀ k,live s k→k≠.fibers→upd (upd (upd (upd V .fibers vF) (.frames n) vf) (.locals n 0) vl) (.stack n 0) (.slice none 0 0) k=V k:=fun k hk e=>by
  rw [Zp _ _ (fun (e:k=.stack n 0)=>hd2 (e ▸ hk)),Zp _ _ (fun (e:k=.locals n 0)=>hd1 (e ▸ hk)),Zp _ _ (fun (e:k=.frames n)=>hd0 (e ▸ hk)),Zp _ _ e]
 have hVF:upd (upd (upd (upd V .fibers vF) (.frames n) vf) (.locals n 0) vl) (.stack n 0) (.slice none 0 0) .fibers=vF:=by
  rw [Zp _ _ (by simp),Zp _ _ (by simp),Zp _ _ (by simp),Qk]
 have hVf:upd (upd (upd (upd V .fibers vF) (.frames n) vf) (.locals n 0) vl) (.stack n 0) (.slice none 0 0) (.frames n)=vf:=by
  rw [Zp _ _ (by simp),Zp _ _ (by simp),Qk]
 have hVl:upd (upd (upd (upd V .fibers vF) (.frames n) vf) (.locals n 0) vl) (.stack n 0) (.slice none 0 0) (.locals n 0)=vl:=by
  rw [Zp _ _ (by simp),Qk]
 have hVs:upd (upd (upd (upd V .fibers vF) (.frames n) vf) (.locals n 0) vl) (.stack n 0) (.slice none 0 0) (.stack n 0)=.slice none 0 0:=Qk _ _ _
 generalize upd (upd (upd (upd V .fibers vF) (.frames n) vf) (.locals n 0) vl) (.stack n 0) (.slice none 0 0)=V' at *
 refine h.turned (fun k hk=>?_) (fun k b hk e=>?_) (fun k k' b hk hk' ho e e'=>?_)
 ·rcases hlv k hk with rfl | rfl | rfl | ⟨hlk,hq⟩
  ·left
   refine ⟨_,by rw [hVf,hfn];exact hfr,fun j hj=>?_⟩
   rw [hfn] at hj
   simp at hj
   subst hj
   rw [hfrn,hVl,hVs]
   exact ⟨rfl,rfl,rfl,rfl⟩
  ·left
   show World.ownsRow _ _ _ _ _ _ _
   rw [hVl,hfrn];exact hloc
  ·left
   show World.ownsRow _ _ _ _ _ _ _
   rw [hVs,hfrn,hst];exact World.ownsRow_nil _ _ _ _
  ·by_cases hkF:k=.fibers
   ·subst hkF;left
    obtain ⟨xs,h1,h2⟩:=h.piece .fibers trivial
    rw [hn] at h1 h2
    refine ⟨_,by rw [hVF,hlen];exact hown xs h1,fun t ht=>?_⟩
    rw [hlen] at ht
    have hxl:xs.length=n*2:=h1.1
    by_cases e:t=n
    ·subst e
     rw [hVf,hfn]
     refine ⟨?_,?_⟩ <;> rw [List.getElem?_append_right (by omega),hxl]
     ·rw [show t*2 - t*2=0 by omega];rfl
     ·rw [show t*2+1 - t*2=1 by omega];rfl
    ·have htn:t<n:=by omega
     obtain ⟨q0,q1⟩:=h2 t htn
     rw [hVold (.frames t) (by show t<s.fibers.length;omega) (by simp),hfo t htn]
     refine ⟨?_,?_⟩ <;> rw [List.getElem?_append_left (by omega)] <;> assumption
   ·right
    refine ⟨hlk,hVold k hlk hkF,fun hp=>?_,fun b e=>hgrow b ((h.piece k hlk).block b e).2 (fun e'=>hkF (h.apart k .fibers b hlk trivial e e'))⟩
    cases k using Key.by with
    | fibers=>exact absurd rfl hkF
    | out=>simp only [Xs] at hp ⊢;rw [hVold _ hlk hkF];exact hp
    | frames t =>
     have htn:=hq t 0 (.inl rfl)
     obtain ⟨xs,r1,r2⟩:=hp
     refine ⟨xs,by rw [hfo t htn,hVold _ hlk hkF];exact r1,fun q hq'=>?_⟩
     rw [hfo t htn] at hq'
     rw [hfro t q htn,hVold (.locals t q) ⟨hlk,hq'⟩ (by simp),hVold (.stack t q) ⟨hlk,hq'⟩ (by simp)]
     exact r2 q hq'
    | locals t q=>simp only [Xs] at hp ⊢;rw [hVold _ hlk hkF,hfro t q (hq t q (.inr (.inl rfl)))];exact hp
    | stack t q=>simp only [Xs] at hp ⊢;rw [hVold _ hlk hkF,hfro t q (hq t q (.inr (.inr rfl)))];exact hp
 ·rcases hlv k hk with rfl | rfl | rfl | ⟨hlk,hq⟩
  ·right;rw [hVf,hgf] at e;cases e;exact hoff'
  ·right
   rw [hVl] at e
   rcases hgl with e' | e'
   ·rw [e'] at e;cases e
   ·rw [e'] at e;cases e;exact hoff
  ·rw [hVs] at e;cases e
  ·by_cases hkF:k=.fibers
   ·subst hkF
    rw [hVF] at e
    rcases hat with e' | e'
    ·exact .inl ⟨trivial,by rw [← e',e]⟩
    ·rw [e] at e';cases e';exact .inr (h.new_off (.inl (Nat.le_refl _)))
   ·rw [hVold k hlk hkF] at e;exact .inl ⟨hlk,e⟩
 ·have hwhich:∀ k,live { s with fibers:=s.fibers++[⟨[f],c⟩] } k→(V' k).ownBlock=some b→(k=.locals n 0∧b=gl)∨(k=.frames n∧b=gf)∨(k=.fibers∧b=w.heap.size):=by
   intro k hk e
   rcases hlv k hk with rfl | rfl | rfl | ⟨hlk,hq⟩
   ·rw [hVf,hgf] at e;cases e;exact .inr (.inl ⟨rfl,rfl⟩)
   ·left
    rw [hVl] at e
    rcases hgl with e' | e'
    ·rw [e'] at e;cases e
    ·rw [e'] at e;cases e;exact ⟨rfl,rfl⟩
   ·rw [hVs] at e;cases e
   ·by_cases hkF:k=.fibers
    ·subst hkF
     rw [hVF] at e
     rcases hat with e' | e'
     ·exact absurd (by rw [← e',e]) (ho .fibers trivial)
     ·rw [e] at e';cases e';exact .inr (.inr ⟨rfl,rfl⟩)
    ·rw [hVold k hlk hkF] at e
     exact absurd e (ho k hlk)
  rcases hwhich k hk e with ⟨h1,h2⟩ | ⟨h1,h2⟩ | ⟨h1,h2⟩ <;> rcases hwhich k' hk' e' with ⟨h3,h4⟩ | ⟨h3,h4⟩ | ⟨h3,h4⟩ <;> first | omega | (rw [h1,h3])
theorem Zzc {w:World} {base:Nat} {e:TypeId} {size:Nat} {oa:Option Addr} {n cap:Nat} {xs:List Value} (h:w.ownsRow base e size (.slice oa n cap) n xs):n≤cap:=by
 rcases h.2 with ⟨h1,h2⟩ | ⟨g,c,cur,h1,_,_,h2,_⟩
 ·omega
 ·simp only [Value.slice.injEq] at h1
  omega
theorem Xq {w:World} {base:Nat} {e:TypeId} {size:Nat} {v:Value} {n:Nat} {xs:List Value} (h:w.ownsRow base e size v n xs):∃ oa cap,v=.slice oa n cap∧(oa=none∧n=0∨∃ g,oa=some ⟨g,0,none⟩∧∀ j u,xs[j]?=some u→w.cell? ⟨g,j,none⟩=some u):=by
 rcases h.2 with ⟨rfl,rfl⟩ | ⟨g,cap,cur,rfl,hb,hg,hnc,hcm,hcs,htake⟩
 ·exact ⟨none,0,rfl,.inl ⟨rfl,rfl⟩⟩
 ·refine ⟨_,cap,rfl,.inr ⟨g,rfl,fun j u hu=>?_⟩⟩
  have:=h.cells (g:=g) rfl j u hu
  have hadd:(⟨g,0,none⟩:Addr).add j=⟨g,j,none⟩:=by unfold Addr.add;split <;> simp_all
  rwa [hadd] at this
theorem Zix {w:World} {base:Nat} {v:Value} {l:List Int} (h:w.ownsRow base 3 1 v l.length (ints l)) (hl:l.length≤1000):Xn w v l:=by
 obtain ⟨oa,cap,rfl,h1⟩:=Xq h
 refine ⟨oa,cap,rfl,by omega,fun i z hz=>?_⟩
 have hi:i<l.length:=(List.getElem?_eq_some_iff.1 hz).1
 rcases h1 with ⟨_,h0⟩ | ⟨g,rfl,h1⟩
 ·omega
 ·exact ⟨g,0,rfl,by rw [Nat.zero_add];exact h1 i _ (by simp [ints,hz])⟩
theorem Zpb {s:St} {i:Nat} {b:Fb} (h:s.fibers[i]?=some b):i<s.fibers.length∧Zc s i=b:=by
 have hi:=(List.getElem?_eq_some_iff.1 h).1
 exact ⟨hi,by simp [Zc,List.getD,h]⟩
theorem Ztx {s:St} {i j:Nat} {f:Fr} (h:(Zc s i).frames[j]?=some f):j<(Zc s i).frames.length∧Ze s i j=f:=by
 have hi:=(List.getElem?_eq_some_iff.1 h).1
 exact ⟨hi,by simp [Ze,List.getD,h]⟩
theorem Own.reads {base:Nat} {w:World} {V:Key→Value} {s:St} (h:Own base w V s) (hs:Yi s):Zy w (.agg #[V .fibers,.int .i64 s.now,V .out]) s:=by
 refine ⟨_,_,rfl,?_,Zix (h.piece .out trivial) hs.2.1⟩
 obtain ⟨xs,h1,h2⟩:=h.piece .fibers trivial
 obtain ⟨oa,cap,e,h3⟩:=Xq h1
 refine ⟨oa,cap,e,by have:=hs.1;omega,fun i b hb=>?_⟩
 obtain ⟨hi,hbe⟩:=Zpb hb
 rcases h3 with ⟨_,h0⟩ | ⟨g,rfl,h3⟩
 ·omega
 ·obtain ⟨q0,q1⟩:=h2 i hi
  refine ⟨g,0,V (.frames i),rfl,by rw [Nat.zero_add];exact h3 _ _ q0,by rw [Nat.zero_add];rw [hbe] at q1;exact h3 _ _ q1,?_⟩
  obtain ⟨ys,r1,r2⟩:=h.piece (.frames i) hi
  have hsb:=hs.2.2 b (List.mem_of_getElem? hb)
  obtain ⟨oa',cap',e',r3⟩:=Xq r1
  rw [hbe] at e' r3
  refine ⟨oa',cap',e',⟨by have:=hsb.1;omega,?_⟩,fun j f hf=>?_⟩
  ·rw [hbe,e'] at r1;exact Zzc r1
  obtain ⟨hj,hfe⟩:=Ztx (s:=s) (i:=i) (by rw [hbe];exact hf)
  have hj':=hj
  rw [hbe] at hj'
  rcases r3 with ⟨_,h0⟩ | ⟨g',rfl,r3⟩
  ·omega
  ·obtain ⟨t0,t1,t2,t3⟩:=r2 j hj
   rw [hfe] at t0 t1
   have hl:=h.piece (.locals i j) ⟨hi,hj⟩
   have hk:=h.piece (.stack i j) ⟨hi,hj⟩
   simp only [Xs,hfe] at hl hk
   have hsf:=hsb.2 f (List.mem_of_getElem? hf)
   refine ⟨g',0,_,_,rfl,?_,?_,?_,?_,Zix hl hsf.1,Zix hk hsf.2⟩ <;> rw [Nat.zero_add] <;> exact r3 _ _ (by assumption)
theorem Zft (w:World) (v:Value) (t:TypeId):∀ j u,[v][j]?=some u→(w.alloc (.cells #[v] t)).cell? ((⟨w.heap.size,0,none⟩:Addr).add j)=some u:=cell_one_new w v t
theorem Zff (z:Int):∀ u,u∈[Value.int .i64 z]→u.oneCell'=true:=by
 intro u hu
 simp only [List.mem_cons,List.not_mem_nil,or_false] at hu
 subst hu
 rfl
theorem Zwj {w:World} {base:Nat} {e:TypeId} {size:Nat} {v:Value} {n:Nat} {xs:List Value} (h:w.ownsRow base e size v n xs):∀ r,v.ownBlock=some r→base≤r:=fun r hr=>(h.lt r hr).1
theorem Zij {w w':World} {base:Nat} {e:TypeId} {size:Nat} {v:Value} {n:Nat} {xs:List Value} (h:w.ownsRow base e size v n xs) (k:Zb w w'):w'.ownsRow base e size v n xs :=
 Jl h fun g hg=>k.block g (h.lt g hg).2
structure Zi (base:Nat) (w:World) (bs:Nat) (V:Key→Value) (s:St):Prop where
 var:w.heap[bs]?=some (.cells #[V .fibers,.int .i64 s.now,V .out] 26)
 own:Own base w V s
 off:Own.off V s bs
 low:base≤bs
theorem Zes {l:List Int} {i:Nat} {z:Int} (h:l[i]?=some z):(ints l)[i]?=some (.int .i64 z):=by simp [ints,h]
theorem Zdc (l:List Int) (v:Value) (n:Int) (w:World) (h1:Qo w v l) :
  Calls Tryd.prog 18 #[v,.int .i64 n] w fun e w'=>e=.returned (.bool (decide (n∈l)))∧Zb w w':=by
 obtain ⟨oa,ca,rfl,n1,i1⟩:=h1
 have HI1:=Za i1
 clear i1
 go_enter Tryd.func18,Tryd.ntmps18
 go_wp2
 go_loopw [5] (fun s5 wr=>∃ k:Nat,k≤l.length∧s5=.int .i64 k∧Hid (∀ i,i<k→l.getD i 0≠n)∧Hid (Zb w wr)) (fun s5 _=>l.length - (intOf s5).toNat)
 case atStart=>exact ⟨0,Nat.zero_le _,rfl,(fun i hi=>by omega),Zb.refl _⟩
 case round =>
  obtain ⟨k,hkm,rfl,HA,HKr⟩:=hrel
  by_cases hlt:k<l.length
  ·obtain ⟨b1,o1,e1,c1⟩:=(un HI1) k _ (Zq l k 0 hlt)
   have d1:=(un HKr).cell c1
   generalize hz1:l.getD k 0=z1 at *
   have Z1:=Za hz1
   subst e1
   clear c1 hz1
   by_cases hz:z1=n
   ·have hzb:(z1 == n)=true:=by rw [beq_iff_eq];exact hz
    have HZ:=Za hz
    clear hz
    go_wp2
    go_ret
    refine ⟨?_,un HKr⟩
    rw [decide_eq_true]
    ·rfl
    ·rw [← un HZ,← un Z1]
     exact List.mem_of_getElem? (Zq l k 0 hlt)
   ·have hzb:(z1 == n)=false:=by rw [beq_eq_false_iff_ne];exact hz
    have HZ:=Za hz
    clear hz
    go_wp2
    go_roundw
    case rel =>
     refine ⟨k+1,by omega,by go_num,?_,HKr⟩
     intro i hi
     by_cases e:i=k
     ·subst e;rw [un Z1];exact un HZ
     ·exact (un HA) i (by omega)
    case measure=>simp [intOf];omega
  ·go_wp2
   go_ret
   refine ⟨?_,un HKr⟩
   rw [decide_eq_false]
   ·rfl
   ·intro hm
    obtain ⟨i,hi,rfl⟩:=List.getElem_of_mem hm
    exact (un HA) i (by omega) (by simp [List.getD,hi])
def Zgr (s:St) (w:World) (e:Ending) (w':World):Prop :=
 ∃ v b,e=.returned (.tuple #[v,.bool b])∧Zb w w'∧(match Qj s with | none=>b=false | some l=>b=true∧Qo w' v l)
def Zkt:Value→Nat | .slice _ n _=>n | _=>0
theorem Zsx (fs:List Fb) (k:Nat) (n:Int) (acc:List Int) (h0:¬ n<0) (h:n ∉ acc):Xz fs (k+1) n acc=Xz fs k (Xt fs n) (acc++[n]):=by
 conv=>lhs;unfold Xz
 rw [if_neg h0,if_neg h]
theorem Zjw (s:St) (v:Value) (w:World) (hs:Zy w v s) (hnow:-1≤s.now∧s.now<s.fibers.length) (hcal:∀ b,b∈s.fibers→-1≤b.caller∧b.caller<s.fibers.length) (hlen:s.fibers.length≤1000) :
  Calls Tryd.prog 16 #[v] w fun e w'=>Zgr s w e w':=by
 obtain ⟨vf,vo,rfl,hf,ho⟩:=hs
 obtain ⟨oa,cap,rfl,_,hcell⟩:=hf
 obtain ⟨i0,hi0,hz0,hz1,hz2⟩:=info_parts Zaw
 have HC:=Za hcell
 have HCAL:=Za hcal
 have HNOW:=Za hnow
 clear hcell hcal ho
 generalize hN:s.fibers.length=N at *
 have HN:=Za hN
 clear hN
 obtain ⟨hnow1,hnow2⟩:=hnow
 go_enter Tryd.func16,Tryd.ntmps16
 go_wp2
 generalize hw0:w.alloc (.cells #[.slice oa N cap,.int .i64 s.now,vo] 26)=w0 at *
 have c0:w0.cell? ⟨w.heap.size,0,none⟩=some (.slice oa N cap):=by rw [← hw0];simp
 have hk0:Zb w w0:=by rw [← hw0];exact (Zb.refl w).alloc _
 have HK0:=Za hk0
 have C0:=Za c0
 clear hw0 c0 hk0
 go_loopw [4,5] (fun s4 s5 wr=>∃ (n:Int) (acc:List Int) (k:Nat),s5=.int .i64 n∧-1≤n∧n<N∧k+acc.length=N+1∧Hid (wr.ownsRow w0.heap.size 3 1 s4 acc.length (ints acc))∧Hid (acc.Nodup)∧Hid (∀ z,z∈acc→0≤z∧z<N)∧Hid (Xz s.fibers k n acc=Xz s.fibers (N+1) s.now [])∧Hid (Zb w0 wr)) (fun s4 _ _=>N+1 - Zkt s4)
 case atStart=>exact ⟨s.now,[],N+1,rfl,hnow1,hnow2,by simp,World.ownsRow_nil _ _ _ _,List.nodup_nil,(fun z hz=>by cases hz),rfl,Zb.refl _⟩
 case round =>
  obtain ⟨n,acc,k,rfl,hn0,hn1,hka,HO,HND,HIN,HL,HK⟩:=hrel
  have hfew:=few (un HND) (un HIN)
  have hfw:acc.length≤N:=hfew
  have hk1:∃ k',k=k'+1:=⟨k - 1,by omega⟩
  obtain ⟨k',rfl⟩:=hk1
  obtain ⟨os,cs,rfl,hrow⟩:=Xq (un HO)
  have HR:=Za hrow
  clear hrow hfew
  by_cases hpos:0≤n
  ·have HPOS:=Za hpos
   go_wp2
   go_loopw [6] (fun s6 wq=>∃ q:Nat,q≤acc.length∧s6=.int .i64 q∧Hid (∀ i,i<q→acc.getD i 0≠n)∧Hid (wr=wq)) (fun s6 _=>acc.length - (intOf s6).toNat)
   case atStart=>exact ⟨0,Nat.zero_le _,rfl,(fun i hi=>by omega),rfl⟩
   case round =>
    obtain ⟨q,hqm,rfl,HA,HW⟩:=hrel
    have hwq:=un HW
    subst hwq
    clear HW
    by_cases hlt:q<acc.length
    ·obtain ⟨g,rfl,hc⟩:=(un HR).resolve_left (fun h=>by have:=h.2;omega)
     have hcq:=hc q (.int .i64 (acc.getD q 0)) (Zes (Zq acc q 0 hlt))
     have HZI:=Za (Zq acc q 0 hlt)
     clear hc
     generalize hz1:acc.getD q 0=z at *
     have Z1:=Za hz1
     clear hz1
     by_cases hz:z=n
     ·have hzb:(z == n)=true:=by rw [beq_iff_eq];exact hz
      have HZ:=Za hz
      clear hz
      go_wp2
      go_ret2
      refine ⟨_,_,rfl,(un HK0).trans (un HK),?_⟩
      have hin:n∈acc:=by rw [← un HZ];exact List.mem_of_getElem? (un HZI)
      have hno:Xz s.fibers (k'+1) n acc=none:=by
       unfold Xz;rw [if_neg (by have:=un HPOS;omega),if_pos hin]
      have hls:Qj s=none:=by
       unfold Qj;rw [un HN,← un HL,hno]
      rw [hls]
     ·have hzb:(z == n)=false:=by rw [beq_eq_false_iff_ne];exact hz
      have HZ:=Za hz
      clear hz
      go_wp2
      go_roundw
      case rel =>
       refine ⟨q+1,by omega,by go_num,?_,trivial⟩
       intro i hi
       by_cases e:i=q
       ·subst e;rw [un Z1];exact un HZ
       ·exact (un HA) i (by omega)
      case measure=>simp [intOf];omega
    ·have hna:n ∉ acc:=by
      intro hm
      obtain ⟨i,hi,rfl⟩:=List.getElem_of_mem hm
      exact (un HA) i (by omega) (by simp [List.getD,hi])
     have hni:n.toNat<s.fibers.length:=by have:=un HN;omega
     obtain ⟨bf,of,vfr,e1,k0,k1,_⟩:=(un HC) n.toNat _ (Zq s.fibers n.toNat Fb.zero hni)
     have hcr:=(un HCAL) _ (List.mem_of_getElem? (Zq s.fibers n.toNat Fb.zero hni))
     have hst:=Zsx s.fibers k' n acc (by omega) hna
     have hce:(s.fibers.getD n.toNat Fb.zero).caller=Xt s.fibers n:=rfl
     rw [hce] at k1 hcr
     generalize Xt s.fibers n=m at *
     have HST:=Za hst
     have HNA:=Za hna
     have K1:=Za k1
     obtain ⟨m1,m2⟩:=hcr
     clear hst hna k0 k1 hce HR HA HCAL HC
     subst e1
     have hown:=un HO
     have hbase:=(un HK).size
     go_wp2_with (at_builtin;refine wpList_append_own _ rfl _ _ 24 rfl w0.heap.size 3 i0 (.int .i64 0) 1 8 Tryd.underlying24 hi0 hz0 hz1 hz2 rfl (by decide) _ _ _ rfl (hown.alloc _) ⟨wr.heap.size,0,none⟩ 1 1 [.int .i64 n] rfl rfl (Zft _ _ _) (Zff _) (by unfold maxLen;omega) (by omega) (by simp;omega) ?_;intro v' w7 hown' hgrow _;have hk7:Zb w0 w7:=Below.grown ((un HK).alloc _) hgrow (by simp;omega) (Zwj hown);have HK7:=Za hk7;have HO7:=Za hown';have cb:=hk7.cell (un C0);have cc:=hk7.cell ((un HK0).cell (un K1));clear hk7 hown' hgrow hown K1)
     go_roundw
     case rel =>
      refine ⟨m,acc++[n],k',rfl,m1,m2,by simp;omega,?_,?_,?_,?_,HK7⟩
      ·show World.ownsRow _ _ _ _ _ _ _
       rw [Zdm,List.length_append]
       exact un HO7
      ·show List.Nodup _
       rw [List.nodup_append]
       refine ⟨un HND,by simp,?_⟩
       intro a ha b hb e
       simp at hb
       subst hb e
       exact (un HNA) ha
      ·intro z hz
       rcases List.mem_append.1 hz with hz | hz
       ·exact (un HIN) z hz
       ·simp at hz;subst hz;exact ⟨by omega,hn1⟩
      ·exact (un HST).symm.trans (un HL)
     case measure =>
      obtain ⟨o7,c7,e7,_⟩:=Xq (un HO7)
      subst e7
      simp [Zkt]
      omega
  ·have hls:Xz s.fibers (N+1) s.now []=some acc:=by
    rw [← un HL]
    unfold Xz
    rw [if_pos (by omega)]
   have HLS:=Za hls
   clear hls
   by_cases hz:acc=[]
   ·subst hz
    have hzb:(((0:Nat):Int) == 0)=true:=rfl
    go_wp2
    go_quiet (fail)
    go_wp2
    go_ret2
    refine ⟨_,_,rfl,((un HK0).trans (un HK)).drewN _,?_⟩
    have:Qj s=some []:=by
     unfold Qj;rw [un HN,un HLS];rfl
    rw [this]
    exact ⟨rfl,os,cs,rfl,by simp,fun i z h=>by simp at h⟩
   ·have hpos:0<acc.length:=List.length_pos_iff.2 hz
    obtain ⟨g,rfl,hc⟩:=(un HR).resolve_left (fun h=>by have:=h.2;omega)
    have hlt:acc.length - 1<acc.length:=by omega
    have hcq:=hc (acc.length - 1) (.int .i64 (acc.getD (acc.length - 1) 0)) (Zes (Zq acc _ 0 hlt))
    have hla:acc.getLast?=some (acc.getD (acc.length - 1) 0):=by
     rw [List.getLast?_eq_getElem?];exact Zq acc _ 0 hlt
    have HLA:=Za hla
    have HZ0:=Za hz
    have hia:Qo wr (.slice (some ⟨g,0,none⟩) acc.length cs) acc:=⟨_,cs,rfl,by omega,fun i z hz=>⟨g,0,rfl,by rw [Nat.zero_add];exact hc i _ (Zes hz)⟩⟩
    have HIA:=Za hia
    have hlb:((acc.length:Int) == 0)=false:=by rw [beq_eq_false_iff_ne];omega
    clear hla hz hc hia
    generalize hzz:acc.getD (acc.length - 1) 0=z at *
    clear hzz
    generalize hml:acc.length=m at *
    have HML:=Za hml
    clear hml
    by_cases hz:z=0
    ·subst hz
     have hzb:((0:Int) == 0)=true:=rfl
     go_wp2
     go_quiet (fail)
     go_wp2
     go_ret2
     refine ⟨_,_,rfl,((un HK0).trans (un HK)).drewN _,?_⟩
     have:Qj s=some acc:=by
      unfold Qj;rw [un HN,un HLS]
      simp only
      rw [if_pos (.inr (un HLA))]
     rw [this]
     exact ⟨rfl,(un HIA).kept ((Zb.refl _).drewN _)⟩
    ·have hzb:(z == 0)=false:=by rw [beq_eq_false_iff_ne];exact hz
     have HZ:=Za hz
     clear hz
     go_wp2
     go_quiet (fail)
     go_wp2
     go_ret2
     refine ⟨_,_,rfl,((un HK0).trans (un HK)).drewN _,?_⟩
     have:Qj s=none:=by
      unfold Qj;rw [un HN,un HLS]
      simp only
      rw [if_neg]
      rintro (h | h)
      ·exact (un HZ0) h
      ·rw [un HLA] at h;exact (un HZ) (by simpa using h)
     rw [this]
end Go.Proofs.YtblihfpigjiahaaDoor
