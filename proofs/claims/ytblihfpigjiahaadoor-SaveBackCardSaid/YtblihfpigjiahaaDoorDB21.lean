/- OwnK, CloneA, CloneB, CloneC, CloneD, CloneE, CloneF, CloneG, StateL -/
import Derived.Test.YtblihfpigjiahaaDoorDB12
import Derived.Test.YtblihfpigjiahaaDoorDB16
import Derived.Test.YtblihfpigjiahaaDoorDB15
import Derived.Laws.Cover3
import Derived.Test.YtblihfpigjiahaaDoorDB13
set_option maxRecDepth 100000
set_option maxHeartbeats 8000000
namespace Go.Proofs.YtblihfpigjiahaaDoor
open Go.RowKit
structure Xq (K:Key→Prop) (base:Nat) (w:World) (V:Key→Value) (s:St):Prop where
 piece:∀ k,K k→Xp base w V s k
 apart:∀ k k' g,K k→K k'→(V k).ownBlock=some g→(V k').ownBlock=some g→k=k'
theorem Zdm {w:World} {base base':Nat} {e:TypeId} {size:Nat} {v:Value} {n:Nat} {xs:List Value} (h:w.ownsRow base' e size v n xs) (hb:base≤base'):w.ownsRow base e size v n xs:=by
 refine ⟨h.1,?_⟩
 rcases h.2 with hn | ⟨g,cap,cur,rfl,hg,rest⟩
 ·exact .inl hn
 ·exact .inr ⟨g,cap,cur,rfl,Nat.le_trans hb hg,rest⟩
theorem Xp.low {base base':Nat} {w:World} {V:Key→Value} {s:St} {k:Key} (h:Xp base' w V s k) (hb:base≤base'):Xp base w V s k:=by
 cases k using Key.by with
 | fibers=>obtain ⟨xs,h1,h2⟩:=h;exact ⟨xs,Zdm h1 hb,h2⟩
 | out=>exact Zdm h hb
 | frames i=>obtain ⟨xs,h1,h2⟩:=h;exact ⟨xs,Zdm h1 hb,h2⟩
 | locals i j=>exact Zdm h hb
 | stack i j=>exact Zdm h hb
def Zdn:Key→Key→Prop
 | none,some (some (.inl _))=>True
 | some (some (.inl i)),some (some (.inr (.inl (i',_))))=>i'=i
 | some (some (.inl i)),some (some (.inr (.inr (i',_))))=>i'=i
 | _,_=>False
theorem Xp.congr {base:Nat} {w:World} {V V':Key→Value} {s:St} {k:Key} (h:Xp base w V s k) (h0:V' k=V k) (hc:∀ k',Zdn k k'→V' k'=V k'):Xp base w V' s k:=by
 cases k using Key.by with
 | fibers =>
  obtain ⟨xs,h1,h2⟩:=h
  exact ⟨xs,by rw [h0];exact h1,fun i hi=>by rw [hc (.frames i) trivial];exact h2 i hi⟩
 | out=>show World.ownsRow _ _ _ _ _ _ _;rw [h0];exact h
 | frames i =>
  obtain ⟨xs,h1,h2⟩:=h
  exact ⟨xs,by rw [h0];exact h1,fun j hj=>by rw [hc (.locals i j) rfl,hc (.stack i j) rfl];exact h2 j hj⟩
 | locals i j=>show World.ownsRow _ _ _ _ _ _ _;rw [h0];exact h
 | stack i j=>show World.ownsRow _ _ _ _ _ _ _;rw [h0];exact h
section
variable {K K':Key→Prop} {base:Nat} {w w1 w2:World} {V V1 V2:Key→Value} {s:St} {p:Key} {g:Nat}
theorem Xq.same (h:Xq K base w V s) (hs:∀ k b,K k→(V k).ownBlock=some b→w2.heap[b]?=w.heap[b]?):Xq K base w2 V s :=
 ⟨fun k hk=>(h.piece k hk).same (fun b hb=>hs k b hk hb),h.apart⟩
theorem Xq.kept (h:Xq K base w V s) (hk:Za w w2):Xq K base w2 V s :=
 h.same fun k b hK hb=>hk.block b ((h.piece k hK).block b hb).2
theorem Xq.sub (h:Xq K base w V s) (hs:∀ k,K' k→K k):Xq K' base w V s :=
 ⟨fun k hk=>h.piece k (hs k hk),fun k k' b hk hk'=>h.apart k k' b (hs k hk) (hs k' hk')⟩
theorem Xq.into (h:Xq K base w V s) (hb:base≤w.heap.size) (hk:Za w w1) (h1:Xq K' w.heap.size w1 V1 s)
  (hp:K p) (hpg:(V p).ownBlock=some g) (h2:∀ b,b≠g→w2.heap[b]?=w1.heap[b]?) (e1:∀ k,K k→V2 k=V k) (e2:∀ k,K' k→V2 k=V1 k)
  (c1:∀ k k',K k→k≠p→Zdn k k'→V2 k'=V k') (c2:∀ k k',K' k→Zdn k k'→V2 k'=V1 k') (hpp:Xp base w2 V2 s p) :
  Xq (fun k=>K k∨K' k) base w2 V2 s:=by
 have hg:=((h.piece p hp).block g hpg).2
 refine ⟨fun k hkk=>?_,fun k k' b hk1 hk2 b1 b2=>?_⟩
 ·rcases hkk with hK | hK
  ·by_cases e:k=p
   ·rw [e];exact hpp
   ·refine ((h.piece k hK).congr (e1 k hK) (fun k' hc=>c1 k k' hK e hc)).same (fun b hbb=>?_)
    rw [e1 k hK] at hbb
    have hlt:=((h.piece k hK).block b hbb).2
    have hne:b≠g:=fun e'=>e (h.apart k p b hK hp hbb (by rw [hpg,e']))
    rw [h2 b hne,hk.block b hlt]
  ·refine (((h1.piece k hK).congr (e2 k hK) (fun k' hc=>c2 k k' hK hc)).low hb).same (fun b hbb=>?_)
   rw [e2 k hK] at hbb
   have hge:=((h1.piece k hK).block b hbb).1
   exact h2 b (by omega)
 ·rcases hk1 with hK1 | hK1 <;> rcases hk2 with hK2 | hK2
  ·rw [e1 k hK1] at b1;rw [e1 k' hK2] at b2;exact h.apart k k' b hK1 hK2 b1 b2
  ·rw [e1 k hK1] at b1;rw [e2 k' hK2] at b2
   have:=((h.piece k hK1).block b b1).2
   have:=((h1.piece k' hK2).block b b2).1
   omega
  ·rw [e2 k hK1] at b1;rw [e1 k' hK2] at b2
   have:=((h.piece k' hK2).block b b2).2
   have:=((h1.piece k hK1).block b b1).1
   omega
  ·rw [e2 k hK1] at b1;rw [e2 k' hK2] at b2;exact h1.apart k k' b hK1 hK2 b1 b2
theorem Xq.beside (h:Xq K base w V s) (hb:base≤w.heap.size) (hk:Za w w1) (h1:Xq K' w.heap.size w1 V1 s) (e1:∀ k,K k→V2 k=V k) (e2:∀ k,K' k→V2 k=V1 k)
  (c1:∀ k k',K k→Zdn k k'→V2 k'=V k') (c2:∀ k k',K' k→Zdn k k'→V2 k'=V1 k'):Xq (fun k=>K k∨K' k) base w1 V2 s:=by
 refine ⟨fun k hkk=>?_,fun k k' b hk1 hk2 b1 b2=>?_⟩
 ·rcases hkk with hK | hK
  ·refine ((h.piece k hK).congr (e1 k hK) (fun k' hc=>c1 k k' hK hc)).same (fun b hbb=>?_)
   rw [e1 k hK] at hbb
   exact hk.block b ((h.piece k hK).block b hbb).2
  ·exact ((h1.piece k hK).congr (e2 k hK) (fun k' hc=>c2 k k' hK hc)).low hb
 ·rcases hk1 with hK1 | hK1 <;> rcases hk2 with hK2 | hK2
  ·rw [e1 k hK1] at b1;rw [e1 k' hK2] at b2;exact h.apart k k' b hK1 hK2 b1 b2
  ·rw [e1 k hK1] at b1;rw [e2 k' hK2] at b2
   have:=((h.piece k hK1).block b b1).2
   have:=((h1.piece k' hK2).block b b2).1
   omega
  ·rw [e2 k hK1] at b1;rw [e1 k' hK2] at b2
   have:=((h.piece k' hK2).block b b2).2
   have:=((h1.piece k hK1).block b b1).1
   omega
  ·rw [e2 k hK1] at b1;rw [e2 k' hK2] at b2;exact h1.apart k k' b hK1 hK2 b1 b2
end
def FK (t n:Nat):Key→Prop
 | some (some (.inl i))=>i=t
 | some (some (.inr (.inl (i,j))))=>i=t∧j<n
 | some (some (.inr (.inr (i,j))))=>i=t∧j<n
 | _=>False
def RK (t j:Nat):Key→Prop
 | some (some (.inr (.inl (i,q))))=>i=t∧q=j
 | some (some (.inr (.inr (i,q))))=>i=t∧q=j
 | _=>False
def LK (s:St) (n:Nat):Key→Prop
 | none=>True
 | some none=>False
 | some (some (.inl i))=>i<n
 | some (some (.inr (.inl (i,j))))=>i<n∧j<(Zc s i).frames.length
 | some (some (.inr (.inr (i,j))))=>i<n∧j<(Zc s i).frames.length
def Zco (t:Nat):Key→Bool
 | some (some (.inl i))=>i == t
 | some (some (.inr (.inl (i,_))))=>i == t
 | some (some (.inr (.inr (i,_))))=>i == t
 | _=>false
def frV (V:Key→Value) (t j:Nat) (v1 v2:Value):Key→Value:=fun k=>if k=.locals t j then v1 else if k=.stack t j then v2 else V k
theorem Zkd (V:Key→Value) (t j:Nat) (v1 v2:Value):frV V t j v1 v2 (.locals t j)=v1:=if_pos rfl
theorem Zmn (V:Key→Value) (t j:Nat) (v1 v2:Value):frV V t j v1 v2 (.stack t j)=v2:=by unfold frV;rw [if_neg (by simp),if_pos rfl]
theorem Zbj (V:Key→Value) {t j:Nat} {v1 v2:Value} {k:Key} (h1:k≠.locals t j) (h2:k≠.stack t j):frV V t j v1 v2 k=V k:=by unfold frV;rw [if_neg h1,if_neg h2]
theorem Xq.frame {base:Nat} {w:World} {s:St} {t j:Nat} {v1 v2:Value} {V:Key→Value} (h1:w.ownsRow base 3 1 v1 (Ze s t j).locals.length (ints (Ze s t j).locals)) (h2:w.ownsRow base 3 1 v2 (Ze s t j).stack.length (ints (Ze s t j).stack))
  (ha:∀ b,v1.ownBlock=some b→v2.ownBlock≠some b):Xq (RK t j) base w (frV V t j v1 v2) s:=by
 have e1:=Zkd V t j v1 v2
 have e2:=Zmn V t j v1 v2
 refine ⟨fun k hk=>?_,fun k k' b hk hk'=>?_⟩
 ·cases k using Key.by with
  | fibers=>exact hk.elim
  | out=>exact hk.elim
  | frames i=>exact hk.elim
  | locals i q=>obtain ⟨rfl,rfl⟩:=hk;show World.ownsRow _ _ _ _ _ _ _;rw [e1];exact h1
  | stack i q=>obtain ⟨rfl,rfl⟩:=hk;show World.ownsRow _ _ _ _ _ _ _;rw [e2];exact h2
 ·cases k using Key.by with
  | fibers=>exact hk.elim
  | out=>exact hk.elim
  | frames i=>exact hk.elim
  | locals i q =>
   obtain ⟨rfl,rfl⟩:=hk
   cases k' using Key.by with
   | fibers=>exact hk'.elim
   | out=>exact hk'.elim
   | frames i=>exact hk'.elim
   | locals i' q'=>obtain ⟨rfl,rfl⟩:=hk';exact fun _ _=>rfl
   | stack i' q'=>obtain ⟨rfl,rfl⟩:=hk';rw [e1,e2];exact fun b1 b2=>absurd b2 (ha b b1)
  | stack i q =>
   obtain ⟨rfl,rfl⟩:=hk
   cases k' using Key.by with
   | fibers=>exact hk'.elim
   | out=>exact hk'.elim
   | frames i=>exact hk'.elim
   | locals i' q'=>obtain ⟨rfl,rfl⟩:=hk';rw [e1,e2];exact fun b2 b1=>absurd b2 (ha b b1)
   | stack i' q'=>obtain ⟨rfl,rfl⟩:=hk';exact fun _ _=>rfl
theorem Xq.frame_in {base:Nat} {w w1:World} {V:Key→Value} {s:St} {t j g cap:Nat} {v1 v2:Value} (h:Xq (FK t j) base w V s) (hb:base≤w.heap.size) (hk:Za w w1)
  (hj:j<(Zc s t).frames.length) (hV:V (.frames t)=.slice (some ⟨g,0,none⟩) (Zc s t).frames.length cap)
  (h1:w1.ownsRow w.heap.size 3 1 v1 (Ze s t j).locals.length (ints (Ze s t j).locals)) (h2:w1.ownsRow w.heap.size 3 1 v2 (Ze s t j).stack.length (ints (Ze s t j).stack))
  (ha:∀ b,v1.ownBlock=some b→v2.ownBlock≠some b) :
  Xq (FK t (j+1)) base ((((w1.setCell ⟨g,j*4,none⟩ (.int .i64 (Ze s t j).fn)).setCell ⟨g,j*4+1,none⟩ (.int .i64 (Ze s t j).at_)).setCell ⟨g,j*4+2,none⟩ v1).setCell ⟨g,j*4+3,none⟩ v2) (frV V t j v1 v2) s:=by
 have hn:=Xq.frame (V:=V) h1 h2 ha
 have hf:FK t j (.frames t):=rfl
 have hfr:frV V t j v1 v2 (.frames t)=V (.frames t):=Zbj V (by simp) (by simp)
 refine (h.into hb hk hn (p:=.frames t) (g:=g) hf (by rw [hV];rfl) (fun b hne=>?_) (fun k hK=>?_) (fun _ _=>rfl) (fun k k' hK hne hc=>?_) (fun _ _ _ _=>rfl) ?_).sub (fun k hK=>?_)
 ·rw [Below.heap_setCell _ _ _ _ hne,Below.heap_setCell _ _ _ _ hne,Below.heap_setCell _ _ _ _ hne,Below.heap_setCell _ _ _ _ hne]
 ·refine Zbj V (fun e=>?_) (fun e=>?_)
  ·subst e;exact absurd hK.2 (by omega)
  ·subst e;exact absurd hK.2 (by omega)
 ·cases k using Key.by with
  | fibers=>exact hK.elim
  | out=>exact hK.elim
  | frames i=>exact absurd (by rw [show i=t from hK]) hne
  | locals i q=>cases k' using Key.by <;> exact hc.elim
  | stack i q=>cases k' using Key.by <;> exact hc.elim
 ·obtain ⟨xs,r1,r2⟩:=h.piece (.frames t) hf
  rw [hV] at r1
  have r3:=Jz (w':=w1) r1 (fun b hbb=>hk.block b (r1.lt b hbb).2)
  have r4:=((((r3.stored (j*4) (.int .i64 (Ze s t j).fn)).1.stored (j*4+1) (.int .i64 (Ze s t j).at_)).1.stored (j*4+2) v1).1.stored (j*4+3) v2).1
  refine ⟨_,by rw [hfr,hV];exact r4,fun q hq=>?_⟩
  have hl:xs.length=(Zc s t).frames.length*4:=r1.1
  obtain ⟨x0,x1,x2,x3⟩:=r2 q hq
  by_cases e:q=j
  ·subst e
   rw [Zkd,Zmn]
   refine ⟨?_,?_,?_,?_⟩ <;> simp [List.getElem?_set] <;> omega
  ·rw [Zbj V (by simp [e]) (by simp),Zbj V (by simp) (by simp [e])]
   simp only [List.getElem?_set]
   refine ⟨?_,?_,?_,?_⟩
   ·rw [if_neg (by omega),if_neg (by omega),if_neg (by omega),if_neg (by omega)];exact x0
   ·rw [if_neg (by omega),if_neg (by omega),if_neg (by omega),if_neg (by omega)];exact x1
   ·rw [if_neg (by omega),if_neg (by omega),if_neg (by omega),if_neg (by omega)];exact x2
   ·rw [if_neg (by omega),if_neg (by omega),if_neg (by omega),if_neg (by omega)];exact x3
 ·cases k using Key.by with
  | fibers=>exact hK.elim
  | out=>exact hK.elim
  | frames i=>exact .inl hK
  | locals i q=>exact (Nat.lt_succ_iff_lt_or_eq.1 hK.2).imp (fun e=>⟨hK.1,e⟩) (fun e=>⟨hK.1,e⟩)
  | stack i q=>exact (Nat.lt_succ_iff_lt_or_eq.1 hK.2).imp (fun e=>⟨hK.1,e⟩) (fun e=>⟨hK.1,e⟩)
def fbV (V V1:Key→Value) (t:Nat):Key→Value:=fun k=>if Zco t k=true then V1 k else V k
theorem Zel (V V1:Key→Value) {t:Nat} {k:Key} (h:Zco t k=true):fbV V V1 t k=V1 k:=if_pos h
theorem Zal (V V1:Key→Value) {t:Nat} {k:Key} (h:Zco t k=false):fbV V V1 t k=V k:=if_neg (by rw [h];exact Bool.false_ne_true)
theorem FK_of {t n:Nat} {k:Key} (h:FK t n k):Zco t k=true:=by
 cases k using Key.by with
 | fibers=>exact h.elim
 | out=>exact h.elim
 | frames i=>exact beq_iff_eq.2 h
 | locals i q=>exact beq_iff_eq.2 h.1
 | stack i q=>exact beq_iff_eq.2 h.1
theorem LK_of {s:St} {t:Nat} {k:Key} (h:LK s t k):Zco t k=false:=by
 cases k using Key.by with
 | fibers=>rfl
 | out=>rfl
 | frames i=>exact beq_eq_false_iff_ne.2 (Nat.ne_of_lt h)
 | locals i q=>exact beq_eq_false_iff_ne.2 (Nat.ne_of_lt h.1)
 | stack i q=>exact beq_eq_false_iff_ne.2 (Nat.ne_of_lt h.1)
theorem Xq.fiber_in {base:Nat} {w w1:World} {V V1:Key→Value} {s:St} {t g cap:Nat} (h:Xq (LK s t) base w V s) (hb:base≤w.heap.size) (hk:Za w w1)
  (ht:t<s.fibers.length) (hV:V .fibers=.slice (some ⟨g,0,none⟩) s.fibers.length cap) (h1:Xq (FK t (Zc s t).frames.length) w.heap.size w1 V1 s) :
  Xq (LK s (t+1)) base ((w1.setCell ⟨g,t*2,none⟩ (V1 (.frames t))).setCell ⟨g,t*2+1,none⟩ (.int .i64 (Zc s t).caller)) (fbV V V1 t) s:=by
 have hf:LK s t .fibers:=trivial
 refine (h.into hb hk h1 (V2:=fbV V V1 t) (p:=.fibers) (g:=g) hf (by rw [hV];rfl) (fun b hne=>?_) (fun k hK=>Zal V V1 (LK_of hK)) (fun k hK=>Zel V V1 (FK_of hK)) (fun k k' hK hne hc=>?_) (fun k k' hK hc=>?_) ?_).sub (fun k hK=>?_)
 ·rw [Below.heap_setCell _ _ _ _ hne,Below.heap_setCell _ _ _ _ hne]
 ·cases k using Key.by with
  | fibers=>exact absurd rfl hne
  | out=>exact hK.elim
  | frames i =>
   have hi:i<t:=hK
   cases k' using Key.by with
   | fibers=>exact hc.elim
   | out=>exact hc.elim
   | frames q=>exact hc.elim
   | locals a b=>exact Zal V V1 (beq_eq_false_iff_ne.2 (by rw [show a=i from hc];omega))
   | stack a b=>exact Zal V V1 (beq_eq_false_iff_ne.2 (by rw [show a=i from hc];omega))
  | locals i q=>cases k' using Key.by <;> exact hc.elim
  | stack i q=>cases k' using Key.by <;> exact hc.elim
 ·cases k using Key.by with
  | fibers=>exact hK.elim
  | out=>exact hK.elim
  | frames i =>
   have hi:i=t:=hK
   cases k' using Key.by with
   | fibers=>exact hc.elim
   | out=>exact hc.elim
   | frames q=>exact hc.elim
   | locals a b=>exact Zel V V1 (beq_iff_eq.2 (by rw [show a=i from hc];exact hi))
   | stack a b=>exact Zel V V1 (beq_iff_eq.2 (by rw [show a=i from hc];exact hi))
  | locals i q=>cases k' using Key.by <;> exact hc.elim
  | stack i q=>cases k' using Key.by <;> exact hc.elim
 ·obtain ⟨xs,r1,r2⟩:=h.piece .fibers hf
  rw [hV] at r1
  have r3:=Jz (w':=w1) r1 (fun b hbb=>hk.block b (r1.lt b hbb).2)
  have r4:=((r3.stored (t*2) (V1 (.frames t))).1.stored (t*2+1) (.int .i64 (Zc s t).caller)).1
  refine ⟨_,by rw [Zal V V1 rfl,hV];exact r4,fun q hq=>?_⟩
  have hl:xs.length=s.fibers.length*2:=r1.1
  obtain ⟨x0,x1⟩:=r2 q hq
  by_cases e:q=t
  ·subst e
   rw [Zel V V1 (t:=q) (k:=.frames q) (beq_iff_eq.2 rfl)]
   refine ⟨?_,?_⟩ <;> simp [List.getElem?_set] <;> omega
  ·rw [Zal V V1 (t:=t) (k:=.frames q) (beq_eq_false_iff_ne.2 e)]
   simp only [List.getElem?_set]
   refine ⟨?_,?_⟩
   ·rw [if_neg (by omega),if_neg (by omega)];exact x0
   ·rw [if_neg (by omega),if_neg (by omega)];exact x1
 ·cases k using Key.by with
  | fibers=>exact .inl trivial
  | out=>exact hK.elim
  | frames i=>exact Nat.lt_succ_iff_lt_or_eq.1 hK
  | locals i q=>exact (Nat.lt_succ_iff_lt_or_eq.1 hK.1).imp (fun e=>⟨e,hK.2⟩) (fun e=>⟨e,by rw [← e];exact hK.2⟩)
  | stack i q=>exact (Nat.lt_succ_iff_lt_or_eq.1 hK.1).imp (fun e=>⟨e,hK.2⟩) (fun e=>⟨e,by rw [← e];exact hK.2⟩)
theorem Xq.whole {base:Nat} {w w1:World} {V:Key→Value} {s:St} {vo:Value} (h:Xq (LK s s.fibers.length) base w V s) (hb:base≤w.heap.size) (hk:Za w w1)
  (ho:w1.ownsRow w.heap.size 3 1 vo s.out.length (ints s.out)):Own base w1 (upd V .out vo) s:=by
 have h1:Xq (fun k=>k=.out) w.heap.size w1 (upd V .out vo) s :=
  ⟨fun k e=>by subst e;show World.ownsRow _ _ _ _ _ _ _;rw [Qd];exact ho,fun k k' _ e e' _ _=>by rw [e,e']⟩
 have hno:∀ k,LK s s.fibers.length k→k≠.out:=fun k hK e=>by subst e;exact hK
 have h2:=h.beside hb hk h1 (V2:=upd V .out vo) (fun k hK=>Zn _ _ (hno k hK)) (fun _ _=>rfl) (fun k k' hK hc=>Zn _ _ (fun e=>by subst e;cases k using Key.by <;> exact hc)) (fun _ _ _ _=>rfl)
 have h3:∀ k,live s k→(LK s s.fibers.length k∨k=.out):=fun k hK=>by
  cases k using Key.by with
  | fibers=>exact .inl trivial
  | out=>exact .inr rfl
  | frames i=>exact .inl hK
  | locals i q=>exact .inl hK
  | stack i q=>exact .inl hK
 exact ⟨fun k hK=>h2.piece k (h3 k hK),fun k k' g hK hK'=>h2.apart k k' g (h3 k hK) (h3 k' hK')⟩
theorem Xq.frames_start {base:Nat} {w:World} {V:Key→Value} {s:St} {t:Nat} {xs:List Value} (h1:w.ownsRow base 53 4 (V (.frames t)) (Zc s t).frames.length xs)
  (h2:∀ j,j<(Zc s t).frames.length→xs[j*4]?=some (.int .i64 (Ze s t j).fn)∧xs[j*4+1]?=some (.int .i64 (Ze s t j).at_)∧xs[j*4+2]?=some (V (.locals t j))∧xs[j*4+3]?=some (V (.stack t j))):Xq (FK t 0) base w V s:=by
 have hk:∀ k,FK t 0 k→k=.frames t:=fun k hK=>by
  cases k using Key.by with
  | fibers=>exact hK.elim
  | out=>exact hK.elim
  | frames i=>rw [show i=t from hK]
  | locals i q=>exact absurd hK.2 (Nat.not_lt_zero _)
  | stack i q=>exact absurd hK.2 (Nat.not_lt_zero _)
 exact ⟨fun k hK=>by rw [hk k hK];exact ⟨xs,h1,h2⟩,fun k k' _ hK hK' _ _=>by rw [hk k hK,hk k' hK']⟩
theorem Xq.fibers_start {base:Nat} {w:World} {V:Key→Value} {s:St} {xs:List Value} (h1:w.ownsRow base 46 2 (V .fibers) s.fibers.length xs)
  (h2:∀ i,i<s.fibers.length→xs[i*2]?=some (V (.frames i))∧xs[i*2+1]?=some (.int .i64 (Zc s i).caller)):Xq (LK s 0) base w V s:=by
 have hk:∀ k,LK s 0 k→k=.fibers:=fun k hK=>by
  cases k using Key.by with
  | fibers=>rfl
  | out=>exact hK.elim
  | frames i=>exact absurd hK (Nat.not_lt_zero _)
  | locals i q=>exact absurd hK.1 (Nat.not_lt_zero _)
  | stack i q=>exact absurd hK.1 (Nat.not_lt_zero _)
 exact ⟨fun k hK=>by rw [hk k hK];exact ⟨xs,h1,h2⟩,fun k k' _ hK hK' _ _=>by rw [hk k hK,hk k' hK']⟩
end Go.Proofs.YtblihfpigjiahaaDoor
namespace Go.Proofs.YtblihfpigjiahaaDoor
open Go.RowKit
structure Zan (w:World) (oa:Option Addr) (xs:List Value):Prop where
 cell:∀ j x,xs[j]?=some x→∃ b o,oa=some ⟨b,o,none⟩∧w.cell? ⟨b,o+j,none⟩=some x
 one:∀ x∈xs,x.oneCell'=true
theorem Zan.none {w:World} {xs:List Value} (h:Zan w Option.none xs):xs=[]:=by
 cases xs with
 | nil=>rfl
 | cons x r=>obtain ⟨b,o,e,_⟩:=h.cell 0 x rfl;cases e
theorem Zan.at {w:World} {a:Addr} {xs:List Value} (h:Zan w (some a) xs):∀ j x,xs[j]?=some x→w.cell? (a.add j)=some x:=fun j x hj=>by
 obtain ⟨b,o,e,hc⟩:=h.cell j x hj
 obtain rfl:=Option.some.inj e
 have:((⟨b,o,.none⟩:Addr).add j)=⟨b,o+j,.none⟩:=by unfold Addr.add;split <;> simp_all
 rw [this];exact hc
theorem Zan.kept {w w':World} {oa:Option Addr} {xs:List Value} (h:Zan w oa xs) (hk:Za w w'):Zan w' oa xs :=
 ⟨fun j x hj=>by obtain ⟨b,o,e,hc⟩:=h.cell j x hj;exact ⟨b,o,e,hk.cell hc⟩,h.one⟩
def Zuf (x:Fr) (w:World) (en:Ending) (w':World):Prop :=
 ∃ v1 v2,en=.returned (.agg #[.int .i64 x.fn,.int .i64 x.at_,v1,v2])∧w'.ownsRow w.heap.size 3 1 v1 x.locals.length (ints x.locals)∧w'.ownsRow w.heap.size 3 1 v2 x.stack.length (ints x.stack)∧(∀ b,v1.ownBlock=some b→v2.ownBlock≠some b)∧Za w w'
def Zhn (s:St) (t:Nat) (A:Nat→Value × Value) (k:Nat):Value :=
 if k % 4=0 then .int .i64 (Ze s t (k / 4)).fn else if k % 4=1 then .int .i64 (Ze s t (k / 4)).at_ else if k % 4=2 then (A (k / 4)).1 else (A (k / 4)).2
def Zbb (s:St) (t:Nat) (A:Nat→Value × Value):List Value:=(List.range ((Zc s t).frames.length*4)).map (Zhn s t A)
theorem Zec (s:St) (t:Nat) (A:Nat→Value × Value) {k:Nat} (h:k<(Zc s t).frames.length*4):(Zbb s t A)[k]?=some (Zhn s t A k):=by
 simp [Zbb,List.getElem?_range h]
theorem Ztd (s:St) (t:Nat) (A:Nat→Value × Value) {j:Nat} (h:j<(Zc s t).frames.length) :
  (Zbb s t A)[j*4]?=some (.int .i64 (Ze s t j).fn)∧(Zbb s t A)[j*4+1]?=some (.int .i64 (Ze s t j).at_)∧(Zbb s t A)[j*4+2]?=some (A j).1∧(Zbb s t A)[j*4+3]?=some (A j).2:=by
 rw [Zec s t A (by omega),Zec s t A (by omega),Zec s t A (by omega),Zec s t A (by omega)]
 unfold Zhn
 have d0:j*4 / 4=j:=by omega
 have d1:(j*4+1) / 4=j:=by omega
 have d2:(j*4+2) / 4=j:=by omega
 have d3:(j*4+3) / 4=j:=by omega
 have m0:j*4 % 4=0:=by omega
 have m1:(j*4+1) % 4=1:=by omega
 have m2:(j*4+2) % 4=2:=by omega
 have m3:(j*4+3) % 4=3:=by omega
 simp [d0,d1,d2,d3,m0,m1,m2,m3]
def Zao (s:St) (t:Nat) (A:Nat→Value × Value) (v:Value) (w:World) (k:Nat) (w':World):Prop :=
 ∃ V:Key→Value,V (.frames t)=v∧Xq (FK t k) w.heap.size w' V s∧(∀ j,k≤j→V (.locals t j)=(A j).1∧V (.stack t j)=(A j).2)∧Za w w'
theorem Zao.start {s:St} {t:Nat} {A:Nat→Value × Value} {v:Value} {w w':World} (h:w'.ownsRow w.heap.size 53 4 v (Zc s t).frames.length (Zbb s t A)) (hk:Za w w'):Zao s t A v w 0 w':=by
 refine ⟨fun | some (some (.inr (.inl (_,j))))=>(A j).1 | some (some (.inr (.inr (_,j))))=>(A j).2 | _=>v,rfl,Xq.frames_start h (fun j hj=>Ztd s t A hj),fun j _=>⟨rfl,rfl⟩,hk⟩
theorem Zao.next {s:St} {t g cap k:Nat} {A:Nat→Value × Value} {w w1 w2:World} {v1 v2:Value} (h:Zao s t A (.slice (some ⟨g,0,none⟩) (Zc s t).frames.length cap) w k w1) (hk:k<(Zc s t).frames.length) (hp:Zuf (Ze s t k) w1 (.returned (.agg #[.int .i64 (Ze s t k).fn,.int .i64 (Ze s t k).at_,v1,v2])) w2) :
  Zao s t A (.slice (some ⟨g,0,none⟩) (Zc s t).frames.length cap) w (k+1) ((((w2.setCell ⟨g,k*4,none⟩ (.int .i64 (Ze s t k).fn)).setCell ⟨g,k*4+1,none⟩ (.int .i64 (Ze s t k).at_)).setCell ⟨g,k*4+2,none⟩ v1).setCell ⟨g,k*4+3,none⟩ v2):=by
 obtain ⟨V,hV,ho,hs,hkw⟩:=h
 obtain ⟨u1,u2,e,h1,h2,ha,hk2⟩:=hp
 have e':u1=v1∧u2=v2:=by simpa using e.symm
 obtain ⟨rfl,rfl⟩:=e'
 have hg:w.heap.size≤g:=((ho.piece (.frames t) rfl).block g (by rw [hV];rfl)).1
 refine ⟨frV V t k u1 u2,by rw [Zbj V (by simp) (by simp)];exact hV,ho.frame_in hkw.size hk2 hk hV h1 h2 ha,fun j hj=>?_,?_⟩
 ·rw [Zbj V (by simp;omega) (by simp),Zbj V (by simp) (by simp;omega)]
  exact hs j (by omega)
 ·exact ((((hkw.trans hk2).setCell (p:=⟨g,k*4,none⟩) hg _).setCell (p:=⟨g,k*4+1,none⟩) hg _).setCell (p:=⟨g,k*4+2,none⟩) hg _).setCell (p:=⟨g,k*4+3,none⟩) hg _
theorem Zao.cells {s:St} {t g cap k:Nat} {A:Nat→Value × Value} {w w1:World} (h:Zao s t A (.slice (some ⟨g,0,none⟩) (Zc s t).frames.length cap) w k w1) (hk:k<(Zc s t).frames.length) :
  w1.cell? ⟨g,k*4,none⟩=some (.int .i64 (Ze s t k).fn)∧w1.cell? ⟨g,k*4+1,none⟩=some (.int .i64 (Ze s t k).at_)∧w1.cell? ⟨g,k*4+2,none⟩=some (A k).1∧w1.cell? ⟨g,k*4+3,none⟩=some (A k).2∧g<w1.heap.size∧∀ j,w1.frozen? ⟨g,j,none⟩=false:=by
 obtain ⟨V,hV,ho,hs,hkw⟩:=h
 obtain ⟨xs,r1,r2⟩:=ho.piece (.frames t) rfl
 obtain ⟨x0,x1,x2,x3⟩:=r2 k hk
 rw [(hs k (Nat.le_refl _)).1] at x2
 rw [(hs k (Nat.le_refl _)).2] at x3
 rw [hV] at r1
 rcases r1 with ⟨l,⟨h0,_⟩ | ⟨g',cap',cur,e',_,hg,hn,_,hcs,ht⟩⟩
 ·cases h0
 ·simp only [Value.slice.injEq,Option.some.injEq,Addr.mk.injEq] at e'
  obtain ⟨⟨rfl,_⟩,_⟩:=e'
  have hat:∀ j u,xs[j]?=some u→w1.cell? ⟨g,j,none⟩=some u:=fun j u hj=>by
   rw [Zd hg j,← Array.getElem?_toList]
   rw [← ht,List.getElem?_take] at hj
   split at hj
   ·exact hj
   ·cases hj
  exact ⟨hat _ _ x0,hat _ _ x1,hat _ _ x2,hat _ _ x3,(Array.getElem?_eq_some_iff.1 hg).1,fun j=>Zk hg j⟩
theorem Xq.low {K:Key→Prop} {base base':Nat} {w:World} {V:Key→Value} {s:St} (h:Xq K base' w V s) (hb:base≤base'):Xq K base w V s:=⟨fun k hk=>(h.piece k hk).low hb,h.apart⟩
def Zni (s:St) (t:Nat) (w:World) (en:Ending) (w':World):Prop :=
 ∃ V,en=.returned (.agg #[V (.frames t),.int .i64 (Zc s t).caller])∧Xq (FK t (Zc s t).frames.length) w.heap.size w' V s∧Za w w'
def Zih (s:St) (A:Nat→Value) (k:Nat):Value:=if k % 2=0 then A (k / 2) else .int .i64 (Zc s (k / 2)).caller
def Zcr (s:St) (A:Nat→Value):List Value:=(List.range (s.fibers.length*2)).map (Zih s A)
theorem Zji (s:St) (A:Nat→Value) {k:Nat} (h:k<s.fibers.length*2):(Zcr s A)[k]?=some (Zih s A k):=by
 simp [Zcr,List.getElem?_range h]
theorem Xag (s:St) (A:Nat→Value) {j:Nat} (h:j<s.fibers.length):(Zcr s A)[j*2]?=some (A j)∧(Zcr s A)[j*2+1]?=some (.int .i64 (Zc s j).caller):=by
 rw [Zji s A (by omega),Zji s A (by omega)]
 unfold Zih
 have d0:j*2 / 2=j:=by omega
 have d1:(j*2+1) / 2=j:=by omega
 have m0:j*2 % 2=0:=by omega
 have m1:(j*2+1) % 2=1:=by omega
 simp [d0,d1,m0,m1]
def Zbk (s:St) (A:Nat→Value) (v:Value) (w:World) (k:Nat) (w':World):Prop :=
 ∃ V:Key→Value,V .fibers=v∧Xq (LK s k) w.heap.size w' V s∧(∀ j,k≤j→V (.frames j)=A j)∧Za w w'
theorem Zbk.start {s:St} {A:Nat→Value} {v:Value} {w w':World} (h:w'.ownsRow w.heap.size 46 2 v s.fibers.length (Zcr s A)) (hk:Za w w'):Zbk s A v w 0 w' :=
 ⟨fun | some (some (.inl i))=>A i | _=>v,rfl,Xq.fibers_start h (fun _ hj=>Xag s A hj),fun _ _=>rfl,hk⟩
theorem Zbk.next {s:St} {g cap k:Nat} {A:Nat→Value} {w w1 w2:World} {v1:Value} (h:Zbk s A (.slice (some ⟨g,0,none⟩) s.fibers.length cap) w k w1) (hk:k<s.fibers.length) (hp:Zni s k w1 (.returned (.agg #[v1,.int .i64 (Zc s k).caller])) w2) :
  Zbk s A (.slice (some ⟨g,0,none⟩) s.fibers.length cap) w (k+1) ((w2.setCell ⟨g,k*2,none⟩ v1).setCell ⟨g,k*2+1,none⟩ (.int .i64 (Zc s k).caller)):=by
 obtain ⟨V,hV,ho,hs,hkw⟩:=h
 obtain ⟨V1,e,h1,hk2⟩:=hp
 obtain rfl:V1 (.frames k)=v1:=by simpa using e.symm
 have hg:w.heap.size≤g:=((ho.piece .fibers trivial).block g (by rw [hV];rfl)).1
 refine ⟨fbV V V1 k,by rw [Zal V V1 rfl];exact hV,ho.fiber_in hkw.size hk2 hk hV h1,fun j hj=>?_,?_⟩
 ·rw [Zal V V1 (t:=k) (k:=.frames j) (beq_eq_false_iff_ne.2 (by omega))]
  exact hs j (by omega)
 ·exact ((hkw.trans hk2).setCell (p:=⟨g,k*2,none⟩) hg _).setCell (p:=⟨g,k*2+1,none⟩) hg _
theorem Zbk.cells {s:St} {g cap k:Nat} {A:Nat→Value} {w w1:World} (h:Zbk s A (.slice (some ⟨g,0,none⟩) s.fibers.length cap) w k w1) (hk:k<s.fibers.length) :
  w1.cell? ⟨g,k*2,none⟩=some (A k)∧w1.cell? ⟨g,k*2+1,none⟩=some (.int .i64 (Zc s k).caller)∧g<w1.heap.size∧∀ j,w1.frozen? ⟨g,j,none⟩=false:=by
 obtain ⟨V,hV,ho,hs,hkw⟩:=h
 obtain ⟨xs,r1,r2⟩:=ho.piece .fibers trivial
 obtain ⟨x0,x1⟩:=r2 k hk
 rw [hs k (Nat.le_refl _)] at x0
 rw [hV] at r1
 rcases r1 with ⟨l,⟨h0,_⟩ | ⟨g',cap',cur,e',_,hg,hn,_,hcs,ht⟩⟩
 ·cases h0
 ·simp only [Value.slice.injEq,Option.some.injEq,Addr.mk.injEq] at e'
  obtain ⟨⟨rfl,_⟩,_⟩:=e'
  have hat:∀ j u,xs[j]?=some u→w1.cell? ⟨g,j,none⟩=some u:=fun j u hj=>by
   rw [Zd hg j,← Array.getElem?_toList]
   rw [← ht,List.getElem?_take] at hj
   split at hj
   ·exact hj
   ·cases hj
  exact ⟨hat _ _ x0,hat _ _ x1,(Array.getElem?_eq_some_iff.1 hg).1,fun j=>Zk hg j⟩
theorem Zfv {p:List Fn} (h:Xd p=0):Ua p:=fun _ hk=>(Zdg h hk).1.len
theorem Zgv {p:List Fn} (h:Xd p=0):Zby p:=fun k a hk=>by
 have:=Zlh h hk a
 omega
end Go.Proofs.YtblihfpigjiahaaDoor
