/- TakesT, TakesU, EngJ, EngK, EngL -/
import Derived.Test.YtblihfpigjiahaaGreatDoorYB17
set_option maxRecDepth 100000
set_option maxHeartbeats 8000000
namespace Go.Proofs.YtblihfpigjiahaaGreatDoor
open Go.RowKit
def Jg (P:Program) (md:Region.Mode) (ops:Array Oper) (Q:Exit→Act→World→Prop) (S:World→Prop) (T:Nat):Nat→Array Bool→Act→World→Prop
 | 0,listed,a,w=>Region.ready md ops listed=[]∧Q .normal a w
 | n+1,listed,a,w=>(Region.ready md ops listed=[]→Q .normal a w) ∧
   ∀ i∈Region.ready md ops listed,wpOp P ops Q i (fun a' w'=>(i≠T→S w')∧Jg P md ops Q S T n (listed.setIfInBounds i true) a' w') a w
variable {P:Program} {md:Region.Mode} {ops:Array Oper} {Q:Exit→Act→World→Prop} {S:World→Prop} {T:Nat}
theorem Jg.any:∀ (n:Nat) (listed:Array Bool) (a:Act) (w:World),Jg P md ops Q S T n listed a w→wpAny P md ops Q n listed a w
 | 0,_,_,_,h=>h
 | n+1,_,_,_,h=>⟨h.1,fun i hi=>wpOp_mono (fun _ _ h'=>Jg.any n _ _ _ h'.2) (h.2 i hi)⟩
def Zgj (md:Region.Mode) (ops:Array Oper) (T i:Nat):Bool:=match ops[T]? with | none=>true | some o=>o.after.any fun e=>Region.binds md e && e.on == i
theorem Jg.first {i:Nat} {oi:Oper} {v:Value} (hi:ops[i]?=some oi) (hsel:∀ (j:Nat) (o:Oper) cs b,ops[j]?=some o→o.op≠.select cs b)
  (hQ:∀ c a w,Q (.panic c) (a.put oi.dst v) w→Q (.panic c) a w) (hT:Zgj md ops T i=true) :
  ∀ (n:Nat) (listed:Array Bool) (a:Act) (w:World),
   (∀ j oj,ops[j]?=some oj→j≠i→listed.getD j true=false→(∀ e∈oj.after,Region.binds md e=true→e.on≠i)→oi.apart ops oj=true) →
   i∈Region.ready md ops listed→YieldsIf P ops S oi v a→S w →
   Jg P md ops Q S T n (listed.setIfInBounds i true) (a.put oi.dst v) w→Jg P md ops Q S T (n+1) listed a w:=by
 intro n
 induction n with
 | zero =>
  intro listed a w _ hr hy hS H
  refine ⟨fun h=>(by rw [h] at hr;cases hr),fun j hj=>?_⟩
  by_cases hji:j=i
  ·subst hji
   exact hy.wpOp hi hS ⟨fun _=>hS,H⟩
  ·have:=ready_mono hj hji
   rw [H.1] at this
   cases this
 | succ n ih =>
  intro listed a w hfree hr hy hS H
  refine ⟨fun h=>(by rw [h] at hr;cases hr),fun j hj=>?_⟩
  by_cases hji:j=i
  ·subst hji
   exact hy.wpOp hi hS ⟨fun _=>hS,H⟩
  ·have h1:=H.2 j (ready_mono hj hji)
   obtain ⟨hjun,oj,hoj,hall⟩:=mem_ready.1 hj
   have hun:=(mem_ready.1 hr).1
   have hnl:listed.getD i false≠true:=by
    intro hc
    rcases Nat.lt_or_ge i listed.size with h' | h'
    ·simp [h'] at hun hc
     rw [hun] at hc
     cases hc
    ·simp [Array.getElem?_eq_none h'] at hc
   have hnot:∀ e∈oj.after,Region.binds md e=true→e.on≠i:=fun e he hb heq=>hnl (by have:=hall e he hb;rwa [heq] at this)
   have hjT:j≠T:=by
    intro e
    subst e
    unfold Zgj at hT
    rw [hoj] at hT
    simp only [Array.any_eq_true,Bool.and_eq_true,beq_iff_eq] at hT
    obtain ⟨q,hq,hb,hon⟩:=hT
    exact hnot _ (Array.getElem_mem hq) hb hon
   have h2:=wpOp_putIf hoj (hfree j oj hoj hji hjun hnot) (fun cs b=>hsel i oi cs b hi) (fun cs b=>hsel j oj cs b hoj) hQ hy h1
   refine wpOp_mono (fun a' w' h3=>⟨fun _=>h3.2.1 hjT,ih (listed.setIfInBounds j true) a' w' ?_ (ready_mono hr (Ne.symm hji)) h3.1 (h3.2.1 hjT) ?_⟩) h2
   ·intro k ok hk hki hku hno
    refine hfree k ok hk hki ?_ hno
    by_cases hjk:j=k
    ·subst hjk;exact hjun
    ·rw [Go.getD_set_ne true hjk] at hku;exact hku
   ·rw [Array.setIfInBounds_comm _ _ hji]
    exact h3.2.2
theorem Jz {L tl:List Oper} {i:Nat} {oi:Oper} {v:Value} {fuel:Nat} {listed:Array Bool} {a:Act} {w:World} (hd:L.drop i=oi :: tl)
  (hs:Region.noSelect L.toArray=true) (hf:Region.free md L.toArray listed i=true) (hr:(Region.ready md L.toArray listed).contains i=true) (hT:Zgj md L.toArray T i=true)
  (hQ:∀ c a w,Q (.panic c) (a.put oi.dst v) w→Q (.panic c) a w) (hw:Region.wanted oi (yielded L.toArray a.tmps)=true) (hy:∀ u,S u→(execOp a.eval oi).run P u=.ok (.value v) u) (hS:S w)
  (h:Jg P md L.toArray Q S T fuel (listed.setIfInBounds i true) (a.put oi.dst v) w):Jg P md L.toArray Q S T (fuel+1) listed a w :=
 Jg.first (Up hd) (Region.noSelect_spec hs) hQ hT fuel listed a w (Region.free_spec (Up hd) hf) (by simpa using hr) (.inl ⟨hw,hy⟩) hS h
theorem Zq {L tl:List Oper} {i:Nat} {oi:Oper} {fuel:Nat} {listed:Array Bool} {a:Act} {w:World} (hd:L.drop i=oi :: tl)
  (hr:Region.ready md L.toArray listed=[i])
  (h:∀ K':Act→World→Prop,Shut (∀ a w,(i≠T→S w)→Jg P md L.toArray Q S T fuel (listed.setIfInBounds i true) a w→K' a w)→if Region.wanted oi (yielded L.toArray a.tmps)=true then Oper.wp P oi a w K' Q else K' (a.put oi.dst undef) w) :
  Jg P md L.toArray Q S T (fuel+1) listed a w :=
 ⟨fun h0=>absurd (hr ▸ h0) (by simp),fun j hj=>by
  rw [hr] at hj
  obtain rfl:j=i:=by simpa using hj
  exact wpOp_step (Up hd) (fun K' hK=>h K' (fun a w hS hW=>hK a w ⟨hS,hW⟩))⟩
theorem Qz {listed:Array Bool} {a:Act} {w:World} (hr:Region.ready md ops listed=[]) (h:Q .normal a w):∀ n,Jg P md ops Q S T n listed a w
 | 0=>⟨hr,h⟩
 | _+1=>⟨fun _=>h,by rw [hr];simp⟩
theorem Py {id:Nat} {a:Act} {w:World} (T:Nat) (S:World→Prop) (hm:P.follows .mixedOrders=true)
  (h:Jg P .any ops Q S T ops.size (Array.replicate ops.size false) a w.drew):(Code.region id ops true).wp P Q a w :=
 wp_region_any hm (Jg.any _ _ _ _ h)
end Go.Proofs.YtblihfpigjiahaaGreatDoor
namespace Go.Proofs.YtblihfpigjiahaaGreatDoor
open Go.RowKit
def Zbq (md:Region.Mode) (ops:Array Oper) (listed:Array Bool):Prop :=
 ∀ k o,ops[k]?=some o→listed.getD k false=true→∀ e∈o.after,Region.binds md e=true→listed.getD e.on false=true
def Zhp (md:Region.Mode) (ops:Array Oper) (listed:Array Bool):Bool :=
 (List.range ops.size).all fun k=>!(listed.getD k false) || (match ops[k]? with | none=>true | some o=>o.after.all fun e=>!(Region.binds md e) || listed.getD e.on false)
theorem Zqx {md:Region.Mode} {ops:Array Oper} {listed:Array Bool} (h:Zhp md ops listed=true):Zbq md ops listed:=by
 intro k o hk hl e he hb
 have hks:k<ops.size:=(Array.getElem?_eq_some_iff.1 hk).1
 have:=List.all_eq_true.1 h k (by simpa using hks)
 rw [hl,hk] at this
 simp only [Bool.not_true,Bool.false_or] at this
 have h2:=Array.all_eq_true_iff_forall_mem.1 this e he
 rw [hb] at h2
 simpa using h2
def Zbv (md:Region.Mode) (ops:Array Oper) (i:Nat):Nat→Nat→Bool
 | 0,_=>false
 | f+1,T=>match ops[T]? with | none=>false | some o=>o.after.any fun e=>Region.binds md e && (e.on == i || Zbv md ops i f e.on)
def Zfk (md:Region.Mode) (ops:Array Oper) (i T:Nat):Prop:=∃ f,Zbv md ops i f T=true
theorem Zrh {md:Region.Mode} {ops:Array Oper} {i:Nat} (f T:Nat) (h:Zbv md ops i f T=true):Zfk md ops i T:=⟨f,h⟩
theorem Zly {md:Region.Mode} {ops:Array Oper} {i:Nat} {listed:Array Bool} (hc:Zbq md ops listed):∀ (f T:Nat),Zbv md ops i f T=true →
  (∀ o,ops[T]?=some o→∀ e∈o.after,Region.binds md e=true→listed.getD e.on false=true)→listed.getD i false=true
 | 0,_,h,_=>by cases h
 | f+1,T,h,hp=>by
  unfold Zbv at h
  cases ho:ops[T]? with
  | none=>rw [ho] at h;cases h
  | some o =>
   rw [ho] at h
   simp only [Array.any_eq_true,Bool.and_eq_true,Bool.or_eq_true,beq_iff_eq] at h
   obtain ⟨q,hq,hb,h1 | h1⟩:=h
   ·rw [← h1];exact hp o ho _ (Array.getElem_mem hq) hb
   ·exact Zly hc f _ h1 fun o' ho' e' he' hb'=>hc _ o' ho' (hp o ho _ (Array.getElem_mem hq) hb) e' he' hb'
theorem Zfk.listed {md:Region.Mode} {ops:Array Oper} {i T:Nat} {listed:Array Bool} (hc:Zbq md ops listed) (h:Zfk md ops i T)
  (hp:∀ o,ops[T]?=some o→∀ e∈o.after,Region.binds md e=true→listed.getD e.on false=true):listed.getD i false=true :=
 let ⟨f,h⟩:=h;Zly hc f T h hp
theorem Znw {listed:Array Bool} (j k:Nat) (h:listed.getD k false=true):(listed.setIfInBounds j true).getD k false=true:=by
 by_cases e:j=k
 ·subst e
  have hs:j<listed.size:=by
   rcases Nat.lt_or_ge j listed.size with h' | h'
   ·exact h'
   ·simp [Array.getElem?_eq_none h'] at h
  simp [hs]
 ·rw [Go.getD_set_ne false e];exact h
theorem Zbq.set {md:Region.Mode} {ops:Array Oper} {listed:Array Bool} (hc:Zbq md ops listed) {j:Nat} (hj:j∈Region.ready md ops listed):Zbq md ops (listed.setIfInBounds j true):=by
 intro k o hk hl e he hb
 obtain ⟨_,oj,hoj,hall⟩:=mem_ready.1 hj
 by_cases ejk:j=k
 ·subst ejk
  rw [hoj] at hk
  obtain rfl:=Option.some.inj hk
  exact Znw j _ (hall e he hb)
 ·rw [Go.getD_set_ne false ejk] at hl
  exact Znw j _ (hc k o hk hl e he hb)
variable {P:Program} {md:Region.Mode} {ops:Array Oper} {Q:Exit→Act→World→Prop} {S:World→Prop} {T:Nat}
theorem Jg.firstU {i:Nat} {oi:Oper} {v:Value} (hi:ops[i]?=some oi) (hsel:∀ (j:Nat) (o:Oper) cs b,ops[j]?=some o→o.op≠.select cs b)
  (hQ:∀ c a w,Q (.panic c) (a.put oi.dst v) w→Q (.panic c) a w) (hT:Zfk md ops i T) :
  ∀ (n:Nat) (listed:Array Bool) (a:Act) (w:World),Zbq md ops listed →
   (∀ j oj,ops[j]?=some oj→j≠i→listed.getD j true=false→(∀ e∈oj.after,Region.binds md e=true→e.on≠i)→oi.apart ops oj=true) →
   i∈Region.ready md ops listed→YieldsIf P ops S oi v a→S w →
   Jg P md ops Q S T n (listed.setIfInBounds i true) (a.put oi.dst v) w→Jg P md ops Q S T (n+1) listed a w:=by
 intro n
 induction n with
 | zero =>
  intro listed a w _ _ hr hy hS H
  refine ⟨fun h=>(by rw [h] at hr;cases hr),fun j hj=>?_⟩
  by_cases hji:j=i
  ·subst hji
   exact hy.wpOp hi hS ⟨fun _=>hS,H⟩
  ·have:=ready_mono hj hji
   rw [H.1] at this
   cases this
 | succ n ih =>
  intro listed a w hC hfree hr hy hS H
  refine ⟨fun h=>(by rw [h] at hr;cases hr),fun j hj=>?_⟩
  by_cases hji:j=i
  ·subst hji
   exact hy.wpOp hi hS ⟨fun _=>hS,H⟩
  ·have h1:=H.2 j (ready_mono hj hji)
   obtain ⟨hjun,oj,hoj,hall⟩:=mem_ready.1 hj
   have hun:=(mem_ready.1 hr).1
   have hnl:listed.getD i false≠true:=by
    intro hc
    rcases Nat.lt_or_ge i listed.size with h' | h'
    ·simp [h'] at hun hc
     rw [hun] at hc
     cases hc
    ·simp [Array.getElem?_eq_none h'] at hc
   have hnot:∀ e∈oj.after,Region.binds md e=true→e.on≠i:=fun e he hb heq=>hnl (by have:=hall e he hb;rwa [heq] at this)
   have hjT:j≠T:=by
    intro e
    subst e
    exact hnl (hT.listed hC (fun o ho e he hb=>by rw [hoj] at ho;obtain rfl:=Option.some.inj ho;exact hall e he hb))
   have h2:=wpOp_putIf hoj (hfree j oj hoj hji hjun hnot) (fun cs b=>hsel i oi cs b hi) (fun cs b=>hsel j oj cs b hoj) hQ hy h1
   refine wpOp_mono (fun a' w' h3=>⟨fun _=>h3.2.1 hjT,ih (listed.setIfInBounds j true) a' w' (hC.set hj) ?_ (ready_mono hr (Ne.symm hji)) h3.1 (h3.2.1 hjT) ?_⟩) h2
   ·intro k ok hk hki hku hno
    refine hfree k ok hk hki ?_ hno
    by_cases hjk:j=k
    ·subst hjk;exact hjun
    ·rw [Go.getD_set_ne true hjk] at hku;exact hku
   ·rw [Array.setIfInBounds_comm _ _ hji]
    exact h3.2.2
theorem Zx {L tl:List Oper} {i:Nat} {oi:Oper} {v:Value} {fuel:Nat} {listed:Array Bool} {a:Act} {w:World} (hd:L.drop i=oi :: tl)
  (hs:Region.noSelect L.toArray=true) (hf:Region.free md L.toArray listed i=true) (hr:(Region.ready md L.toArray listed).contains i=true) (hT:(Zbv md L.toArray i 40 T && Zhp md L.toArray listed)=true)
  (hQ:∀ c a w,Q (.panic c) (a.put oi.dst v) w→Q (.panic c) a w) (hw:Region.wanted oi (yielded L.toArray a.tmps)=true) (hy:∀ u,S u→(execOp a.eval oi).run P u=.ok (.value v) u) (hS:S w)
  (h:Jg P md L.toArray Q S T fuel (listed.setIfInBounds i true) (a.put oi.dst v) w):Jg P md L.toArray Q S T (fuel+1) listed a w :=
 Jg.firstU (Up hd) (Region.noSelect_spec hs) hQ (Zrh 40 T (Bool.and_eq_true_iff.1 hT).1) fuel listed a w (Zqx (Bool.and_eq_true_iff.1 hT).2) (Region.free_spec (Up hd) hf) (by simpa using hr) (.inl ⟨hw,hy⟩) hS h
structure AnyP (plan:List Nat) (P:Program) (md:Region.Mode) (ops:Array Oper) (Q:Exit→Act→World→Prop) (S:World→Prop) (T n:Nat) (listed:Array Bool) (a:Act) (w:World):Prop where
 out:Jg P md ops Q S T n listed a w
theorem Yp {L tl:List Oper} {i:Nat} {plan:List Nat} {oi:Oper} {v:Value} {fuel:Nat} {listed:Array Bool} {a:Act} {w:World} (hS:S w) (hy:∀ u,S u→(execOp a.eval oi).run P u=.ok (.value v) u)
  (h:AnyP plan P md L.toArray Q S T fuel (listed.setIfInBounds i true) (a.put oi.dst v) w) (hd:L.drop i=oi :: tl:=by rfl) (hs:Region.noSelect L.toArray=true:=by kernel_rfl) (hf:Region.free md L.toArray listed i=true:=by kernel_rfl)
  (hr:(Region.ready md L.toArray listed).contains i=true:=by kernel_rfl) (hT:(Zgj md L.toArray T i || (Zbv md L.toArray i 40 T && Zhp md L.toArray listed))=true:=by kernel_rfl) (hQ:∀ c a w,Q (.panic c) (a.put oi.dst v) w→Q (.panic c) a w:=by exact fun _ _ _ h=>h)
  (hw:Region.wanted oi (yielded L.toArray a.tmps)=true:=by rfl):AnyP (i :: plan) P md L.toArray Q S T (fuel+1) listed a w :=
 ⟨(Bool.or_eq_true_iff.1 hT).elim (fun hT=>Jz hd hs hf hr hT hQ hw hy hS h.out) (fun hT=>Zx hd hs hf hr hT hQ hw hy hS h.out)⟩
theorem Yx {n:Nat} {listed:Array Bool} {a:Act} {w:World} (h:Jg P md ops Q S T n listed a w):AnyP [] P md ops Q S T n listed a w:=⟨h⟩
theorem Wt {id:Nat} {a:Act} {w:World} (T:Nat) (plan:List Nat) (S:World→Prop) (hm:P.follows .mixedOrders=true)
  (h:AnyP plan P .any ops Q S T ops.size (Array.replicate ops.size false) a w.drew):(Code.region id ops true).wp P Q a w:=Py T S hm h.out
end Go.Proofs.YtblihfpigjiahaaGreatDoor
namespace Go.Proofs.YtblihfpigjiahaaGreatDoor
open Go.RowKit
theorem Zt.grew {base bs:Nat} {V V':Key→Value} {s s':St} {w0 u w2:World} (hk:Za w0 u) {K:Key} (hK:live s K) (hgrow:u.grownBy w2 (V K).ownBlock) {g i:Nat} {v:Value} (h':Zg base (w2.setCell ⟨g,i,none⟩ v) bs V' s') (hg:g=bs∨∃ k,live s k∧(V k).ownBlock=some g)
  (ho:∀ k b,live s' k→(V' k).ownBlock=some b→b<w0.heap.size→∃ k',live s k'∧(V k').ownBlock=some b):Zt base bs V s w0 V' s' (w2.setCell ⟨g,i,none⟩ v):=by
 refine ⟨h',hgrow.os.trans hk.os,hgrow.tape.trans hk.tape,hgrow.output.trans hk.output,Nat.le_trans hk.size (by simpa [World.setCell] using hgrow.size),fun b hb hn hoff=>?_,fun b hb hoff k hk e=>?_⟩
 ·rw [Below.heap_setCell _ _ _ _ (fun e=>?_)]
  ·exact (hgrow.block b (Nat.lt_of_lt_of_le hb hk.size) (fun e=>hoff K hK e.symm)).trans (hk.block b hb)
  ·have e:b=g:=e
   rcases hg with hg | ⟨k,hk,hg⟩
   ·exact hn (e.trans hg)
   ·exact hoff k hk (by rw [hg,e])
 ·obtain ⟨k',hk',e'⟩:=ho k b hk e hb
  exact hoff k' hk' e'
theorem Zya {base bs:Nat} {V:Key→Value} {s:St} {w w3:World} (h:Zg base w bs V s) (hk:Za w w3) {i gF capF g q cap BL:Nat} (hi:i<s.fibers.length) (hF:V .fibers=.slice (some ⟨gF,0,none⟩) s.fibers.length capF) (hf:V (.frames i)=.slice (some ⟨g,0,none⟩) q cap) (hq:(Zc s i).frames.length=q) (hfr:q≤1000)
  (f:Fr) (hst:f.stack=[]) (hlo:f.locals.length≤1000) (hBL:w3.heap[BL]?=some (.cells (ints f.locals).toArray 3)) (hB:w.heap.size≤BL) :
  ∃ o c w4 V4,(Builtin.append_ #[44,44] 44 #[.slice (some ⟨g,0,none⟩) q cap,.slice (some ⟨w3.heap.size,0,none⟩) 1 1]).run Tryz.prog (w3.alloc (.cells #[.int .i64 f.fn,.int .i64 f.at_,.slice (some ⟨BL,0,none⟩) f.locals.length f.locals.length,.slice none 0 0] 48))=.ok (.slice o (q+1) c) w4 ∧
   w4.cell? ⟨gF,i*2,none⟩=some (.slice (some ⟨g,0,none⟩) q cap)∧w4.frozen? ⟨gF,i*2,none⟩=false∧(∀ {p:Addr} {x:Value},w3.cell? p=some x→(V (.frames i)).ownBlock≠some p.block→w4.cell? p=some x)∧Below base w w4∧Zt base bs V s w V4 (Zj s i { Zc s i with frames:=(Zc s i).frames++[f] }) (w4.setCell ⟨gF,i*2,none⟩ (.slice o (q+1) c)):=by
 have hku:Za w (w3.alloc (.cells #[.int .i64 f.fn,.int .i64 f.at_,.slice (some ⟨BL,0,none⟩) f.locals.length f.locals.length,.slice none 0 0] 48)):=hk.alloc _
 have hu:=h.kept hku
 obtain ⟨hbn,hbo⟩:=h.new hB
 have hlow:=h.low
 have hbw:=lt_of_block h.var
 obtain ⟨v',w4,V4,hrun,⟨o,c,rfl⟩,hov,hgr,hbl⟩:=Zlk hu hi hF (by omega) f hst hlo (Zo hBL _) hbo (by omega) (fun e=>hbn e.symm) (Zh rfl)
 have hFb:(V .fibers).ownBlock=some gF:=by rw [hF];rfl
 have hgF:(V (.frames i)).ownBlock≠some gF:=fun e=>by have:=h.own.apart (.frames i) .fibers gF hi trivial e hFb;cases this
 obtain ⟨gF',capF',eF',_,k0,_,kz,_⟩:=hu.own.fib hi
 rw [hF] at eF'
 obtain ⟨⟨rfl⟩,-,rfl⟩:=(by simpa using eF':(gF=gF')∧True∧capF=capF')
 rw [hf,hq] at hrun
 rw [hq] at hov
 refine ⟨o,c,w4,V4,hrun,?_,?_,fun {p x} hc hne=>hgr.cell (((Za.refl w3).alloc _).cell hc) (fun e=>hne e.symm),Below.grown (h.below hku) hgr (by have:=hku.size;omega) (fun r hr=>((hu.own.piece (.frames i) hi).block r hr).1),?_⟩
 ·have:=hgr.cell k0 (fun e=>hgF e.symm)
  rw [hf] at this
  exact this
 ·exact (World.frozen?_of_block (hgr.block gF (((hu.own.piece .fibers trivial).block gF hFb).2) (fun e=>hgF e.symm))).trans (kz _)
 ·refine .grew hku (K:=.frames i) hi hgr hov (.inr ⟨.fibers,trivial,hFb⟩) (fun k b hk' e hb=>?_)
  rcases hbl k b hk' e with h1 | h1 | h1
  ·exact h1
  ·omega
  ·have:=hku.size;omega
theorem Ztl (base bs:Nat) (V:Key→Value) (s:St) (i n cp bp op f a lo:Nat) (w:World) (h:Zg base w bs V s) (hn:s.now=i) (hr:Zu s i) (h6:(Zc s i).frames.length≤6) (hf:f<n) (hlo:lo≤1000) (hal:a≤lo) (ha:a≤(Ze s i ((Zc s i).frames.length - 1)).stack.length)
  (hp:∀ u,Below base w u→u.cell? ⟨bp,op+f*3,none⟩=some (.int .i64 a)∧u.cell? ⟨bp,op+f*3+1,none⟩=some (.int .i64 lo)) :
  Calls Tryz.prog 97 #[eng bs (.slice (some ⟨bp,op,none⟩) n cp),.int .i64 f] w (Qj base bs V s (Zce s i f a lo) w):=by
 have hi:=hr.lt
 obtain ⟨gF,capF,eF,hrun⟩:=Zfc h hn hi (some ⟨bp,op,none⟩) n cp
 obtain ⟨g,cap,eg,hqc,_⟩:=h.own.fr hi (j:=0) hr.fr
 have HT:=Zb hrun
 have HO:=Zb h
 have HEF:=Zb eF
 have HEG:=Zb eg
 have HPC:=Zb hp
 have hf0:(0:Int)≤(f:Int):=by omega
 have hf1:(f:Int)<(n:Int):=by omega
 clear hrun h hp
 by_cases hq6:(Zc s i).frames.length=6
 ·have hR:Zce s i f a lo=(St.zero,2):=by unfold Zce;rw [if_pos hq6]
  rw [hR]
  rw [hq6] at eg
  have HEG6:=Zb eg
  clear hR eg
  go_enter Tryz.func97,Tryz.ntmps97
  go_wp2_with fail
  generalize hwb:w.alloc (.cells #[.pointer (some ⟨bs,0,none⟩),.slice (some ⟨bp,op,none⟩) n cp] 93)=wb
  have hkb:Za w wb:=by rw [← hwb];exact (Za.refl w).alloc _
  have hob:Zg base wb bs V s:=(un HO).kept hkb
  refine ((un HT) wb hob).mono ?_
  rintro e w1 ⟨rfl,hk1⟩
  have ho1:=hob.kept hk1
  obtain ⟨gF',capF',eF',_,k0,k1,kz,_⟩:=ho1.own.fib hi
  rw [un HEF] at eF'
  obtain ⟨⟨rfl⟩,-,rfl⟩:=(by simpa using eF':(gF=gF')∧True∧capF=capF')
  rw [un HEG6] at k0
  have HB:Hid (Yh bs V s w w1):=Zb (Yh.of_kept (hkb.trans hk1))
  clear hwb hob hkb hk1 ho1 kz k1 eF'
  go_wp2
  exact ⟨rfl,Or.inr ⟨by decide,rfl,un HB⟩⟩
 ·have hb6:(((Zc s i).frames.length:Int) == 6)=false:=by rw [beq_eq_false_iff_ne];omega
  have hR:Zce s i f a lo=(Zj (Xw s i a) i { Zc (Xw s i a) i with frames:=(Zc (Xw s i a) i).frames++[Qy f lo ((Ze s i ((Zc s i).frames.length - 1)).stack.drop ((Ze s i ((Zc s i).frames.length - 1)).stack.length - a))] },0):=by unfold Zce;rw [if_neg hq6]
  rw [hR]
  obtain ⟨f1,f2,f3,f4,f5,f6⟩:=Zes hr a
  have hvl:((Ze s i ((Zc s i).frames.length - 1)).stack.drop ((Ze s i ((Zc s i).frames.length - 1)).stack.length - a)).length=a:=by rw [List.length_drop];omega
  have HTA:Hid (∀ u V',Zg base u bs V' s→Calls Tryz.prog 128 #[eng bs (.slice (some ⟨bp,op,none⟩) n cp),.int .i64 a] u (fun e w'=>∃ ov cv V2,e=.returned (.slice ov a cv)∧Xj w' (.slice ov a cv) ((Ze s i ((Zc s i).frames.length - 1)).stack.drop ((Ze s i ((Zc s i).frames.length - 1)).stack.length - a))∧Zt base bs V' s u V2 (Xw s i a) w'∧V2 (.frames i)=V' (.frames i)∧V2 .fibers=V' .fibers)):=Zb (fun u V' hu =>
   (Zlw base bs V' s i a n cp (some ⟨bp,op,none⟩) u hu hn hr ha).mono (by
    rintro e w' ⟨v,V2,rfl,hv,hm,hV⟩
    obtain ⟨ov,cv,rfl,hb,hc⟩:=hv
    refine ⟨ov,cv,V2,by rw [hvl],⟨ov,cv,by rw [hvl],hb,hc⟩,hm,hV _ (by simp),hV _ (by simp)⟩))
  generalize (Ze s i ((Zc s i).frames.length - 1)).stack.drop ((Ze s i ((Zc s i).frames.length - 1)).stack.length - a)=vals at *
  generalize hs1:Xw s i a=s1 at *
  generalize hq:(Zc s i).frames.length=q at *
  have hcl:(Qy f lo vals).locals.length=lo:=by unfold Qy;simp [hvl];omega
  have HBG:Hid (∀ u ov cv,Below base w u→Xj u (.slice ov a cv) vals→Calls Tryz.prog 130 #[eng bs (.slice (some ⟨bp,op,none⟩) n cp),.int .i64 f,.slice ov a cv] u (Zgz f lo (Qy f lo vals).locals u)):=Zb (fun u ov cv hb hv=>Zon bs f lo n cp bp op _ vals u hf hlo hv (by omega) ((un HPC) u hb).2)
  have HCF:Hid (∀ w2 V2 w3 BL,Zg base w2 bs V2 s1→Za w2 w3→V2 .fibers=V .fibers→V2 (.frames i)=V (.frames i)→w3.heap[BL]?=some (.cells (ints (Qy f lo vals).locals).toArray 3)→w2.heap.size≤BL→∃ o c w4 V4,(Builtin.append_ #[44,44] 44 #[.slice (some ⟨g,0,none⟩) q cap,.slice (some ⟨w3.heap.size,0,none⟩) 1 1]).run Tryz.prog (w3.alloc (.cells #[.int .i64 f,.int .i64 0,.slice (some ⟨BL,0,none⟩) lo lo,.slice none 0 0] 48))=.ok (.slice o (q+1) c) w4 ∧
   w4.cell? ⟨gF,i*2,none⟩=some (.slice (some ⟨g,0,none⟩) q cap)∧w4.frozen? ⟨gF,i*2,none⟩=false∧(∀ {p:Addr} {x:Value},w3.cell? p=some x→(V2 (.frames i)).ownBlock≠some p.block→w4.cell? p=some x)∧Below base w2 w4∧Zt base bs V2 s1 w2 V4 (Zj s1 i { Zc s1 i with frames:=(Zc s1 i).frames++[Qy f lo vals] }) (w4.setCell ⟨gF,i*2,none⟩ (.slice o (q+1) c))):=Zb (fun w2 V2 w3 BL hu hk hVF hVf hBL hB=>by
   have:=Zya hu hk (i:=i) (gF:=gF) (capF:=capF) (g:=g) (q:=q) (cap:=cap) (BL:=BL) (by rw [f1];exact hi) (by rw [hVF,f1];exact un HEF) (by rw [hVf];exact un HEG) f4 (by omega) (Qy f lo vals) rfl (by omega) hBL hB
   rw [hcl] at this
   exact this)
  have HS2:Hid (∀ (w2:World) (V2:Key→Value),Zg base w2 bs V2 s1→V2 .fibers=V .fibers→V2 (.frames i)=V (.frames i)→w2.cell? ⟨gF,i*2,none⟩=some (.slice (some ⟨g,0,none⟩) q cap)):=Zb (fun w2 V2 hu hVF hVf=>by
   obtain ⟨gF',capF',eF',_,k0,_⟩:=hu.own.fib (i:=i) (by rw [f1];exact hi)
   rw [hVF,f1,un HEF] at eF'
   obtain ⟨⟨rfl⟩,-,rfl⟩:=(by simpa using eF':(gF=gF')∧True∧capF=capF')
   rw [hVf,un HEG] at k0
   exact k0)
  generalize Zj s1 i { Zc s1 i with frames:=(Zc s1 i).frames++[Qy f lo vals] }=s2 at *
  generalize (Qy f lo vals).locals=L at *
  clear hR f1 f2 f3 f4 f5 f6 hs1 hcl hr eg eF
  go_enter Tryz.func97,Tryz.ntmps97
  go_wp2_with fail
  generalize hwb:w.alloc (.cells #[.pointer (some ⟨bs,0,none⟩),.slice (some ⟨bp,op,none⟩) n cp] 93)=wb
  have hkb:Za w wb:=by rw [← hwb];exact (Za.refl w).alloc _
  have lB:wb.heap[w.heap.size]?=some (.cells #[.pointer (some ⟨bs,0,none⟩),.slice (some ⟨bp,op,none⟩) n cp] 93):=by rw [← hwb];exact Zh rfl
  have hob:Zg base wb bs V s:=(un HO).kept hkb
  refine ((un HT) wb hob).mono ?_
  rintro e w1 ⟨rfl,hk1⟩
  have ho1:=hob.kept hk1
  have hk01:=hkb.trans hk1
  have l1:=Zn hk1 lB
  have b0:w1.cell? ⟨w.heap.size,0,none⟩=some (.pointer (some ⟨bs,0,none⟩)):=Zd l1 0
  have b1:w1.cell? ⟨w.heap.size,1,none⟩=some (.slice (some ⟨bp,op,none⟩) n cp):=Zd l1 1
  obtain ⟨gF',capF',eF',_,k0,_,_,_⟩:=ho1.own.fib hi
  rw [un HEF] at eF'
  obtain ⟨⟨rfl⟩,-,rfl⟩:=(by simpa using eF':(gF=gF')∧True∧capF=capF')
  rw [un HEG] at k0
  obtain ⟨hBn,hBo⟩:=(un HO).new (b:=w.heap.size) (by omega)
  obtain ⟨p0,p1⟩:=(un HPC) w1 ((un HO).below hk01)
  have HM1:=Zb ((Zt.of_kept (un HO) hk01).drew)
  have HL1:=Zb (Xc l1)
  have HBO:=Zb hBo
  clear hwb hob hkb hk1 ho1 eF' hk01 lB l1 hBo HT
  go_upto_region 4 with fail
  refine Wt 20 [0,1,2,3,4,5,6,7,8,9,10,11,12,13] (fun u=>u.cell? ⟨gF,i*2,none⟩=some (.slice (some ⟨g,0,none⟩) q cap)∧u.cell? ⟨w.heap.size,0,none⟩=some (.pointer (some ⟨bs,0,none⟩))∧u.cell? ⟨w.heap.size,1,none⟩=some (.slice (some ⟨bp,op,none⟩) n cp)∧u.cell? ⟨bp,op+f*3,none⟩=some (.int .i64 a)) (by kernel_rfl) ?_
  have hHeld:=And.intro k0 (And.intro b0 (And.intro b1 p0))
  repeat
   refine Yp (v:=?_) hHeld (fun u hSu=>?_) ?_
   rotate_left
   ·((try dsimp only at hSu);go_simp) <;> with_reducible rfl
   simp only [PS]
  refine Yx ?_
  refine Zq (i:=14) rfl (by kernel_rfl) (fun K hK=>?_)
  go_simp
  refine ((un HTA) _ V (un HM1).own).mono ?_
  rintro e w2 ⟨ov,cv,V2,rfl,hv2,hm2,hVf2,hVF2⟩
  have l2:=hm2.lays (un HL1) hBn (un HBO)
  have hS2:=And.intro ((un HS2) w2 V2 hm2.own hVF2 hVf2) (And.intro (show w2.cell? ⟨w.heap.size,0,none⟩=some (.pointer (some ⟨bs,0,none⟩)) from Zd l2 0) (And.intro (show w2.cell? ⟨w.heap.size,1,none⟩=some (.slice (some ⟨bp,op,none⟩) n cp) from Zd l2 1) ((un HPC) w2 (((un HM1).trans hm2).below (un HO))).1))
  refine hK.out _ _ (fun _=>hS2) ?_
  clear hK K
  try simp only [PS]
  refine Zq (i:=15) rfl (by kernel_rfl) (fun K hK=>?_)
  go_simp
  refine ((un HBG) _ ov cv (((un HM1).trans hm2).below (un HO)) hv2).mono ?_
  rintro e w3 ⟨BL,rfl,lBL,hBL,hk3⟩
  obtain ⟨o4,c4,w4,V4,hrun,hc4,hz4,hcl4,hb4,hm4⟩:=(un HCF) w2 V2 w3 BL hm2.own hk3 hVF2 hVf2 lBL hBL
  have HM4:=Zb (((un HM1).trans hm2).trans hm4)
  refine hK.out _ _ (fun _=>⟨hk3.cell hS2.1,hk3.cell hS2.2.1,hk3.cell hS2.2.2.1,hk3.cell hS2.2.2.2⟩) ?_
  clear hK K
  try simp only [PS]
  refine Zq (i:=16) rfl (by kernel_rfl) (fun K hK=>?_)
  go_simp
  refine hK.out _ _ (fun _=>⟨(hk3.alloc _).cell hS2.1,(hk3.alloc _).cell hS2.2.1,(hk3.alloc _).cell hS2.2.2.1,(hk3.alloc _).cell hS2.2.2.2⟩) ?_
  clear hK K
  try simp only [PS]
  have hS4:w4.cell? ⟨gF,i*2,none⟩=some (.slice (some ⟨g,0,none⟩) q cap)∧w4.cell? ⟨w.heap.size,0,none⟩=some (.pointer (some ⟨bs,0,none⟩))∧w4.cell? ⟨w.heap.size,1,none⟩=some (.slice (some ⟨bp,op,none⟩) n cp)∧w4.cell? ⟨bp,op+f*3,none⟩=some (.int .i64 a):=by
   have hne:(V2 (.frames i)).ownBlock≠some w.heap.size:=by rw [hVf2];exact (un HBO) (.frames i) hi
   exact ⟨hc4,hcl4 (hk3.cell hS2.2.1) hne,hcl4 (hk3.cell hS2.2.2.1) hne,((un HPC) w4 (Below.trans (((un HM1).trans hm2).below (un HO)) hb4)).1⟩
  refine Zq (i:=17) rfl (by kernel_rfl) (fun K hK=>?_)
  rw [if_pos (by rfl)]
  refine Yo (v:=.slice (some ⟨g,0,none⟩) q cap) _ _ _ 44 rfl rfl rfl hrun ?_
  refine hK.out _ _ (fun _=>hS4) ?_
  clear hK K
  try simp only [PS]
  refine Zq (i:=18) rfl (by kernel_rfl) (fun K hK=>?_)
  go_simp
  refine hK.out _ _ (fun _=>hS4) ?_
  clear hK K
  try simp only [PS]
  refine Zq (i:=19) rfl (by kernel_rfl) (fun K hK=>?_)
  go_simp
  refine hK.out _ _ (fun _=>hS4) ?_
  clear hK K
  try simp only [PS]
  refine Zq (i:=20) rfl (by kernel_rfl) (fun K hK=>?_)
  go_simp
  refine hK.out _ _ (fun h=>absurd rfl h) ?_
  clear hK K
  refine Qz (by kernel_rfl) ?_ _
  go_wp2
  go_end0
  exact Or.inl ⟨rfl,rfl,V4,un HM4⟩
theorem Zpe {base bs:Nat} {V:Key→Value} {s:St} {w w3:World} (h:Zg base w bs V s) (hk:Za w w3) {capF BL:Nat} {oF:Option Addr} (hF:V .fibers=.slice oF s.fibers.length capF) (hfr:s.fibers.length≤1000)
  (f:Fr) (hst:f.stack=[]) (hlo:f.locals.length≤1000) (hBL:w3.heap[BL]?=some (.cells (ints f.locals).toArray 3)) (hB:w.heap.size≤BL) :
  ∃ o c w4 V4,(Builtin.append_ #[23,23] 23 #[.slice oF s.fibers.length capF,.slice (some ⟨w3.heap.size+1,0,none⟩) 1 1]).run Tryz.prog ((w3.alloc (.cells #[.int .i64 f.fn,.int .i64 f.at_,.slice (some ⟨BL,0,none⟩) f.locals.length f.locals.length,.slice none 0 0] 48)).alloc (.cells #[.slice (some ⟨w3.heap.size,0,none⟩) 1 1,.int .i64 (-1)] 46))=.ok (.slice o (s.fibers.length+1) c) w4 ∧
   w4.cell? ⟨bs,0,none⟩=some (.slice oF s.fibers.length capF)∧w4.frozen? ⟨bs,0,none⟩=false∧(∀ {p:Addr} {x:Value},w3.cell? p=some x→(V .fibers).ownBlock≠some p.block→w4.cell? p=some x)∧Below base w w4∧Zt base bs V s w V4 { s with fibers:=s.fibers++[⟨[f],-1⟩] } (w4.setCell ⟨bs,0,none⟩ (.slice o (s.fibers.length+1) c)):=by
 have hku:Za w ((w3.alloc (.cells #[.int .i64 f.fn,.int .i64 f.at_,.slice (some ⟨BL,0,none⟩) f.locals.length f.locals.length,.slice none 0 0] 48)).alloc (.cells #[.slice (some ⟨w3.heap.size,0,none⟩) 1 1,.int .i64 (-1)] 46)):=(hk.alloc _).alloc _
 have hu:=h.kept hku
 obtain ⟨hbn,hbo⟩:=h.new hB
 have hsz:=hk.size
 obtain ⟨hbn',hbo'⟩:=h.new (b:=w3.heap.size) hsz
 have hlow:=h.low
 have hbw:=lt_of_block h.var
 have hlB:BL<w3.heap.size:=(Array.getElem?_eq_some_iff.1 hBL).1
 obtain ⟨v',w4,V4,hrun,⟨o,c,rfl⟩,hov,hgr,hbl⟩:=Zmn (B:=w3.heap.size+1) hu hfr f (-1) hst hlo (Zo (Zo hBL _) _) hbo (by omega) (fun e=>hbn e.symm) (Zo (Zh rfl) _) hbo' (by omega) (fun e=>hbn' e.symm) (by omega) (Zh (by simp))
 rw [hF] at hrun
 refine ⟨o,c,w4,V4,hrun,?_,?_,fun {p x} hc hne=>hgr.cell ((((Za.refl w3).alloc _).alloc _).cell hc) (fun e=>hne e.symm),Below.grown (h.below hku) hgr (by have:=hku.size;omega) (fun r hr=>((hu.own.piece .fibers trivial).block r hr).1),?_⟩
 ·have:=hgr.cell hu.cells.1 (fun e=>h.off .fibers trivial e.symm)
  rw [hF] at this
  exact this
 ·exact (World.frozen?_of_block (hgr.block bs (lt_of_block hu.var) (fun e=>h.off .fibers trivial e.symm))).trans (hu.cells.2.2.2 0)
 ·refine .grew hku (K:=.fibers) trivial hgr hov (.inl rfl) (fun k b hk' e hb=>?_)
  rcases hbl k b hk' e with h1 | h1 | h1 | h1
  ·exact h1
  ·omega
  ·omega
  ·have:=hku.size;omega
theorem Xdt (base bs:Nat) (V:Key→Value) (s:St) (i n cp bp op f lo:Nat) (w:World) (h:Zg base w bs V s) (hn:s.now=i) (hr:Zu s i) (h5:s.fibers.length≤5) (hf:f<n) (hlo:lo≤1000)
  (hp:∀ u,Below base w u→u.cell? ⟨bp,op+f*3+1,none⟩=some (.int .i64 lo)) :
  Calls Tryz.prog 99 #[eng bs (.slice (some ⟨bp,op,none⟩) n cp),.int .i64 f] w (Qj base bs V s (Zaf s i f lo) w):=by
 have hi:=hr.lt
 obtain ⟨c0,_,_,_⟩:=h.cells
 obtain ⟨xs,hrow,_⟩:=h.own.piece .fibers trivial
 obtain ⟨oF,capF,eF,_⟩:=Zw hrow
 rw [eF] at c0
 have HO:=Zb h
 have HEF:=Zb eF
 have HPC:=Zb hp
 have hbw:=lt_of_block h.var
 have hlow:=h.low
 have d0:∀ o,(w.alloc o).cell? ⟨bs,0,none⟩=some (.slice oF s.fibers.length capF):=fun o=>((Za.refl w).alloc o).cell c0
 clear hrow h hp eF
 by_cases hq5:s.fibers.length=5
 ·have hR:Zaf s i f lo=(St.zero,2):=by unfold Zaf;rw [if_pos hq5]
  rw [hR]
  rw [hq5] at d0
  clear hR c0
  go_enter Tryz.func99,Tryz.ntmps99
  go_wp2
  exact ⟨rfl,Or.inr ⟨by decide,rfl,Yh.of_kept ((Za.refl w).alloc _)⟩⟩
 ·have hb5:((s.fibers.length:Int) == 5)=false:=by rw [beq_eq_false_iff_ne];omega
  have hR:Zaf s i f lo=(Zy { s with fibers:=s.fibers++[⟨[Qy f lo []],-1⟩] } i s.fibers.length,0):=by unfold Zaf;rw [if_neg hq5]
  rw [hR]
  have hs1f:Zc { s with fibers:=s.fibers++[⟨[Qy f lo []],-1⟩] } i=Zc s i:=Zcy _ _ _ _ hi
  have hr1:Zu { s with fibers:=s.fibers++[⟨[Qy f lo []],-1⟩] } i:=by
   have hfr:∀ j,Ze { s with fibers:=s.fibers++[⟨[Qy f lo []],-1⟩] } i j=Ze s i j:=fun j=>by unfold Ze;rw [hs1f]
   exact ⟨by simp;omega,by rw [hs1f];exact hr.fr,by rw [hs1f];exact hr.frs,by rw [hfr,hs1f];exact hr.st⟩
  have hn1:({ s with fibers:=s.fibers++[⟨[Qy f lo []],-1⟩] }:St).now=i:=hn
  have hl1:({ s with fibers:=s.fibers++[⟨[Qy f lo []],-1⟩] }:St).fibers.length=s.fibers.length+1:=by simp
  have hcl:(Qy f lo []).locals.length=lo:=by unfold Qy;simp
  have HBG:Hid (∀ u,Below base w u→Calls Tryz.prog 130 #[eng bs (.slice (some ⟨bp,op,none⟩) n cp),.int .i64 f,.slice none 0 0] u (Zgz f lo (Qy f lo []).locals u)):=Zb (fun u hb=>Zon bs f lo n cp bp op _ [] u hf hlo (Xj.nil _) (by simp) ((un HPC) u hb))
  have HCF:Hid (∀ w2 w3 BL,Zg base w2 bs V s→Za w2 w3→w3.heap[BL]?=some (.cells (ints (Qy f lo []).locals).toArray 3)→w2.heap.size≤BL→∃ o c w4 V4,(Builtin.append_ #[23,23] 23 #[.slice oF s.fibers.length capF,.slice (some ⟨w3.heap.size+1,0,none⟩) 1 1]).run Tryz.prog ((w3.alloc (.cells #[.int .i64 f,.int .i64 0,.slice (some ⟨BL,0,none⟩) lo lo,.slice none 0 0] 48)).alloc (.cells #[.slice (some ⟨w3.heap.size,0,none⟩) 1 1,.int .i64 (-1)] 46))=.ok (.slice o (s.fibers.length+1) c) w4 ∧
   w4.cell? ⟨bs,0,none⟩=some (.slice oF s.fibers.length capF)∧w4.frozen? ⟨bs,0,none⟩=false∧(∀ {p:Addr} {x:Value},w3.cell? p=some x→(V .fibers).ownBlock≠some p.block→w4.cell? p=some x)∧Below base w2 w4∧Zt base bs V s w2 V4 { s with fibers:=s.fibers++[⟨[Qy f lo []],-1⟩] } (w4.setCell ⟨bs,0,none⟩ (.slice o (s.fibers.length+1) c))):=Zb (fun w2 w3 BL hu hk hBL hB=>by
   have:=Zpe hu hk (un HEF) (by omega) (Qy f lo []) rfl (by omega) hBL hB
   rw [hcl] at this
   exact this)
  generalize hs1:({ s with fibers:=s.fibers++[⟨[Qy f lo []],-1⟩] }:St)=s1 at *
  generalize hN:s.fibers.length=N at *
  have HPUT:Hid (∀ V2 u,Zg base u bs V2 s1→Calls Tryz.prog 87 #[eng bs (.slice (some ⟨bp,op,none⟩) n cp),.slice (some ⟨u.heap.size,0,none⟩) 1 1] (u.alloc (.cells #[.int .i64 N] 3)).drew (Jq base bs V2 s1 (Zy s1 i N) (.tuple #[]) (u.alloc (.cells #[.int .i64 N] 3)).drew)):=Zb (fun V2 u hu =>
   Zbg base bs V2 s1 i n cp u.heap.size (some ⟨bp,op,none⟩) N _ ((hu.alloc _).kept (Za.refl _).drew) hn1 hr1 (Zd (Xc (Zh rfl)) 0))
  generalize (Qy f lo []).locals=L at *
  have HL1:=Zb hl1
  clear hR hs1 hcl hr hr1 hn1 hl1 hs1f hN
  go_enter Tryz.func99,Tryz.ntmps99
  go_upto_region 3 with fail
  generalize hwb:w.alloc (.cells #[.pointer (some ⟨bs,0,none⟩),.slice (some ⟨bp,op,none⟩) n cp] 93)=wb
  have hkb:Za w wb:=by rw [← hwb];exact (Za.refl w).alloc _
  have lB:wb.heap[w.heap.size]?=some (.cells #[.pointer (some ⟨bs,0,none⟩),.slice (some ⟨bp,op,none⟩) n cp] 93):=by rw [← hwb];exact Zh rfl
  have b0:wb.cell? ⟨w.heap.size,0,none⟩=some (.pointer (some ⟨bs,0,none⟩)):=Zd lB 0
  have b1:wb.cell? ⟨w.heap.size,1,none⟩=some (.slice (some ⟨bp,op,none⟩) n cp):=Zd lB 1
  have k0:wb.cell? ⟨bs,0,none⟩=some (.slice oF N capF):=by rw [← hwb];exact d0 _
  obtain ⟨hBn,hBo⟩:=(un HO).new (b:=w.heap.size) (by omega)
  have HM1:=Zb ((Zt.of_kept (un HO) hkb).drew)
  clear hwb d0 c0
  refine Wt 16 [0,1,2,3,4,5,6,7,8] (fun u=>u.cell? ⟨bs,0,none⟩=some (.slice oF N capF)∧u.cell? ⟨w.heap.size,0,none⟩=some (.pointer (some ⟨bs,0,none⟩))∧u.cell? ⟨w.heap.size,1,none⟩=some (.slice (some ⟨bp,op,none⟩) n cp)) (by kernel_rfl) ?_
  have hHeld:=And.intro k0 (And.intro b0 b1)
  repeat
   refine Yp (v:=?_) hHeld (fun u hSu=>?_) ?_
   rotate_left
   ·((try dsimp only at hSu);go_simp) <;> with_reducible rfl
   try simp only [PS]
  refine Yx ?_
  refine Zq (i:=9) rfl (by kernel_rfl) (fun K hK=>?_)
  go_simp
  refine ((un HBG) _ ((un HM1).below (un HO))).mono ?_
  rintro e w3 ⟨BL,rfl,lBL,hBL,hk3⟩
  obtain ⟨o4,c4,w4,V4,hrun,hc4,hz4,hcl4,hb4,hm4⟩:=(un HCF) wb.drew w3 BL (un HM1).own hk3 lBL hBL
  have HM4:=Zb ((un HM1).trans hm4)
  have hS3:=And.intro (hk3.cell k0) (And.intro (hk3.cell b0) (hk3.cell b1))
  refine hK.out _ _ (fun _=>hS3) ?_
  clear hK K
  try simp only [PS]
  refine Zq (i:=10) rfl (by kernel_rfl) (fun K hK=>?_)
  go_simp
  refine hK.out _ _ (fun _=>⟨((Za.refl w3).alloc _).cell hS3.1,((Za.refl w3).alloc _).cell hS3.2.1,((Za.refl w3).alloc _).cell hS3.2.2⟩) ?_
  clear hK K
  try simp only [PS]
  refine Zq (i:=11) rfl (by kernel_rfl) (fun K hK=>?_)
  go_simp
  refine hK.out _ _ (fun _=>⟨((Za.refl w3).alloc _).cell hS3.1,((Za.refl w3).alloc _).cell hS3.2.1,((Za.refl w3).alloc _).cell hS3.2.2⟩) ?_
  clear hK K
  try simp only [PS]
  refine Zq (i:=12) rfl (by kernel_rfl) (fun K hK=>?_)
  go_simp
  refine hK.out _ _ (fun _=>⟨(((Za.refl w3).alloc _).alloc _).cell hS3.1,(((Za.refl w3).alloc _).alloc _).cell hS3.2.1,(((Za.refl w3).alloc _).alloc _).cell hS3.2.2⟩) ?_
  clear hK K
  try simp only [PS]
  have hne:(V .fibers).ownBlock≠some w.heap.size:=hBo .fibers trivial
  have hS4:=And.intro hc4 (And.intro (hcl4 hS3.2.1 hne) (hcl4 hS3.2.2 hne))
  refine Zq (i:=13) rfl (by kernel_rfl) (fun K hK=>?_)
  rw [if_pos (by rfl)]
  refine Yo (v:=.slice oF N capF) _ _ _ 23 rfl rfl rfl hrun ?_
  refine hK.out _ _ (fun _=>hS4) ?_
  clear hK K
  try simp only [PS]
  refine Zq (i:=14) rfl (by kernel_rfl) (fun K hK=>?_)
  go_simp
  refine hK.out _ _ (fun _=>hS4) ?_
  clear hK K
  try simp only [PS]
  refine Zq (i:=15) rfl (by kernel_rfl) (fun K hK=>?_)
  go_simp
  refine hK.out _ _ (fun _=>hS4) ?_
  clear hK K
  try simp only [PS]
  refine Zq (i:=16) rfl (by kernel_rfl) (fun K hK=>?_)
  go_simp
  refine hK.out _ _ (fun h=>absurd rfl h) ?_
  clear hK K
  refine Qz (by kernel_rfl) ?_ _
  have l5:(w4.setCell ⟨bs,0,none⟩ (.slice o4 (N+1) c4)).heap[w.heap.size]?=some (.cells #[.pointer (some ⟨bs,0,none⟩),.slice (some ⟨bp,op,none⟩) n cp] 93):=hm4.lays (Xc lB) hBn hBo
  have hc5:(w4.setCell ⟨bs,0,none⟩ (.slice o4 (N+1) c4)).cell? ⟨bs,0,none⟩=some (.slice o4 (N+1) c4):=World.cell?_setCell_same _ _ _ hc4
  generalize w4.setCell ⟨bs,0,none⟩ (.slice o4 (N+1) c4)=w5 at *
  have q0:w5.cell? ⟨w.heap.size,0,none⟩=some (.pointer (some ⟨bs,0,none⟩)):=Zd l5 0
  have q1:w5.cell? ⟨w.heap.size,1,none⟩=some (.slice (some ⟨bp,op,none⟩) n cp):=Zd l5 1
  have hwn:IntKind.i64.wrap (N:Int)=(N:Int):=by rw [IntKind.wrap_i64];omega
  have hwn1:IntKind.i64.wrap ((N:Int)+1 - 1)=(N:Int):=by rw [IntKind.wrap_i64];omega
  clear hm4 hcl4 hb4 hS4 hS3 hrun hc4 hz4 hne lBL hBL hk3 hHeld k0 b0 b1 lB l5 hkb HCF HBG
  go_upto_region 4 with fail
  refine Wt 9 [0,1,2,3,4,5,6,7] (fun u=>u.cell? ⟨bs,0,none⟩=some (.slice o4 (N+1) c4)∧u.cell? ⟨w.heap.size,0,none⟩=some (.pointer (some ⟨bs,0,none⟩))∧u.cell? ⟨w.heap.size,1,none⟩=some (.slice (some ⟨bp,op,none⟩) n cp)) (by kernel_rfl) ?_
  have hHeld:=And.intro hc5 (And.intro q0 q1)
  repeat
   refine Yp (v:=?_) hHeld (fun u hSu=>?_) ?_
   rotate_left
   ·((try dsimp only at hSu);go_simp) <;> with_reducible rfl
   try simp only [PS]
  refine Yx ?_
  refine Zq (i:=8) rfl (by kernel_rfl) (fun K hK=>?_)
  go_simp
  refine hK.out _ _ (fun _=>⟨((Za.refl w5).alloc _).cell hHeld.1,((Za.refl w5).alloc _).cell hHeld.2.1,((Za.refl w5).alloc _).cell hHeld.2.2⟩) ?_
  clear hK K
  try simp only [PS]
  refine Zq (i:=9) rfl (by kernel_rfl) (fun K hK=>?_)
  go_simp
  refine ((un HPUT) V4 w5 (un HM4).own).mono ?_
  rintro e w6 ⟨rfl,V6,hm6⟩
  have HM6:=Zb ((un HM4).trans (hm6.pre (un HM4).own ((Za.refl _).alloc _).drew))
  refine hK.out _ _ (fun h=>absurd rfl h) ?_
  clear hK K
  refine Qz (by kernel_rfl) ?_ _
  go_wp2
  go_end0
  exact Or.inl ⟨rfl,rfl,V6,un HM6⟩
theorem Zlq (bs N capF gF m n cp:Nat) (oa:Option Addr) (c:Int) (w:World) (hm:m<N)
  (c0:w.cell? ⟨bs,0,none⟩=some (.slice (some ⟨gF,0,none⟩) N capF)) (c1:w.cell? ⟨gF,m*2+1,none⟩=some (.int .i64 c)) :
  Calls Tryz.prog 132 #[eng bs (.slice oa n cp),.int .i64 m] w fun e w'=>e=.returned (.bool (decide (m=0) || !decide (c=-1)))∧Za w w':=by
 have d0:∀ o,(w.alloc o).cell? ⟨bs,0,none⟩=some (.slice (some ⟨gF,0,none⟩) N capF):=fun o=>((Za.refl w).alloc o).cell c0
 have d1:∀ o,(w.alloc o).cell? ⟨gF,m*2+1,none⟩=some (.int .i64 c):=fun o=>((Za.refl w).alloc o).cell c1
 by_cases h0:m=0
 ·subst h0
  go_enter Tryz.func132,Tryz.ntmps132
  go_wp2
  go_ret
  exact ⟨rfl,(Za.refl w).alloc _⟩
 ·have hb:((m:Int) == 0)=false:=by rw [beq_eq_false_iff_ne];omega
  have hm0:(0:Int)≤(m:Int):=by omega
  have hm1:(m:Int)<(N:Int):=by omega
  rw [decide_eq_false h0,Bool.false_or]
  have hbb:(c != -1)=!decide (c=-1):=by by_cases e:c=-1 <;> simp [e]
  generalize hB:(!decide (c=-1))=B at *
  clear hB h0
  go_enter Tryz.func132,Tryz.ntmps132
  go_wp2
  go_ret
  exact ⟨rfl,(Za.refl w).alloc _⟩
theorem Zzy (base bs:Nat) (V:Key→Value) (s:St) (i n cp:Nat) (oa:Option Addr) (x z:Int) (w:World) (h:Zg base w bs V s) (hN:s.fibers.length≤5) (hx:x<0∨(s.fibers.length:Int)≤x) :
  Calls Tryz.prog 100 #[eng bs (.slice oa n cp),.int .i64 x,.int .i64 z] w (Qj base bs V s (Wn s i x z) w):=by
 have hR:Wn s i x z=(St.zero,5):=by unfold Wn;rw [if_pos hx]
 rw [hR]
 obtain ⟨c0,_,_,_⟩:=h.cells
 obtain ⟨xs,hrow,_⟩:=h.own.piece .fibers trivial
 obtain ⟨oF,capF,eF,_⟩:=Zw hrow
 rw [eF] at c0
 have d0:∀ o,(w.alloc o).cell? ⟨bs,0,none⟩=some (.slice oF s.fibers.length capF):=fun o=>((Za.refl w).alloc o).cell c0
 have hbw:=lt_of_block h.var
 have hlow:=h.low
 generalize s.fibers.length=N at *
 clear hrow h eF hR c0
 rcases hx with hx | hx
 ·go_enter Tryz.func100,Tryz.ntmps100
  go_wp2
  exact ⟨rfl,Or.inr ⟨by decide,rfl,Yh.of_kept ((Za.refl w).alloc _)⟩⟩
 ·have hx0:¬ x<0:=by omega
  go_enter Tryz.func100,Tryz.ntmps100
  go_wp2
  exact ⟨rfl,Or.inr ⟨by decide,rfl,Yh.of_kept ((Za.refl w).alloc _)⟩⟩
end Go.Proofs.YtblihfpigjiahaaGreatDoor
