/- OwnJ, Takes, TakesT, TakesU, EngJ -/
import Derived.Test.YtblihfpigjiahaaGreatDoorZB16
import Derived.Test.YtblihfpigjiahaaGreatDoorZB17
import Derived.Test.YtblihfpigjiahaaGreatDoorZB01
import Derived.Test.YtblihfpigjiahaaGreatDoorChecked
import Derived.Deep.RegionHeld3
set_option maxRecDepth 100000
set_option maxHeartbeats 8000000
namespace Go.Proofs.YtblihfpigjiahaaGreatDoor
open Go.RowKit
theorem infoFrame:(Tryz.prog.info? 48).map (fun i=>(i.zero,i.size,i.bytes))=some (some (.agg #[.int .i64 0,.int .i64 0,.slice none 0 0,.slice none 0 0]),4,64):=by kernel_rfl
theorem infoFiber:(Tryz.prog.info? 46).map (fun i=>(i.zero,i.size,i.bytes))=some (some (.agg #[.slice none 0 0,.int .i64 0]),2,32):=by kernel_rfl
theorem at_block (B j:Nat):(⟨B,0,none⟩:Addr).add j=⟨B,j,none⟩:=by unfold Addr.add; split <;> simp_all
theorem row_block {w:World} {base B:Nat} {l:List Int} (hb:base≤B) (hB:w.heap[B]?=some (.cells (ints l).toArray 3)) (hl:l.length≤1000):w.ownsRow base 3 1 (.slice (some ⟨B,0,none⟩) l.length l.length) l.length (ints l) :=
 ⟨by simp [Jw],.inr ⟨B,l.length,(ints l).toArray,rfl,hb,hB,Nat.le_refl _,by unfold maxLen; omega,by simp [Jw],List.take_of_length_le (by simp [Jw])⟩⟩
theorem frame_comes {base bs:Nat} {V:Key→Value} {s:St} {u:World} (h:OwnVar base u bs V s) {i gF capF BL B:Nat} (hi:i < s.fibers.length) (hF:V .fibers=.slice (some ⟨gF,0,none⟩) s.fibers.length capF)
  (hfr:(Za s i).frames.length≤1000) (f:Fr) (hst:f.stack=[]) (hlo:f.locals.length≤1000) (hBL:u.heap[BL]?=some (.cells (ints f.locals).toArray 3)) (hoff:Own.off V s BL) (hlow:base≤BL) (hbsL:bs≠BL)
  (hB:u.heap[B]?=some (.cells #[.int .i64 f.fn,.int .i64 f.at_,.slice (some ⟨BL,0,none⟩) f.locals.length f.locals.length,.slice none 0 0] 48)) :
  ∃ v' w' V',(Builtin.append_ #[44,44] 44 #[V (.frames i),.slice (some ⟨B,0,none⟩) 1 1]).run Tryz.prog u=.ok v' w' ∧
   (∃ o c,v'=.slice o ((Za s i).frames.length + 1) c)∧OwnVar base (w'.setCell ⟨gF,i * 2,none⟩ v') bs V' (Zf s i { Za s i with frames:=(Za s i).frames++[f] })∧u.grownBy w' (V (.frames i)).ownBlock ∧
   ∀ k b,live (Zf s i { Za s i with frames:=(Za s i).frames++[f] }) k→(V' k).ownBlock=some b→(∃ k',live s k'∧(V k').ownBlock=some b)∨b=BL∨b=u.heap.size:=by
 obtain ⟨i0,hi0,hz0,hz1,hz2⟩:=info_parts infoFrame
 have hbw:bs < u.heap.size:=lt_of_block h.var
 have hbase:base≤u.heap.size:=by have:=h.low; omega
 have hlB:BL < u.heap.size:=(Array.getElem?_eq_some_iff.1 hBL).1
 obtain ⟨xs,hrow,_⟩:=h.own.piece (.frames i) hi
 obtain ⟨v',w',hrun,hown',hgrow,_,hat⟩:=run_append_own_at (P:=Tryz.prog) u base 44 44 48 i0 _ 4 64 Tryz.underlying44 hi0 hz0 hz1 hz2 rfl (by decide) _ _ xs hrow ⟨B,0,none⟩ 1 1
  [.int .i64 f.fn,.int .i64 f.at_,.slice (some ⟨BL,0,none⟩) f.locals.length f.locals.length,.slice none 0 0] rfl (fun j x hj=>by
   rw [at_block,Zb hB]
   simpa using hj) (by intro x hx; simp only [List.mem_cons,List.not_mem_nil,or_false] at hx; rcases hx with rfl | rfl | rfl | rfl <;> rfl) (by unfold maxLen; omega) (by omega) (by omega)
 have hFb:(V .fibers).ownBlock=some gF:=by rw [hF]; rfl
 have hloc:w'.ownsRow base 3 1 (.slice (some ⟨BL,0,none⟩) f.locals.length f.locals.length) f.locals.length (ints f.locals) :=
  row_block hlow ((hgrow.block BL hlB (fun e=>hoff (.frames i) hi e.symm)).trans hBL) hlo
 have hadd:=h.own.addFrame hi hF f (.slice (some ⟨BL,0,none⟩) f.locals.length f.locals.length) v' hst (gl:=BL) (.inr rfl) hoff hlB hloc (fun b hb hne=>hgrow.block b hb (fun e=>hne e.symm)) (fun ys hy=>by
  rw [row_unique hy hrow]; exact hown') hat
 have hblk:∀ k b,live (Zf s i { Za s i with frames:=(Za s i).frames++[f] }) k→(upd (upd (upd V (.frames i) v') (.locals i (Za s i).frames.length) (.slice (some ⟨BL,0,none⟩) f.locals.length f.locals.length)) (.stack i (Za s i).frames.length) (.slice none 0 0) k).ownBlock=some b→(∃ k',live s k'∧(V k').ownBlock=some b)∨b=BL∨b=u.heap.size:=by
  intro k b hk e
  by_cases e1:k=.stack i (Za s i).frames.length
  ·rw [e1,Xk] at e; cases e
  rw [Zl _ _ e1] at e
  by_cases e2:k=.locals i (Za s i).frames.length
  ·rw [e2,Xk] at e; exact .inr (.inl (Option.some.inj e).symm)
  rw [Zl _ _ e2] at e
  by_cases e3:k=.frames i
  ·rw [e3,Xk] at e
   rcases hat with h1 | h1
   ·rw [h1] at e; exact .inl ⟨.frames i,hi,e⟩
   ·rw [h1] at e; exact .inr (.inr (Option.some.inj e).symm)
  rw [Zl _ _ e3] at e
  refine .inl ⟨k,?_,e⟩
  have hl:=Zv s i { Za s i with frames:=(Za s i).frames++[f] }
  have hfs:Za (Zf s i { Za s i with frames:=(Za s i).frames++[f] }) i={ Za s i with frames:=(Za s i).frames++[f] }:=Xi _ hi
  have hq:∀ t q,q≠(Za s i).frames.length∨t≠i→t < s.fibers.length→q < (Za (Zf s i { Za s i with frames:=(Za s i).frames++[f] }) t).frames.length→q < (Za s t).frames.length:=fun t q hne _ hq=>by
   by_cases e:i=t
   ·subst e
    rw [hfs] at hq
    simp only [List.length_append,List.length_cons,List.length_nil] at hq
    rcases hne with h1 | h1 <;> omega
   ·rwa [Xr _ e] at hq
  cases k using Key.by with
  | fibers=>trivial
  | out=>trivial
  | frames t=>simpa only [live,hl] using hk
  | locals t q =>
   simp only [live,hl] at hk
   refine ⟨hk.1,hq t q ?_ hk.1 hk.2⟩
   by_cases et:t=i
   ·subst et; exact .inl fun e=>e2 (by rw [e])
   ·exact .inr et
  | stack t q =>
   simp only [live,hl] at hk
   refine ⟨hk.1,hq t q ?_ hk.1 hk.2⟩
   by_cases et:t=i
   ·subst et; exact .inl fun e=>e1 (by rw [e])
   ·exact .inr et
 refine ⟨v',w',_,hrun,?_,h.turn hadd ?_ ?_ ?_ rfl ?_,hgrow,hblk⟩
 ·obtain ⟨o,c,e,_⟩:=Zo hown'
  exact ⟨o,c,e⟩
 ·rw [Below.heap_setCell _ _ _ _ (fun e=>h.off .fibers trivial (by rw [hFb,e]))]
  exact hgrow.block bs hbw (fun e=>h.off (.frames i) hi e.symm)
 ·rw [Zl _ _ (by simp),Zl _ _ (by simp),Zl _ _ (by simp)]
 ·rw [Zl _ _ (by simp),Zl _ _ (by simp),Zl _ _ (by simp)]
 ·intro k hk e
  rcases hblk k bs hk e with ⟨k',hk',e'⟩ | e' | e'
  ·exact h.off k' hk' e'
  ·exact hbsL e'
  ·omega
theorem fiber_comes {base bs:Nat} {V:Key→Value} {s:St} {u:World} (h:OwnVar base u bs V s) {BL BF B:Nat} (hfr:s.fibers.length≤1000) (f:Fr) (c:Int) (hst:f.stack=[]) (hlo:f.locals.length≤1000)
  (hBL:u.heap[BL]?=some (.cells (ints f.locals).toArray 3)) (hoff:Own.off V s BL) (hlow:base≤BL) (hbsL:bs≠BL)
  (hBF:u.heap[BF]?=some (.cells #[.int .i64 f.fn,.int .i64 f.at_,.slice (some ⟨BL,0,none⟩) f.locals.length f.locals.length,.slice none 0 0] 48)) (hoffF:Own.off V s BF) (hlowF:base≤BF) (hbsF:bs≠BF) (hne:BL≠BF)
  (hB:u.heap[B]?=some (.cells #[.slice (some ⟨BF,0,none⟩) 1 1,.int .i64 c] 46)) :
  ∃ v' w' V',(Builtin.append_ #[23,23] 23 #[V .fibers,.slice (some ⟨B,0,none⟩) 1 1]).run Tryz.prog u=.ok v' w' ∧
   (∃ o q,v'=.slice o (s.fibers.length + 1) q)∧OwnVar base (w'.setCell ⟨bs,0,none⟩ v') bs V' { s with fibers:=s.fibers++[⟨[f],c⟩] }∧u.grownBy w' (V .fibers).ownBlock ∧
   ∀ k b,live { s with fibers:=s.fibers++[⟨[f],c⟩] } k→(V' k).ownBlock=some b→(∃ k',live s k'∧(V k').ownBlock=some b)∨b=BL∨b=BF∨b=u.heap.size:=by
 obtain ⟨i0,hi0,hz0,hz1,hz2⟩:=info_parts infoFiber
 have hbw:bs < u.heap.size:=lt_of_block h.var
 have hbase:base≤u.heap.size:=by have:=h.low; omega
 have hlB:BL < u.heap.size:=(Array.getElem?_eq_some_iff.1 hBL).1
 have hlF:BF < u.heap.size:=(Array.getElem?_eq_some_iff.1 hBF).1
 obtain ⟨xs,hrow,_⟩:=h.own.piece .fibers trivial
 obtain ⟨v',w',hrun,hown',hgrow,_,hat⟩:=run_append_own_at (P:=Tryz.prog) u base 23 23 46 i0 _ 2 32 Tryz.underlying23 hi0 hz0 hz1 hz2 rfl (by decide) _ _ xs hrow ⟨B,0,none⟩ 1 1
  [.slice (some ⟨BF,0,none⟩) 1 1,.int .i64 c] rfl (fun j x hj=>by
   rw [at_block,Zb hB]
   simpa using hj) (by intro x hx; simp only [List.mem_cons,List.not_mem_nil,or_false] at hx; rcases hx with rfl | rfl <;> rfl) (by unfold maxLen; omega) (by omega) (by omega)
 have hloc:w'.ownsRow base 3 1 (.slice (some ⟨BL,0,none⟩) f.locals.length f.locals.length) f.locals.length (ints f.locals) :=
  row_block hlow ((hgrow.block BL hlB (fun e=>hoff .fibers trivial e.symm)).trans hBL) hlo
 have hfrw:w'.ownsRow base 48 4 (.slice (some ⟨BF,0,none⟩) 1 1) 1 [.int .i64 f.fn,.int .i64 f.at_,.slice (some ⟨BL,0,none⟩) f.locals.length f.locals.length,.slice none 0 0] :=
  ⟨rfl,.inr ⟨BF,1,#[.int .i64 f.fn,.int .i64 f.at_,.slice (some ⟨BL,0,none⟩) f.locals.length f.locals.length,.slice none 0 0],rfl,hlowF,(hgrow.block BF hlF (fun e=>hoffF .fibers trivial e.symm)).trans hBF,by omega,by decide,rfl,rfl⟩⟩
 have hadd:=h.own.addFiber f c (.slice (some ⟨BL,0,none⟩) f.locals.length f.locals.length) (.slice (some ⟨BF,0,none⟩) 1 1) v' hst (gl:=BL) (gf:=BF) (.inr rfl) rfl hne hoff hoffF hlB hlF hloc hfrw
  (fun b hb hne=>hgrow.block b hb (fun e=>hne e.symm)) (fun ys hy=>by rw [row_unique hy hrow]; exact hown') hat
 have hblk:∀ k b,live { s with fibers:=s.fibers++[⟨[f],c⟩] } k→(upd (upd (upd (upd V .fibers v') (.frames s.fibers.length) (.slice (some ⟨BF,0,none⟩) 1 1)) (.locals s.fibers.length 0) (.slice (some ⟨BL,0,none⟩) f.locals.length f.locals.length)) (.stack s.fibers.length 0) (.slice none 0 0) k).ownBlock=some b→(∃ k',live s k'∧(V k').ownBlock=some b)∨b=BL∨b=BF∨b=u.heap.size:=by
  intro k b hk e
  by_cases e1:k=.stack s.fibers.length 0
  ·rw [e1,Xk] at e; cases e
  rw [Zl _ _ e1] at e
  by_cases e2:k=.locals s.fibers.length 0
  ·rw [e2,Xk] at e; exact .inr (.inl (Option.some.inj e).symm)
  rw [Zl _ _ e2] at e
  by_cases e3:k=.frames s.fibers.length
  ·rw [e3,Xk] at e; exact .inr (.inr (.inl (Option.some.inj e).symm))
  rw [Zl _ _ e3] at e
  by_cases e4:k=.fibers
  ·rw [e4,Xk] at e
   rcases hat with h1 | h1
   ·rw [h1] at e; exact .inl ⟨.fibers,trivial,e⟩
   ·rw [h1] at e; exact .inr (.inr (.inr (Option.some.inj e).symm))
  rw [Zl _ _ e4] at e
  refine .inl ⟨k,?_,e⟩
  have hfo:∀ t,t < s.fibers.length→Za { s with fibers:=s.fibers++[⟨[f],c⟩] } t=Za s t:=fun t ht=>Kq _ _ _ _ ht
  have hfn:Za { s with fibers:=s.fibers++[⟨[f],c⟩] } s.fibers.length=⟨[f],c⟩:=Kt _ _ _
  have hq:∀ t q,¬ (t=s.fibers.length∧q=0)→t < s.fibers.length + 1→q < (Za { s with fibers:=s.fibers++[⟨[f],c⟩] } t).frames.length→t < s.fibers.length∧q < (Za s t).frames.length:=fun t q hn ht hq=>by
   by_cases et:t=s.fibers.length
   ·rw [et,hfn] at hq
    simp only [List.length_cons,List.length_nil] at hq
    exact absurd ⟨et,by omega⟩ hn
   ·rw [hfo t (by omega)] at hq; exact ⟨by omega,hq⟩
  cases k using Key.by with
  | fibers=>trivial
  | out=>trivial
  | frames t =>
   simp only [live,List.length_append,List.length_cons,List.length_nil] at hk ⊢
   have:t≠s.fibers.length:=fun e=>e3 (by rw [e])
   omega
  | locals t q =>
   simp only [live,List.length_append,List.length_cons,List.length_nil] at hk ⊢
   exact hq t q (fun ⟨h1,h2⟩=>e2 (by rw [h1,h2])) hk.1 hk.2
  | stack t q =>
   simp only [live,List.length_append,List.length_cons,List.length_nil] at hk ⊢
   exact hq t q (fun ⟨h1,h2⟩=>e1 (by rw [h1,h2])) hk.1 hk.2
 have hoff':Own.off (upd (upd (upd (upd V .fibers v') (.frames s.fibers.length) (.slice (some ⟨BF,0,none⟩) 1 1)) (.locals s.fibers.length 0) (.slice (some ⟨BL,0,none⟩) f.locals.length f.locals.length)) (.stack s.fibers.length 0) (.slice none 0 0)) { s with fibers:=s.fibers++[⟨[f],c⟩] } bs:=by
  intro k hk e
  rcases hblk k bs hk e with ⟨k',hk',e'⟩ | e' | e' | e'
  ·exact h.off k' hk' e'
  ·exact hbsL e'
  ·exact hbsF e'
  ·omega
 have hv:w'.heap[bs]?=some (.cells #[V .fibers,.int .i64 s.now,V .out] 26):=(hgrow.block bs hbw (fun e=>h.off .fibers trivial e.symm)).trans h.var
 refine ⟨v',w',_,hrun,?_,⟨?_,hadd.setOff (a:=⟨bs,0,none⟩) hoff' v',hoff',h.low⟩,hgrow,hblk⟩
 ·obtain ⟨o,q,e,_⟩:=Zo hown'
  exact ⟨o,q,e⟩
 ·rw [Zs hv 0 v',Zl _ _ (by simp),Zl _ _ (by simp),Zl _ _ (by simp),Xk,Zl _ _ (by simp),Zl _ _ (by simp),Zl _ _ (by simp),Zl _ _ (by simp)]
  rfl
theorem PS:(∀ (a:Act) (t:Tmp) (v:Value),a.put (some t) v={ a with tmps:=a.tmps.setIfInBounds t v })∧(∀ (a:Act) (v:Value),a.put none v=a) ∧
  (∀ (l:List Value) (i:Nat) (a:Value),l.toArray.setIfInBounds i a=(l.set i a).toArray)∧(∀ (l:List Bool) (i:Nat) (a:Bool),l.toArray.setIfInBounds i a=(l.set i a).toArray) ∧
  (∀ (l:List Value) (a b:Value),(b :: l).set 0 a=a :: l)∧(∀ (l:List Bool) (a b:Bool),(b :: l).set 0 a=a :: l) ∧
  (∀ (l:List Value) (i:Nat) (a b:Value),(b :: l).set (i + 1) a=b :: l.set i a)∧(∀ (l:List Bool) (i:Nat) (a b:Bool),(b :: l).set (i + 1) a=b :: l.set i a) :=
 ⟨fun _ _ _=>rfl,fun _ _=>rfl,fun _ _ _=>by simp,fun _ _ _=>by simp,fun _ _ _=>rfl,fun _ _ _=>rfl,fun _ _ _ _=>rfl,fun _ _ _ _=>rfl⟩
theorem at_drop {L tl:List Oper} {i:Nat} {oi:Oper} (hd:L.drop i=oi :: tl):L.toArray[i]?=some oi:=by
 have h:(L.drop i)[0]?=some oi:=by rw [hd]; rfl
 rw [List.getElem?_drop] at h
 simpa using h
theorem take_yes {P:Program} {md:Region.Mode} {Q:Exit→Act→World→Prop} {S:World→Prop} {L tl:List Oper} {i:Nat} {oi:Oper} {v:Value} {fuel:Nat} {listed:Array Bool} {a:Act} {w:World} (hd:L.drop i=oi :: tl)
  (hs:Region.noSelect L.toArray=true) (hf:Region.free md L.toArray listed i=true) (hr:(Region.ready md L.toArray listed).contains i=true)
  (hQ:∀ c a w,Q (.panic c) (a.put oi.dst v) w→Q (.panic c) a w) (hw:Region.wanted oi (yielded L.toArray a.tmps)=true) (hy:∀ u,S u→(execOp a.eval oi).run P u=.ok (.value v) u) (hS:S w)
  (h:wpAnyH P md L.toArray Q S fuel (listed.setIfInBounds i true) (a.put oi.dst v) w):wpAnyH P md L.toArray Q S (fuel + 1) listed a w :=
 wpAnyH_take (at_drop hd) hs hf hr hQ (.inl ⟨hw,hy⟩) hS h
theorem take_no {P:Program} {md:Region.Mode} {Q:Exit→Act→World→Prop} {S:World→Prop} {L tl:List Oper} {i:Nat} {oi:Oper} {fuel:Nat} {listed:Array Bool} {a:Act} {w:World} (hd:L.drop i=oi :: tl)
  (hs:Region.noSelect L.toArray=true) (hf:Region.free md L.toArray listed i=true) (hr:(Region.ready md L.toArray listed).contains i=true)
  (hQ:∀ c a w,Q (.panic c) (a.put oi.dst undef) w→Q (.panic c) a w) (hw:Region.wanted oi (yielded L.toArray a.tmps)=false) (hS:S w)
  (h:wpAnyH P md L.toArray Q S fuel (listed.setIfInBounds i true) (a.put oi.dst undef) w):wpAnyH P md L.toArray Q S (fuel + 1) listed a w :=
 wpAnyH_take (at_drop hd) hs hf hr hQ (.inr ⟨hw,rfl⟩) hS h
theorem Xq {P:Program} {md:Region.Mode} {Q:Exit→Act→World→Prop} {S:World→Prop} {L tl:List Oper} {i:Nat} {oi:Oper} {fuel:Nat} {listed:Array Bool} {a:Act} {w:World} (hd:L.drop i=oi :: tl)
  (hr:Region.ready md L.toArray listed=[i])
  (h:∀ K':Act→World→Prop,Shut (∀ a w,S w→(S w→wpAnyH P md L.toArray Q S fuel (listed.setIfInBounds i true) a w)→K' a w)→if Region.wanted oi (yielded L.toArray a.tmps)=true then Oper.wp P oi a w K' Q else K' (a.put oi.dst undef) w) :
  wpAnyH P md L.toArray Q S (fuel + 1) listed a w :=
 wpAnyH_ready hr (by simp) (AllReadyH.cons (at_drop hd) h AllReadyH.nil)
end Go.Proofs.YtblihfpigjiahaaGreatDoor
namespace Go.Proofs.YtblihfpigjiahaaGreatDoor
open Go.RowKit
def AnyT (P:Program) (md:Region.Mode) (ops:Array Oper) (Q:Exit→Act→World→Prop) (S:World→Prop) (T:Nat):Nat→Array Bool→Act→World→Prop
 | 0,listed,a,w=>Region.ready md ops listed=[]∧Q .normal a w
 | n + 1,listed,a,w=>(Region.ready md ops listed=[]→Q .normal a w) ∧
   ∀ i∈Region.ready md ops listed,wpOp P ops Q i (fun a' w'=>(i≠T→S w')∧AnyT P md ops Q S T n (listed.setIfInBounds i true) a' w') a w
variable {P:Program} {md:Region.Mode} {ops:Array Oper} {Q:Exit→Act→World→Prop} {S:World→Prop} {T:Nat}
theorem AnyT.any:∀ (n:Nat) (listed:Array Bool) (a:Act) (w:World),AnyT P md ops Q S T n listed a w→wpAny P md ops Q n listed a w
 | 0,_,_,_,h=>h
 | n + 1,_,_,_,h=>⟨h.1,fun i hi=>wpOp_mono (fun _ _ h'=>AnyT.any n _ _ _ h'.2) (h.2 i hi)⟩
def waitsFor (md:Region.Mode) (ops:Array Oper) (T i:Nat):Bool:=match ops[T]? with | none=>true | some o=>o.after.any fun e=>Region.binds md e && e.on == i
theorem AnyT.first {i:Nat} {oi:Oper} {v:Value} (hi:ops[i]?=some oi) (hsel:∀ (j:Nat) (o:Oper) cs b,ops[j]?=some o→o.op≠.select cs b)
  (hQ:∀ c a w,Q (.panic c) (a.put oi.dst v) w→Q (.panic c) a w) (hT:waitsFor md ops T i=true) :
  ∀ (n:Nat) (listed:Array Bool) (a:Act) (w:World),
   (∀ j oj,ops[j]?=some oj→j≠i→listed.getD j true=false→(∀ e∈oj.after,Region.binds md e=true→e.on≠i)→oi.apart ops oj=true) →
   i∈Region.ready md ops listed→YieldsIf P ops S oi v a→S w →
   AnyT P md ops Q S T n (listed.setIfInBounds i true) (a.put oi.dst v) w→AnyT P md ops Q S T (n + 1) listed a w:=by
 intro n
 induction n with
 | zero =>
  intro listed a w _ hr hy hS H
  refine ⟨fun h=>(by rw [h] at hr; cases hr),fun j hj=>?_⟩
  by_cases hji:j=i
  ·subst hji
   exact hy.wpOp hi hS ⟨fun _=>hS,H⟩
  ·have:=ready_mono hj hji
   rw [H.1] at this
   cases this
 | succ n ih =>
  intro listed a w hfree hr hy hS H
  refine ⟨fun h=>(by rw [h] at hr; cases hr),fun j hj=>?_⟩
  by_cases hji:j=i
  ·subst hji
   exact hy.wpOp hi hS ⟨fun _=>hS,H⟩
  ·have h1:=H.2 j (ready_mono hj hji)
   obtain ⟨hjun,oj,hoj,hall⟩:=mem_ready.1 hj
   have hun:=(mem_ready.1 hr).1
   have hnl:listed.getD i false≠true:=by
    intro hc
    rcases Nat.lt_or_ge i listed.size with h' | h'
    ·simp [h'] at hun hc
     rw [hun] at hc
     cases hc
    ·simp [Array.getElem?_eq_none h'] at hc
   have hnot:∀ e∈oj.after,Region.binds md e=true→e.on≠i:=fun e he hb heq=>hnl (by have:=hall e he hb; rwa [heq] at this)
   have hjT:j≠T:=by
    intro e
    subst e
    unfold waitsFor at hT
    rw [hoj] at hT
    simp only [Array.any_eq_true,Bool.and_eq_true,beq_iff_eq] at hT
    obtain ⟨q,hq,hb,hon⟩:=hT
    exact hnot _ (Array.getElem_mem hq) hb hon
   have h2:=wpOp_putIf hoj (hfree j oj hoj hji hjun hnot) (fun cs b=>hsel i oi cs b hi) (fun cs b=>hsel j oj cs b hoj) hQ hy h1
   refine wpOp_mono (fun a' w' h3=>⟨fun _=>h3.2.1 hjT,ih (listed.setIfInBounds j true) a' w' ?_ (ready_mono hr (Ne.symm hji)) h3.1 (h3.2.1 hjT) ?_⟩) h2
   ·intro k ok hk hki hku hno
    refine hfree k ok hk hki ?_ hno
    by_cases hjk:j=k
    ·subst hjk; exact hjun
    ·rw [Go.getD_set_ne true hjk] at hku; exact hku
   ·rw [Array.setIfInBounds_comm _ _ hji]
    exact h3.2.2
theorem takeT {L tl:List Oper} {i:Nat} {oi:Oper} {v:Value} {fuel:Nat} {listed:Array Bool} {a:Act} {w:World} (hd:L.drop i=oi :: tl)
  (hs:Region.noSelect L.toArray=true) (hf:Region.free md L.toArray listed i=true) (hr:(Region.ready md L.toArray listed).contains i=true) (hT:waitsFor md L.toArray T i=true)
  (hQ:∀ c a w,Q (.panic c) (a.put oi.dst v) w→Q (.panic c) a w) (hw:Region.wanted oi (yielded L.toArray a.tmps)=true) (hy:∀ u,S u→(execOp a.eval oi).run P u=.ok (.value v) u) (hS:S w)
  (h:AnyT P md L.toArray Q S T fuel (listed.setIfInBounds i true) (a.put oi.dst v) w):AnyT P md L.toArray Q S T (fuel + 1) listed a w :=
 AnyT.first (at_drop hd) (Region.noSelect_spec hs) hQ hT fuel listed a w (Region.free_spec (at_drop hd) hf) (by simpa using hr) (.inl ⟨hw,hy⟩) hS h
theorem Zn {L tl:List Oper} {i:Nat} {oi:Oper} {fuel:Nat} {listed:Array Bool} {a:Act} {w:World} (hd:L.drop i=oi :: tl)
  (hr:Region.ready md L.toArray listed=[i])
  (h:∀ K':Act→World→Prop,Shut (∀ a w,(i≠T→S w)→AnyT P md L.toArray Q S T fuel (listed.setIfInBounds i true) a w→K' a w)→if Region.wanted oi (yielded L.toArray a.tmps)=true then Oper.wp P oi a w K' Q else K' (a.put oi.dst undef) w) :
  AnyT P md L.toArray Q S T (fuel + 1) listed a w :=
 ⟨fun h0=>absurd (hr ▸ h0) (by simp),fun j hj=>by
  rw [hr] at hj
  obtain rfl:j=i:=by simpa using hj
  exact wpOp_step (at_drop hd) (fun K' hK=>h K' (fun a w hS hW=>hK a w ⟨hS,hW⟩))⟩
theorem Xx {listed:Array Bool} {a:Act} {w:World} (hr:Region.ready md ops listed=[]) (h:Q .normal a w):∀ n,AnyT P md ops Q S T n listed a w
 | 0=>⟨hr,h⟩
 | _ + 1=>⟨fun _=>h,by rw [hr]; simp⟩
theorem Kf {id:Nat} {a:Act} {w:World} (T:Nat) (S:World→Prop) (hm:P.follows .mixedOrders=true)
  (h:AnyT P .any ops Q S T ops.size (Array.replicate ops.size false) a w.drew):(Code.region id ops true).wp P Q a w :=
 wp_region_any hm (AnyT.any _ _ _ _ h)
end Go.Proofs.YtblihfpigjiahaaGreatDoor
namespace Go.Proofs.YtblihfpigjiahaaGreatDoor
open Go.RowKit
def Closed (md:Region.Mode) (ops:Array Oper) (listed:Array Bool):Prop :=
 ∀ k o,ops[k]?=some o→listed.getD k false=true→∀ e∈o.after,Region.binds md e=true→listed.getD e.on false=true
def closedB (md:Region.Mode) (ops:Array Oper) (listed:Array Bool):Bool :=
 (List.range ops.size).all fun k=>!(listed.getD k false) || (match ops[k]? with | none=>true | some o=>o.after.all fun e=>!(Region.binds md e) || listed.getD e.on false)
theorem closedB_spec {md:Region.Mode} {ops:Array Oper} {listed:Array Bool} (h:closedB md ops listed=true):Closed md ops listed:=by
 intro k o hk hl e he hb
 have hks:k < ops.size:=(Array.getElem?_eq_some_iff.1 hk).1
 have:=List.all_eq_true.1 h k (by simpa using hks)
 rw [hl,hk] at this
 simp only [Bool.not_true,Bool.false_or] at this
 have h2:=Array.all_eq_true_iff_forall_mem.1 this e he
 rw [hb] at h2
 simpa using h2
def waitsB (md:Region.Mode) (ops:Array Oper) (i:Nat):Nat→Nat→Bool
 | 0,_=>false
 | f + 1,T=>match ops[T]? with | none=>false | some o=>o.after.any fun e=>Region.binds md e && (e.on == i || waitsB md ops i f e.on)
def Waits (md:Region.Mode) (ops:Array Oper) (i T:Nat):Prop:=∃ f,waitsB md ops i f T=true
theorem waitsB_spec {md:Region.Mode} {ops:Array Oper} {i:Nat} (f T:Nat) (h:waitsB md ops i f T=true):Waits md ops i T:=⟨f,h⟩
theorem waits_listed {md:Region.Mode} {ops:Array Oper} {i:Nat} {listed:Array Bool} (hc:Closed md ops listed):∀ (f T:Nat),waitsB md ops i f T=true →
  (∀ o,ops[T]?=some o→∀ e∈o.after,Region.binds md e=true→listed.getD e.on false=true)→listed.getD i false=true
 | 0,_,h,_=>by cases h
 | f + 1,T,h,hp=>by
  unfold waitsB at h
  cases ho:ops[T]? with
  | none=>rw [ho] at h; cases h
  | some o =>
   rw [ho] at h
   simp only [Array.any_eq_true,Bool.and_eq_true,Bool.or_eq_true,beq_iff_eq] at h
   obtain ⟨q,hq,hb,h1 | h1⟩:=h
   ·rw [← h1]; exact hp o ho _ (Array.getElem_mem hq) hb
   ·exact waits_listed hc f _ h1 fun o' ho' e' he' hb'=>hc _ o' ho' (hp o ho _ (Array.getElem_mem hq) hb) e' he' hb'
theorem Waits.listed {md:Region.Mode} {ops:Array Oper} {i T:Nat} {listed:Array Bool} (hc:Closed md ops listed) (h:Waits md ops i T)
  (hp:∀ o,ops[T]?=some o→∀ e∈o.after,Region.binds md e=true→listed.getD e.on false=true):listed.getD i false=true :=
 let ⟨f,h⟩:=h; waits_listed hc f T h hp
theorem getD_set_mono {listed:Array Bool} (j k:Nat) (h:listed.getD k false=true):(listed.setIfInBounds j true).getD k false=true:=by
 by_cases e:j=k
 ·subst e
  have hs:j < listed.size:=by
   rcases Nat.lt_or_ge j listed.size with h' | h'
   ·exact h'
   ·simp [Array.getElem?_eq_none h'] at h
  simp [hs]
 ·rw [Go.getD_set_ne false e]; exact h
theorem Closed.set {md:Region.Mode} {ops:Array Oper} {listed:Array Bool} (hc:Closed md ops listed) {j:Nat} (hj:j∈Region.ready md ops listed):Closed md ops (listed.setIfInBounds j true):=by
 intro k o hk hl e he hb
 obtain ⟨_,oj,hoj,hall⟩:=mem_ready.1 hj
 by_cases ejk:j=k
 ·subst ejk
  rw [hoj] at hk
  obtain rfl:=Option.some.inj hk
  exact getD_set_mono j _ (hall e he hb)
 ·rw [Go.getD_set_ne false ejk] at hl
  exact getD_set_mono j _ (hc k o hk hl e he hb)
variable {P:Program} {md:Region.Mode} {ops:Array Oper} {Q:Exit→Act→World→Prop} {S:World→Prop} {T:Nat}
theorem AnyT.firstU {i:Nat} {oi:Oper} {v:Value} (hi:ops[i]?=some oi) (hsel:∀ (j:Nat) (o:Oper) cs b,ops[j]?=some o→o.op≠.select cs b)
  (hQ:∀ c a w,Q (.panic c) (a.put oi.dst v) w→Q (.panic c) a w) (hT:Waits md ops i T) :
  ∀ (n:Nat) (listed:Array Bool) (a:Act) (w:World),Closed md ops listed →
   (∀ j oj,ops[j]?=some oj→j≠i→listed.getD j true=false→(∀ e∈oj.after,Region.binds md e=true→e.on≠i)→oi.apart ops oj=true) →
   i∈Region.ready md ops listed→YieldsIf P ops S oi v a→S w →
   AnyT P md ops Q S T n (listed.setIfInBounds i true) (a.put oi.dst v) w→AnyT P md ops Q S T (n + 1) listed a w:=by
 intro n
 induction n with
 | zero =>
  intro listed a w _ _ hr hy hS H
  refine ⟨fun h=>(by rw [h] at hr; cases hr),fun j hj=>?_⟩
  by_cases hji:j=i
  ·subst hji
   exact hy.wpOp hi hS ⟨fun _=>hS,H⟩
  ·have:=ready_mono hj hji
   rw [H.1] at this
   cases this
 | succ n ih =>
  intro listed a w hC hfree hr hy hS H
  refine ⟨fun h=>(by rw [h] at hr; cases hr),fun j hj=>?_⟩
  by_cases hji:j=i
  ·subst hji
   exact hy.wpOp hi hS ⟨fun _=>hS,H⟩
  ·have h1:=H.2 j (ready_mono hj hji)
   obtain ⟨hjun,oj,hoj,hall⟩:=mem_ready.1 hj
   have hun:=(mem_ready.1 hr).1
   have hnl:listed.getD i false≠true:=by
    intro hc
    rcases Nat.lt_or_ge i listed.size with h' | h'
    ·simp [h'] at hun hc
     rw [hun] at hc
     cases hc
    ·simp [Array.getElem?_eq_none h'] at hc
   have hnot:∀ e∈oj.after,Region.binds md e=true→e.on≠i:=fun e he hb heq=>hnl (by have:=hall e he hb; rwa [heq] at this)
   have hjT:j≠T:=by
    intro e
    subst e
    exact hnl (hT.listed hC (fun o ho e he hb=>by rw [hoj] at ho; obtain rfl:=Option.some.inj ho; exact hall e he hb))
   have h2:=wpOp_putIf hoj (hfree j oj hoj hji hjun hnot) (fun cs b=>hsel i oi cs b hi) (fun cs b=>hsel j oj cs b hoj) hQ hy h1
   refine wpOp_mono (fun a' w' h3=>⟨fun _=>h3.2.1 hjT,ih (listed.setIfInBounds j true) a' w' (hC.set hj) ?_ (ready_mono hr (Ne.symm hji)) h3.1 (h3.2.1 hjT) ?_⟩) h2
   ·intro k ok hk hki hku hno
    refine hfree k ok hk hki ?_ hno
    by_cases hjk:j=k
    ·subst hjk; exact hjun
    ·rw [Go.getD_set_ne true hjk] at hku; exact hku
   ·rw [Array.setIfInBounds_comm _ _ hji]
    exact h3.2.2
theorem Zq {L tl:List Oper} {i:Nat} {oi:Oper} {v:Value} {fuel:Nat} {listed:Array Bool} {a:Act} {w:World} (hd:L.drop i=oi :: tl)
  (hs:Region.noSelect L.toArray=true) (hf:Region.free md L.toArray listed i=true) (hr:(Region.ready md L.toArray listed).contains i=true) (hT:(waitsB md L.toArray i 40 T && closedB md L.toArray listed)=true)
  (hQ:∀ c a w,Q (.panic c) (a.put oi.dst v) w→Q (.panic c) a w) (hw:Region.wanted oi (yielded L.toArray a.tmps)=true) (hy:∀ u,S u→(execOp a.eval oi).run P u=.ok (.value v) u) (hS:S w)
  (h:AnyT P md L.toArray Q S T fuel (listed.setIfInBounds i true) (a.put oi.dst v) w):AnyT P md L.toArray Q S T (fuel + 1) listed a w :=
 AnyT.firstU (at_drop hd) (Region.noSelect_spec hs) hQ (waitsB_spec 40 T (Bool.and_eq_true_iff.1 hT).1) fuel listed a w (closedB_spec (Bool.and_eq_true_iff.1 hT).2) (Region.free_spec (at_drop hd) hf) (by simpa using hr) (.inl ⟨hw,hy⟩) hS h
structure AnyP (plan:List Nat) (P:Program) (md:Region.Mode) (ops:Array Oper) (Q:Exit→Act→World→Prop) (S:World→Prop) (T n:Nat) (listed:Array Bool) (a:Act) (w:World):Prop where
 out:AnyT P md ops Q S T n listed a w
theorem takeP {L tl:List Oper} {i:Nat} {plan:List Nat} {oi:Oper} {v:Value} {fuel:Nat} {listed:Array Bool} {a:Act} {w:World} (hS:S w) (hy:∀ u,S u→(execOp a.eval oi).run P u=.ok (.value v) u)
  (h:AnyP plan P md L.toArray Q S T fuel (listed.setIfInBounds i true) (a.put oi.dst v) w) (hd:L.drop i=oi :: tl:=by rfl) (hs:Region.noSelect L.toArray=true:=by kernel_rfl) (hf:Region.free md L.toArray listed i=true:=by kernel_rfl)
  (hr:(Region.ready md L.toArray listed).contains i=true:=by kernel_rfl) (hT:(waitsFor md L.toArray T i || (waitsB md L.toArray i 40 T && closedB md L.toArray listed))=true:=by kernel_rfl) (hQ:∀ c a w,Q (.panic c) (a.put oi.dst v) w→Q (.panic c) a w:=by exact fun _ _ _ h=>h)
  (hw:Region.wanted oi (yielded L.toArray a.tmps)=true:=by rfl):AnyP (i :: plan) P md L.toArray Q S T (fuel + 1) listed a w :=
 ⟨(Bool.or_eq_true_iff.1 hT).elim (fun hT=>takeT hd hs hf hr hT hQ hw hy hS h.out) (fun hT=>Zq hd hs hf hr hT hQ hw hy hS h.out)⟩
theorem Qt {n:Nat} {listed:Array Bool} {a:Act} {w:World} (h:AnyT P md ops Q S T n listed a w):AnyP [] P md ops Q S T n listed a w:=⟨h⟩
theorem Jf {id:Nat} {a:Act} {w:World} (T:Nat) (plan:List Nat) (S:World→Prop) (hm:P.follows .mixedOrders=true)
  (h:AnyP plan P .any ops Q S T ops.size (Array.replicate ops.size false) a w.drew):(Code.region id ops true).wp P Q a w:=Kf T S hm h.out
end Go.Proofs.YtblihfpigjiahaaGreatDoor
namespace Go.Proofs.YtblihfpigjiahaaGreatDoor
open Go.RowKit
theorem Moved.grew {base bs:Nat} {V V':Key→Value} {s s':St} {w0 u w2:World} (hk:Kept w0 u) {K:Key} (hK:live s K) (hgrow:u.grownBy w2 (V K).ownBlock) {g i:Nat} {v:Value} (h':OwnVar base (w2.setCell ⟨g,i,none⟩ v) bs V' s') (hg:g=bs∨∃ k,live s k∧(V k).ownBlock=some g)
  (ho:∀ k b,live s' k→(V' k).ownBlock=some b→b < w0.heap.size→∃ k',live s k'∧(V k').ownBlock=some b):Moved base bs V s w0 V' s' (w2.setCell ⟨g,i,none⟩ v):=by
 refine ⟨h',hgrow.os.trans hk.os,hgrow.tape.trans hk.tape,hgrow.output.trans hk.output,Nat.le_trans hk.size (by simpa [World.setCell] using hgrow.size),fun b hb hn hoff=>?_,fun b hb hoff k hk e=>?_⟩
 ·rw [Below.heap_setCell _ _ _ _ (fun e=>?_)]
  ·exact (hgrow.block b (Nat.lt_of_lt_of_le hb hk.size) (fun e=>hoff K hK e.symm)).trans (hk.block b hb)
  ·have e:b=g:=e
   rcases hg with hg | ⟨k,hk,hg⟩
   ·exact hn (e.trans hg)
   ·exact hoff k hk (by rw [hg,e])
 ·obtain ⟨k',hk',e'⟩:=ho k b hk e hb
  exact hoff k' hk' e'
theorem call_frame {base bs:Nat} {V:Key→Value} {s:St} {w w3:World} (h:OwnVar base w bs V s) (hk:Kept w w3) {i gF capF g q cap BL:Nat} (hi:i < s.fibers.length) (hF:V .fibers=.slice (some ⟨gF,0,none⟩) s.fibers.length capF) (hf:V (.frames i)=.slice (some ⟨g,0,none⟩) q cap) (hq:(Za s i).frames.length=q) (hfr:q≤1000)
  (f:Fr) (hst:f.stack=[]) (hlo:f.locals.length≤1000) (hBL:w3.heap[BL]?=some (.cells (ints f.locals).toArray 3)) (hB:w.heap.size≤BL) :
  ∃ o c w4 V4,(Builtin.append_ #[44,44] 44 #[.slice (some ⟨g,0,none⟩) q cap,.slice (some ⟨w3.heap.size,0,none⟩) 1 1]).run Tryz.prog (w3.alloc (.cells #[.int .i64 f.fn,.int .i64 f.at_,.slice (some ⟨BL,0,none⟩) f.locals.length f.locals.length,.slice none 0 0] 48))=.ok (.slice o (q + 1) c) w4 ∧
   w4.cell? ⟨gF,i * 2,none⟩=some (.slice (some ⟨g,0,none⟩) q cap)∧w4.frozen? ⟨gF,i * 2,none⟩=false∧(∀ {p:Addr} {x:Value},w3.cell? p=some x→(V (.frames i)).ownBlock≠some p.block→w4.cell? p=some x)∧Below base w w4∧Moved base bs V s w V4 (Zf s i { Za s i with frames:=(Za s i).frames++[f] }) (w4.setCell ⟨gF,i * 2,none⟩ (.slice o (q + 1) c)):=by
 have hku:Kept w (w3.alloc (.cells #[.int .i64 f.fn,.int .i64 f.at_,.slice (some ⟨BL,0,none⟩) f.locals.length f.locals.length,.slice none 0 0] 48)):=hk.alloc _
 have hu:=h.kept hku
 obtain ⟨hbn,hbo⟩:=h.new hB
 have hlow:=h.low
 have hbw:=lt_of_block h.var
 obtain ⟨v',w4,V4,hrun,⟨o,c,rfl⟩,hov,hgr,hbl⟩:=frame_comes hu hi hF (by omega) f hst hlo (Zg hBL _) hbo (by omega) (fun e=>hbn e.symm) (Zd rfl)
 have hFb:(V .fibers).ownBlock=some gF:=by rw [hF]; rfl
 have hgF:(V (.frames i)).ownBlock≠some gF:=fun e=>by have:=h.own.apart (.frames i) .fibers gF hi trivial e hFb; cases this
 obtain ⟨gF',capF',eF',_,k0,_,kz,_⟩:=hu.own.fib hi
 rw [hF] at eF'
 obtain ⟨⟨rfl⟩,-,rfl⟩:=(by simpa using eF':(gF=gF')∧True∧capF=capF')
 rw [hf,hq] at hrun
 rw [hq] at hov
 refine ⟨o,c,w4,V4,hrun,?_,?_,fun {p x} hc hne=>hgr.cell (((Kept.refl w3).alloc _).cell hc) (fun e=>hne e.symm),Below.grown (h.below hku) hgr (by have:=hku.size; omega) (fun r hr=>((hu.own.piece (.frames i) hi).block r hr).1),?_⟩
 ·have:=hgr.cell k0 (fun e=>hgF e.symm)
  rw [hf] at this
  exact this
 ·exact (World.frozen?_of_block (hgr.block gF (((hu.own.piece .fibers trivial).block gF hFb).2) (fun e=>hgF e.symm))).trans (kz _)
 ·refine .grew hku (K:=.frames i) hi hgr hov (.inr ⟨.fibers,trivial,hFb⟩) (fun k b hk' e hb=>?_)
  rcases hbl k b hk' e with h1 | h1 | h1
  ·exact h1
  ·omega
  ·have:=hku.size; omega
theorem call_any (base bs:Nat) (V:Key→Value) (s:St) (i n cp bp op f a lo:Nat) (w:World) (h:OwnVar base w bs V s) (hn:s.now=i) (hr:Runs s i) (h6:(Za s i).frames.length≤6) (hf:f < n) (hlo:lo≤1000) (hal:a≤lo) (ha:a≤(frAt s i ((Za s i).frames.length - 1)).stack.length)
  (hp:∀ u,Below base w u→u.cell? ⟨bp,op + f * 3,none⟩=some (.int .i64 a)∧u.cell? ⟨bp,op + f * 3 + 1,none⟩=some (.int .i64 lo)) :
  Calls Tryz.prog 97 #[eng bs (.slice (some ⟨bp,op,none⟩) n cp),.int .i64 f] w (EngPost base bs V s (callS s i f a lo) w):=by
 have hi:=hr.lt
 obtain ⟨gF,capF,eF,hrun⟩:=running_own h hn hi (some ⟨bp,op,none⟩) n cp
 obtain ⟨g,cap,eg,hqc,_⟩:=h.own.fr hi (j:=0) hr.fr
 have HT:=hide hrun
 have HO:=hide h
 have HEF:=hide eF
 have HEG:=hide eg
 have HPC:=hide hp
 have hf0:(0:Int)≤(f:Int):=by omega
 have hf1:(f:Int) < (n:Int):=by omega
 clear hrun h hp
 by_cases hq6:(Za s i).frames.length=6
 ·have hR:callS s i f a lo=(St.zero,2):=by unfold callS; rw [if_pos hq6]
  rw [hR]
  rw [hq6] at eg
  have HEG6:=hide eg
  clear hR eg
  go_enter Tryz.func97,Tryz.ntmps97
  go_wp2_with fail
  generalize hwb:w.alloc (.cells #[.pointer (some ⟨bs,0,none⟩),.slice (some ⟨bp,op,none⟩) n cp] 93)=wb
  have hkb:Kept w wb:=by rw [← hwb]; exact (Kept.refl w).alloc _
  have hob:OwnVar base wb bs V s:=(un HO).kept hkb
  refine ((un HT) wb hob).mono ?_
  rintro e w1 ⟨rfl,hk1⟩
  have ho1:=hob.kept hk1
  obtain ⟨gF',capF',eF',_,k0,k1,kz,_⟩:=ho1.own.fib hi
  rw [un HEF] at eF'
  obtain ⟨⟨rfl⟩,-,rfl⟩:=(by simpa using eF':(gF=gF')∧True∧capF=capF')
  rw [un HEG6] at k0
  have HB:Hid (Past bs V s w w1):=hide (Past.of_kept (hkb.trans hk1))
  clear hwb hob hkb hk1 ho1 kz k1 eF'
  go_wp2
  exact ⟨rfl,Or.inr ⟨by decide,rfl,un HB⟩⟩
 ·have hb6:(((Za s i).frames.length:Int) == 6)=false:=by rw [beq_eq_false_iff_ne]; omega
  have hR:callS s i f a lo=(Zf (Xj s i a) i { Za (Xj s i a) i with frames:=(Za (Xj s i a) i).frames++[Xv f lo ((frAt s i ((Za s i).frames.length - 1)).stack.drop ((frAt s i ((Za s i).frames.length - 1)).stack.length - a))] },0):=by unfold callS; rw [if_neg hq6]
  rw [hR]
  obtain ⟨f1,f2,f3,f4,f5,f6⟩:=takeTop_facts hr a
  have hvl:((frAt s i ((Za s i).frames.length - 1)).stack.drop ((frAt s i ((Za s i).frames.length - 1)).stack.length - a)).length=a:=by rw [List.length_drop]; omega
  have HTA:Hid (∀ u V',OwnVar base u bs V' s→Calls Tryz.prog 128 #[eng bs (.slice (some ⟨bp,op,none⟩) n cp),.int .i64 a] u (fun e w'=>∃ ov cv V2,e=.returned (.slice ov a cv)∧IntsW w' (.slice ov a cv) ((frAt s i ((Za s i).frames.length - 1)).stack.drop ((frAt s i ((Za s i).frames.length - 1)).stack.length - a))∧Moved base bs V' s u V2 (Xj s i a) w'∧V2 (.frames i)=V' (.frames i)∧V2 .fibers=V' .fibers)):=hide (fun u V' hu =>
   (takeAll_any base bs V' s i a n cp (some ⟨bp,op,none⟩) u hu hn hr ha).mono (by
    rintro e w' ⟨v,V2,rfl,hv,hm,hV⟩
    obtain ⟨ov,cv,rfl,hb,hc⟩:=hv
    refine ⟨ov,cv,V2,by rw [hvl],⟨ov,cv,by rw [hvl],hb,hc⟩,hm,hV _ (by simp),hV _ (by simp)⟩))
  generalize (frAt s i ((Za s i).frames.length - 1)).stack.drop ((frAt s i ((Za s i).frames.length - 1)).stack.length - a)=vals at *
  generalize hs1:Xj s i a=s1 at *
  generalize hq:(Za s i).frames.length=q at *
  have hcl:(Xv f lo vals).locals.length=lo:=by unfold Xv; simp [hvl]; omega
  have HBG:Hid (∀ u ov cv,Below base w u→IntsW u (.slice ov a cv) vals→Calls Tryz.prog 130 #[eng bs (.slice (some ⟨bp,op,none⟩) n cp),.int .i64 f,.slice ov a cv] u (BegunPost f lo (Xv f lo vals).locals u)):=hide (fun u ov cv hb hv=>begun_any bs f lo n cp bp op _ vals u hf hlo hv (by omega) ((un HPC) u hb).2)
  have HCF:Hid (∀ w2 V2 w3 BL,OwnVar base w2 bs V2 s1→Kept w2 w3→V2 .fibers=V .fibers→V2 (.frames i)=V (.frames i)→w3.heap[BL]?=some (.cells (ints (Xv f lo vals).locals).toArray 3)→w2.heap.size≤BL→∃ o c w4 V4,(Builtin.append_ #[44,44] 44 #[.slice (some ⟨g,0,none⟩) q cap,.slice (some ⟨w3.heap.size,0,none⟩) 1 1]).run Tryz.prog (w3.alloc (.cells #[.int .i64 f,.int .i64 0,.slice (some ⟨BL,0,none⟩) lo lo,.slice none 0 0] 48))=.ok (.slice o (q + 1) c) w4 ∧
   w4.cell? ⟨gF,i * 2,none⟩=some (.slice (some ⟨g,0,none⟩) q cap)∧w4.frozen? ⟨gF,i * 2,none⟩=false∧(∀ {p:Addr} {x:Value},w3.cell? p=some x→(V2 (.frames i)).ownBlock≠some p.block→w4.cell? p=some x)∧Below base w2 w4∧Moved base bs V2 s1 w2 V4 (Zf s1 i { Za s1 i with frames:=(Za s1 i).frames++[Xv f lo vals] }) (w4.setCell ⟨gF,i * 2,none⟩ (.slice o (q + 1) c))):=hide (fun w2 V2 w3 BL hu hk hVF hVf hBL hB=>by
   have:=call_frame hu hk (i:=i) (gF:=gF) (capF:=capF) (g:=g) (q:=q) (cap:=cap) (BL:=BL) (by rw [f1]; exact hi) (by rw [hVF,f1]; exact un HEF) (by rw [hVf]; exact un HEG) f4 (by omega) (Xv f lo vals) rfl (by omega) hBL hB
   rw [hcl] at this
   exact this)
  have HS2:Hid (∀ (w2:World) (V2:Key→Value),OwnVar base w2 bs V2 s1→V2 .fibers=V .fibers→V2 (.frames i)=V (.frames i)→w2.cell? ⟨gF,i * 2,none⟩=some (.slice (some ⟨g,0,none⟩) q cap)):=hide (fun w2 V2 hu hVF hVf=>by
   obtain ⟨gF',capF',eF',_,k0,_⟩:=hu.own.fib (i:=i) (by rw [f1]; exact hi)
   rw [hVF,f1,un HEF] at eF'
   obtain ⟨⟨rfl⟩,-,rfl⟩:=(by simpa using eF':(gF=gF')∧True∧capF=capF')
   rw [hVf,un HEG] at k0
   exact k0)
  generalize Zf s1 i { Za s1 i with frames:=(Za s1 i).frames++[Xv f lo vals] }=s2 at *
  generalize (Xv f lo vals).locals=L at *
  clear hR f1 f2 f3 f4 f5 f6 hs1 hcl hr eg eF
  go_enter Tryz.func97,Tryz.ntmps97
  go_wp2_with fail
  generalize hwb:w.alloc (.cells #[.pointer (some ⟨bs,0,none⟩),.slice (some ⟨bp,op,none⟩) n cp] 93)=wb
  have hkb:Kept w wb:=by rw [← hwb]; exact (Kept.refl w).alloc _
  have lB:wb.heap[w.heap.size]?=some (.cells #[.pointer (some ⟨bs,0,none⟩),.slice (some ⟨bp,op,none⟩) n cp] 93):=by rw [← hwb]; exact Zd rfl
  have hob:OwnVar base wb bs V s:=(un HO).kept hkb
  refine ((un HT) wb hob).mono ?_
  rintro e w1 ⟨rfl,hk1⟩
  have ho1:=hob.kept hk1
  have hk01:=hkb.trans hk1
  have l1:=Zj hk1 lB
  have b0:w1.cell? ⟨w.heap.size,0,none⟩=some (.pointer (some ⟨bs,0,none⟩)):=Zb l1 0
  have b1:w1.cell? ⟨w.heap.size,1,none⟩=some (.slice (some ⟨bp,op,none⟩) n cp):=Zb l1 1
  obtain ⟨gF',capF',eF',_,k0,_,_,_⟩:=ho1.own.fib hi
  rw [un HEF] at eF'
  obtain ⟨⟨rfl⟩,-,rfl⟩:=(by simpa using eF':(gF=gF')∧True∧capF=capF')
  rw [un HEG] at k0
  obtain ⟨hBn,hBo⟩:=(un HO).new (b:=w.heap.size) (by omega)
  obtain ⟨p0,p1⟩:=(un HPC) w1 ((un HO).below hk01)
  have HM1:=hide ((Moved.of_kept (un HO) hk01).drew)
  have HL1:=hide (Zt l1)
  have HBO:=hide hBo
  clear hwb hob hkb hk1 ho1 eF' hk01 lB l1 hBo HT
  go_upto_region 4 with fail
  refine Jf 20 [0,1,2,3,4,5,6,7,8,9,10,11,12,13] (fun u=>u.cell? ⟨gF,i * 2,none⟩=some (.slice (some ⟨g,0,none⟩) q cap)∧u.cell? ⟨w.heap.size,0,none⟩=some (.pointer (some ⟨bs,0,none⟩))∧u.cell? ⟨w.heap.size,1,none⟩=some (.slice (some ⟨bp,op,none⟩) n cp)∧u.cell? ⟨bp,op + f * 3,none⟩=some (.int .i64 a)) (by kernel_rfl) ?_
  have hHeld:=And.intro k0 (And.intro b0 (And.intro b1 p0))
  repeat
   refine takeP (v:=?_) hHeld (fun u hSu=>?_) ?_
   rotate_left
   ·((try dsimp only at hSu); go_simp) <;> with_reducible rfl
   simp only [PS]
  refine Qt ?_
  refine Zn (i:=14) rfl (by kernel_rfl) (fun K hK=>?_)
  go_simp
  refine ((un HTA) _ V (un HM1).own).mono ?_
  rintro e w2 ⟨ov,cv,V2,rfl,hv2,hm2,hVf2,hVF2⟩
  have l2:=hm2.lays (un HL1) hBn (un HBO)
  have hS2:=And.intro ((un HS2) w2 V2 hm2.own hVF2 hVf2) (And.intro (show w2.cell? ⟨w.heap.size,0,none⟩=some (.pointer (some ⟨bs,0,none⟩)) from Zb l2 0) (And.intro (show w2.cell? ⟨w.heap.size,1,none⟩=some (.slice (some ⟨bp,op,none⟩) n cp) from Zb l2 1) ((un HPC) w2 (((un HM1).trans hm2).below (un HO))).1))
  refine hK.out _ _ (fun _=>hS2) ?_
  clear hK K
  try simp only [PS]
  refine Zn (i:=15) rfl (by kernel_rfl) (fun K hK=>?_)
  go_simp
  refine ((un HBG) _ ov cv (((un HM1).trans hm2).below (un HO)) hv2).mono ?_
  rintro e w3 ⟨BL,rfl,lBL,hBL,hk3⟩
  obtain ⟨o4,c4,w4,V4,hrun,hc4,hz4,hcl4,hb4,hm4⟩:=(un HCF) w2 V2 w3 BL hm2.own hk3 hVF2 hVf2 lBL hBL
  have HM4:=hide (((un HM1).trans hm2).trans hm4)
  refine hK.out _ _ (fun _=>⟨hk3.cell hS2.1,hk3.cell hS2.2.1,hk3.cell hS2.2.2.1,hk3.cell hS2.2.2.2⟩) ?_
  clear hK K
  try simp only [PS]
  refine Zn (i:=16) rfl (by kernel_rfl) (fun K hK=>?_)
  go_simp
  refine hK.out _ _ (fun _=>⟨(hk3.alloc _).cell hS2.1,(hk3.alloc _).cell hS2.2.1,(hk3.alloc _).cell hS2.2.2.1,(hk3.alloc _).cell hS2.2.2.2⟩) ?_
  clear hK K
  try simp only [PS]
  have hS4:w4.cell? ⟨gF,i * 2,none⟩=some (.slice (some ⟨g,0,none⟩) q cap)∧w4.cell? ⟨w.heap.size,0,none⟩=some (.pointer (some ⟨bs,0,none⟩))∧w4.cell? ⟨w.heap.size,1,none⟩=some (.slice (some ⟨bp,op,none⟩) n cp)∧w4.cell? ⟨bp,op + f * 3,none⟩=some (.int .i64 a):=by
   have hne:(V2 (.frames i)).ownBlock≠some w.heap.size:=by rw [hVf2]; exact (un HBO) (.frames i) hi
   exact ⟨hc4,hcl4 (hk3.cell hS2.2.1) hne,hcl4 (hk3.cell hS2.2.2.1) hne,((un HPC) w4 (Below.trans (((un HM1).trans hm2).below (un HO)) hb4)).1⟩
  refine Zn (i:=17) rfl (by kernel_rfl) (fun K hK=>?_)
  rw [if_pos (by rfl)]
  refine Qq (v:=.slice (some ⟨g,0,none⟩) q cap) _ _ _ 44 rfl rfl rfl hrun ?_
  refine hK.out _ _ (fun _=>hS4) ?_
  clear hK K
  try simp only [PS]
  refine Zn (i:=18) rfl (by kernel_rfl) (fun K hK=>?_)
  go_simp
  refine hK.out _ _ (fun _=>hS4) ?_
  clear hK K
  try simp only [PS]
  refine Zn (i:=19) rfl (by kernel_rfl) (fun K hK=>?_)
  go_simp
  refine hK.out _ _ (fun _=>hS4) ?_
  clear hK K
  try simp only [PS]
  refine Zn (i:=20) rfl (by kernel_rfl) (fun K hK=>?_)
  go_simp
  refine hK.out _ _ (fun h=>absurd rfl h) ?_
  clear hK K
  refine Xx (by kernel_rfl) ?_ _
  go_wp2
  go_end0
  exact Or.inl ⟨rfl,rfl,V4,un HM4⟩
end Go.Proofs.YtblihfpigjiahaaGreatDoor
