/- StepPl, OpAr, StepA, StepB, StepC, StepD -/
import Derived.Test.YtadckjclgakcaaaGreatDoorXB30
import Derived.Test.YtadckjclgakcaaaGreatDoorXB01
import Derived.Test.YtadckjclgakcaaaGreatDoorXB12
import Derived.Test.YtadckjclgakcaaaGreatDoorXB16
import Derived.StillTailTactics
set_option maxRecDepth 100000
set_option maxHeartbeats 8000000
namespace Go.Proofs.YtadckjclgakcaaaGreatDoor
def SameBut (s t:St) (a b:Nat):Prop:=t.fibers.length=s.fibers.length∧∀ k,k≠a→k≠b→fibAt t k=fibAt s k
theorem SameBut.turn {s t:St} {a b:Nat} (h:SameBut s t a b) {n:Int} (hn:n.toNat=a∨n.toNat=b) (g:Fb→Fb):SameBut s (t.turn n g) a b :=
 ⟨by simpa [St.turn] using h.1,fun k ha hb=>by
  rw [← h.2 k ha hb]
  exact getD_set_ne _ _ _ _ _ (by rcases hn with e | e <;> omega)⟩
theorem SameBut.now {s t:St} {a b:Nat} (h:SameBut s t a b) (z:Int):SameBut s { t with now:=z } a b:=h
def OneS (s:St) (r:St × Int):Prop:=r.2=0→(r.1.fibers.length=s.fibers.length∨r.1.fibers.length=s.fibers.length + 1)∧(r.1.out=s.out∨∃ v,r.1.out=s.out++[v])∧∀ k,k < s.fibers.length→k≠s.now.toNat→(k:Int)≠r.1.now→fibAt r.1 k=fibAt s k
theorem one_err {s t:St} {e:Int} (h:e≠0):OneS s (t,e):=fun h'=>absurd h' h
theorem one_ite {s:St} {c:Prop} [Decidable c] {a b:St × Int} (ha:c→OneS s a) (hb:¬ c→OneS s b):OneS s (if c then a else b):=by
 split
 ·exact ha ‹_›
 ·exact hb ‹_›
theorem SameBut.one {s t:St} {b:Nat} (h:SameBut s t s.now.toNat b) (hb:b=s.now.toNat∨t.now=b) (ho:t.out=s.out):OneS s (t,0):=fun _ =>
 ⟨.inl h.1,.inl ho,fun k _ h1 h2=>h.2 k h1 (by
  rcases hb with e | e
  ·omega
  ·rw [e] at h2; omega)⟩
theorem SameBut.oneOut {s t:St} (h:SameBut s t s.now.toNat s.now.toNat) (ho:t.out=s.out) (v:Int):OneS s (putS t v):=by
 unfold putS
 exact one_ite (fun _=>one_err (by decide)) (fun _ _=>⟨.inl h.1,.inr ⟨v,by rw [ho]⟩,fun k _ h1 _=>h.2 k h1 h1⟩)
theorem done_one (p:List Fn) (s:St):OneS s (doneS p s):=by
 unfold doneS
 extract_lets x s1
 have h1:SameBut s s1 s.now.toNat s.now.toNat:=(show SameBut s s _ _ from ⟨rfl,fun _ _ _=>rfl⟩).turn (.inl rfl) _
 have ho:s1.out=s.out:=rfl
 have hw:s1.now=s.now:=rfl
 clear_value x s1
 have hp:SameBut s (pullV s1) s.now.toNat s.now.toNat:=h1.turn (.inl (by rw [hw])) _
 have hpp:SameBut s (pullV (pullV s1)) s.now.toNat s.now.toNat:=hp.turn (.inl (by show s1.now.toNat=_; rw [hw])) _
 have wide:∀ {t:St} (b:Nat),SameBut s t s.now.toNat s.now.toNat→SameBut s t s.now.toNat b:=fun b h=>⟨h.1,fun k h1 _=>h.2 k h1 h1⟩
 have fin:∀ {t:St},SameBut s t s.now.toNat s.now.toNat→t.out=s.out→OneS s (t,0):=fun h ho=>h.one (.inl rfl) ho
 have N:s1.now.toNat=s.now.toNat:=by rw [hw]
 refine one_ite (fun _=>fin (h1.turn (.inl N) _) ho) (fun _=>one_ite (fun _=>fin hp ho) (fun _=>one_ite (fun _=>fin (h1.turn (.inl N) _) ho) (fun _=>one_ite (fun _=>fin (hp.turn (.inl N) _) ho) (fun _=>one_ite (fun _=>fin (h1.turn (.inl N) _) ho) (fun _=>one_ite (fun _=>?_) (fun _=>one_ite (fun _=>?_) (fun _=>one_ite (fun _=>?_) (fun _=>one_ite (fun _=>?_) (fun _=>one_ite (fun _=>?_) (fun _=>one_ite (fun _=>?_) (fun _=>one_ite (fun _=>?_) (fun _=>fin (hpp.turn (.inl N) _) ho))))))))))))
 ·split
  ·exact fin (hp.turn (.inl N) _) ho
  ·exact fin hp ho
 ·exact one_ite (fun _=>one_err (by decide)) (fun _=>fin ((h1.turn (.inl N) _).turn (.inl N) _) ho)
 ·have hq:SameBut s ((pullV s1).turn s1.now fun b=>{ b with frames:=b.frames.dropLast }) s.now.toNat s.now.toNat:=hp.turn (.inl N) _
  have hqo:((pullV s1).turn s1.now fun b=>{ b with frames:=b.frames.dropLast }).out=s.out:=ho
  refine one_ite (fun _=>one_ite (fun _=>SameBut.oneOut (hq.now (-1)) ho _) (fun hc=>?_)) (fun _=>fin (hq.turn (.inl N) _) ho)
  generalize ((pullV s1).turn s1.now fun b=>{ b with frames:=b.frames.dropLast })=s2 at *
  exact SameBut.one (((wide _ (hq.turn (.inl N) _)).now _).turn (.inr rfl) _) (.inr (show (s2.fib s1.now).caller=((s2.fib s1.now).caller.toNat:Int) by omega)) hqo
 ·refine one_ite (fun _=>one_err (by decide)) (fun _ _=>?_)
  have hq:SameBut s (pushV s1 s1.now s1.fibers.length) s.now.toNat s.now.toNat:=h1.turn (.inl N) _
  refine ⟨.inr (by simp [hq.1]),.inl ho,fun k hk h2 _=>?_⟩
  rw [← hq.2 k h2 h2]
  show List.getD (_++_) _ _=List.getD _ _ _
  simp [List.getD,List.getElem?_append_left (show k < (pushV s1 s1.now s1.fibers.length).fibers.length by rw [hq.1]; exact hk)]
 ·refine one_ite (fun hix=>one_ite (fun _=>one_err (by decide)) (fun _=>?_)) (fun _=>one_err (by decide))
  have hn:=(ixB_iff.1 hix).1
  generalize lastV (pullV s1)=n at *
  have hq:SameBut s { ((pullV (pullV s1)).turn n fun b=>{ b with caller:=(pullV (pullV s1)).now }) with now:=n } s.now.toNat n.toNat:=((wide n.toNat hpp).turn (.inr rfl) _).now _
  exact one_ite (fun _=>(hq.turn (.inr rfl) _).one (.inr (by show n=_; omega)) ho) (fun _=>(hq.turn (.inr rfl) _).one (.inr (by show n=_; omega)) ho)
 ·refine one_ite (fun _=>one_err (by decide)) (fun hc=>?_)
  exact SameBut.one (((wide _ (hp.turn (.inl N) _)).now _).turn (.inr rfl) _) (.inr (by show St.now (pushV _ _ _)=_; simp only [pushV,St.turnTop,St.turn]; omega)) ho
 ·exact SameBut.oneOut hp ho _
theorem put_now {s t:St} {v:Int} (h:(putS s v).2=0) (ht:(putS s v).1=t):t.now=s.now:=by
 unfold putS at h ht
 split at ht
 ·rename_i e; rw [if_pos e] at h; cases h
 ·rw [← ht]
theorem step_back {p:List Fn} {s t:St} (h:stErrS p s=0) (hn:0≤s.now) (hd:doneS p s=(t,0)) (hne:t.now≠s.now) (h0:0≤t.now) :
  t.fibers.length=s.fibers.length∧s.now.toNat < s.fibers.length∧t.now.toNat < s.fibers.length ∧
  (((fibAt s s.now.toNat).caller=t.now∧(fibAt t s.now.toNat).caller=-1∧∃ gs u d v,fibAt s t.now.toNat=⟨gs++[u],d⟩∧fibAt t t.now.toNat=⟨gs++[u.stk (u.stack++[v])],d⟩) ∨
   ((fibAt s s.now.toNat).caller≠t.now∧(fibAt t t.now.toNat).caller=s.now∧(fibAt s t.now.toNat).caller=-1)):=by
 obtain ⟨l,_,hg⟩:=right_good h
 obtain ⟨n,fs,u0,c,kd,a,ta,lb,hr⟩:=hg.runner hn
 have hnow:=hr.op.now
 have hlt:=hr.op.tops.lt
 obtain ⟨k0,k17⟩:=hr.kind
 have hst:=hr.stack
 have hhas:=hr.has
 have e0:s.now.toNat=n:=by omega
 have hc0:(fibAt s n).caller=c:=hr.callerOf
 have same:∀ {x:St × Int},doneS p s=x→x.1.now=s.now→False:=fun hx e=>by rw [hd] at hx; subst hx; exact hne e
 by_cases k10:kd≤10
 ·obtain ⟨t',j,e,_⟩:=done_stay hr.op k0 k10 hr.eff (by omega) hr.at0 hr.goes
  exact (same e rfl).elim
 by_cases k11:kd=11
 ·subst k11
  have e:=goes_call hr.op
  rw [hd] at e
  split at e
  ·cases e
  ·exact (same (hd.trans e) rfl).elim
 by_cases k13:kd=13
 ·subst k13
  have e:=goes_make hr.op
  rw [hd] at e
  split at e
  ·cases e
  ·exact (same (hd.trans e) rfl).elim
 by_cases k16:kd=16
 ·subst k16
  have e1:ta=1:=(hr.plain (by omega)).1
  obtain ⟨st,v,hsv⟩:=stack_one (l:=u0.stack) (by omega)
  have e:=goes_put hr.op hsv
  rw [hd] at e
  have hx:=put_now (t:=t) (congrArg Prod.snd e).symm (congrArg Prod.fst e).symm
  exact (hne hx).elim
 by_cases k14:kd=14
 ·subst k14
  have e1:ta=2:=(hr.plain (by omega)).1
  obtain ⟨st,x,v,hsv⟩:=stack_two (l:=u0.stack) (by omega)
  have e:=goes_resume hr.op hsv
  rw [hd,hg.line.1] at e
  split at e
  ·rename_i hix
   obtain ⟨hx0,hx1⟩:=ixB_iff.1 hix
   obtain ⟨m,rfl⟩:∃ m:Nat,x=m:=⟨x.toNat,by omega⟩
   rw [Int.toNat_natCast] at e
   split at e
   ·cases e
   ·rename_i hno
    rw [not_or] at hno
    obtain ⟨hml,hfr⟩:=hno
    simp only [Option.getD_some] at hml
    have hnm:n≠m:=by rintro rfl; exact hml (by rw [← hnow]; exact hg.now_mem hn)
    have hmlt:m < s.fibers.length:=by omega
    have ht:=(Prod.mk.inj e).1
    have htn:t.now=m:=by rw [ht]
    have htm:t.now.toNat=m:=by omega
    have hl:t.fibers.length=s.fibers.length:=by rw [ht]; simp [setFib]
    rw [e0,htm,htn,hnow]
    refine ⟨hl,hlt,hmlt,.inr ⟨?_,?_,hg.off hmlt hml⟩⟩
    ·intro ec
     rw [hc0] at ec
     have hin:(n:Int)∈l:=by rw [← hnow]; exact hg.now_mem hn
     rcases hg.path.next _ hin with ⟨h2,_⟩ | h2
     ·have:callerOf s.fibers (n:Int)=c:=hc0
      omega
     ·have:callerOf s.fibers (n:Int)=c:=hc0
      rw [this,ec] at h2
      exact hml h2
    ·rw [ht]
     show (fibAt (setFib (setFib s n _) m _) m).caller=_
     rw [fibAt_same _ (by rw [setFib_len]; exact hmlt)]
     rfl
  ·cases e
 by_cases k12:kd=12
 ·subst k12
  have e1:ta=1:=(hr.plain (by omega)).1
  obtain ⟨st,v,hsv⟩:=stack_one (l:=u0.stack) (by omega)
  rcases List.eq_nil_or_concat fs with rfl | ⟨gs,u,rfl⟩
  ·by_cases hc:c < 0
   ·have e:=done_return_end hr.op hsv hc
    rw [hd] at e
    have:=put_now (t:=t) (congrArg Prod.snd e).symm (congrArg Prod.fst e).symm
    have:t.now=-1:=this
    omega
   ·obtain ⟨m,gs,u,d,ec,hnm,htop,_⟩:=hr.caller (by omega)
    have e:=done_return_on hr.op hsv ec hnm htop
    rw [hd] at e
    have ht:=(Prod.mk.inj e).1
    have htn:t.now=m:=by rw [ht]
    have htm:t.now.toNat=m:=by omega
    rw [e0,htm,htn]
    refine ⟨by rw [ht]; simp [setFib],hlt,htop.lt,.inl ⟨by rw [hc0,ec],?_,gs,u,d,v,htop.eq,?_⟩⟩
    ·rw [ht]
     show (fibAt (setFib (setFib s n _) m _) n).caller=_
     rw [fibAt_ne _ (Ne.symm hnm),fibAt_same _ hlt]
    ·rw [ht]
     show fibAt (setFib (setFib s n _) m _) m=_
     rw [fibAt_same _ (by rw [setFib_len]; exact htop.lt)]
  ·have hopn:=hr.op
   rw [List.concat_eq_append] at hopn
   exact (same (done_return_in hopn hsv) rfl).elim
 obtain rfl:kd=15:=by omega
 have e1:ta=1:=(hr.plain (by omega)).1
 obtain ⟨st,v,hsv⟩:=stack_one (l:=u0.stack) (by omega)
 by_cases hc:c < 0
 ·have e:=goes_yield hr.op hc
  rw [hd] at e
  cases e
 ·obtain ⟨m,gs,u,d,ec,hnm,htop,_⟩:=hr.caller (by omega)
  have e:=done_yield_on hr.op hsv ec hnm htop
  rw [hd] at e
  have ht:=(Prod.mk.inj e).1
  have htn:t.now=m:=by rw [ht]
  have htm:t.now.toNat=m:=by omega
  rw [e0,htm,htn]
  refine ⟨by rw [ht]; simp [setFib],hlt,htop.lt,.inl ⟨by rw [hc0,ec],?_,gs,u,d,v,htop.eq,?_⟩⟩
  ·rw [ht]
   show (fibAt (setFib (setFib s n _) m _) n).caller=_
   rw [fibAt_ne _ (Ne.symm hnm),fibAt_same _ hlt]
  ·rw [ht]
   show fibAt (setFib (setFib s n _) m _) m=_
   rw [fibAt_same _ (by rw [setFib_len]; exact htop.lt)]
open Go.RowKit
theorem within_any (i l n:Int) (w:World) :
  Calls Tryz.prog 31 #[.int .i64 i,.int .i64 l,.int .i64 n] w fun e w'=>e=.returned (.bool (inB i l n))∧w=w':=by
 by_cases h1:l≤i
 ·by_cases h2:i≤n
  ·rw [inB_true h1 h2]
   go_enter Tryz.func31,Tryz.ntmps31
   go_wp2
   go_ret
   exact ⟨rfl,rfl⟩
  ·rw [inB_false (by omega)]
   go_enter Tryz.func31,Tryz.ntmps31
   go_wp2
   go_ret
   exact ⟨rfl,rfl⟩
 ·rw [inB_false (by omega)]
  go_enter Tryz.func31,Tryz.ntmps31
  go_wp2
  go_ret
  exact ⟨rfl,rfl⟩
def Turned (base bs:Nat) (s':St) (r:Value) (w:World) (e:Ending) (w':World):Prop:=e=.returned r∧∃ V',OwnVar base w' bs V' s'∧Below base w w'
theorem top_any (bs N capF gF i q cap g:Nat) (w:World) (hi:i < N) (hq:0 < q) (hqs:q≤1000)
  (c0:w.cell? ⟨bs,0,none⟩=some (.slice (some ⟨gF,0,none⟩) N capF)) (c1:w.cell? ⟨gF,i * 2,none⟩=some (.slice (some ⟨g,0,none⟩) q cap)) :
  Calls Tryz.prog 80 #[.pointer (some ⟨bs,0,none⟩),.int .i64 i] w fun e w'=>e=.returned (.pointer (some ⟨g,(q - 1) * 4,none⟩))∧∃ m,w'=w.drewN m:=by
 obtain ⟨t,rfl⟩:∃ t,q=t + 1:=⟨q - 1,by omega⟩
 have hi1:(i:Int) < (N:Int):=by omega
 have hi0:(0:Int)≤(i:Int):=by omega
 have hw:IntKind.i64.wrap (((t + 1:Nat):Int) - 1)=(t:Int):=by rw [IntKind.wrap_i64]; omega
 have hw2:IntKind.i64.wrap ((t:Int) + 1 - 1)=(t:Int):=by rw [IntKind.wrap_i64]; omega
 have ht:(t:Int) + 1 - 1=(t:Int):=by omega
 have ht1:(t:Int) < (t:Int) + 1:=by omega
 have ht0:(0:Int)≤(t:Int):=by omega
 go_enter Tryz.func80,Tryz.ntmps80
 go_wp2
 go_quiet (fail)
 go_wp2
 go_ret
 exact ⟨rfl,_,rfl⟩
theorem top_own {base bs:Nat} {w:World} {V:Key→Value} {s:St} (h:OwnVar base w bs V s) {i:Nat} (hi:i < s.fibers.length) (hq:0 < (fibAt s i).frames.length) (hqs:(fibAt s i).frames.length≤1000) :
  ∃ g cap,V (.frames i)=.slice (some ⟨g,0,none⟩) (fibAt s i).frames.length cap∧Calls Tryz.prog 80 #[.pointer (some ⟨bs,0,none⟩),.int .i64 i] w fun e w'=>e=.returned (.pointer (some ⟨g,((fibAt s i).frames.length - 1) * 4,none⟩))∧∃ m,w'=w.drewN m:=by
 obtain ⟨gF,capF,eF,_,k0,_⟩:=h.own.fib hi
 obtain ⟨g,cap,eg,_,_⟩:=h.own.fr hi (j:=0) hq
 obtain ⟨c0,_⟩:=h.cells
 rw [eF] at c0
 rw [eg] at k0
 exact ⟨g,cap,eg,top_any bs _ capF gF i _ cap g w hi hq hqs c0 k0⟩
theorem push_any (base bs:Nat) (V:Key→Value) (s:St) (i:Nat) (z:Int) (w:World) (h:OwnVar base w bs V s) (hi:i < s.fibers.length) (hq:0 < (fibAt s i).frames.length) (hqs:(fibAt s i).frames.length≤1000) (hst:(frAt s i ((fibAt s i).frames.length - 1)).stack.length≤1000) :
  Calls Tryz.prog 81 #[.pointer (some ⟨bs,0,none⟩),.int .i64 i,.int .i64 z] w fun e w'=>Turned base bs (pushV s i z) (.tuple #[]) w e w':=by
 obtain ⟨i0,hi0,hz0,hz1,hz2⟩:=info_parts infoInt
 obtain ⟨g,cap,eg,htop⟩:=top_own h hi hq hqs
 unfold pushV
 rw [turnTop_setFr]
 generalize hj:(fibAt s i).frames.length - 1=j at *
 have hjl:j < (fibAt s i).frames.length:=by omega
 have HT:=hide htop
 have HO:=hide h
 have HEG:=hide eg
 clear htop h
 go_enter Tryz.func81,Tryz.ntmps81
 go_wp2_with fail
 refine (un HT).mono ?_
 rintro e w1 ⟨rfl,m,rfl⟩
 generalize hw1:w.drewN m=w1
 have ho1:OwnVar base w1 bs V s:=(un HO).same (by rw [← hw1]; rfl)
 have hb1:Below base w w1:=by rw [← hw1]; exact below_drewN (Below.refl _ w) m
 obtain ⟨g',cap',eg',_,f0,f1,f2,f3,ffz,hbg⟩:=ho1.own.fr hi hjl
 rw [un HEG] at eg'
 obtain ⟨⟨rfl⟩,-,rfl⟩:=(by simpa using eg':(g=g')∧True∧cap=cap')
 have hs:=ho1.own.stk hi hjl
 have hlg:=cell_lt f0
 simp only at hlg
 have hbw:base≤w1.heap.size:=by omega
 have hgs:(V (.stack i j)).ownBlock≠some g:=fun e=>by
  have:=ho1.own.apart (.stack i j) (.frames i) g ⟨hi,hjl⟩ hi e (by rw [un HEG]; rfl)
  cases this
 have HO1:=hide ho1
 have HB1:=hide hb1
 have HS:=hide hs
 have hfz:=ffz (j * 4 + 3)
 generalize hvs:V (.stack i j)=vs0 at *
 have HVS:=hide hvs
 generalize hl:(frAt s i j).stack=l at *
 have HL:=hide hl
 clear hw1 hb1 ho1 hvs hl hs f0 f1 f2 ffz eg'
 go_wp2_with (at_builtin; refine wpList_append_own_at _ rfl _ _ 24 rfl base 3 i0 (.int .i64 0) 1 8 Tryz.underlying24 hi0 hz0 hz1 hz2 rfl (by decide) _ _ _ rfl ((un HS).alloc _) ⟨w1.heap.size,0,none⟩ 1 1 [.int .i64 z] rfl rfl (new_one _ _ _) (int_one _) (by unfold maxLen; omega) (by omega) (by simp; omega) ?_; intro v' w2 hown' hgrow _ hat; obtain ⟨o2,c2,rfl,-⟩:=row_slice hown'; have g3:w2.cell? ⟨g,j * 4 + 3,none⟩=some vs0:=hgrow.cell (((Kept.refl w1).alloc _).cell f3) (fun e=>hgs e.symm); have gz:w2.frozen? ⟨g,j * 4 + 3,none⟩=false:=(World.frozen?_of_block (hgrow.block g (by simp; omega) (fun e=>hgs e.symm))).trans ((World.frozen?_of_block (Below.heap_alloc w1 _ g hlg)).trans hfz); have HOW:=hide hown'; have HGR:=hide hgrow; have HAT:=hide hat; clear hown' hgrow hat)
 go_end0
 have hfin:=((un HO1).alloc (.cells #[.int .i64 z] 3)).turnStack (w2:=w2) hi hjl (un HEG) (.slice o2 (l.length + 1) c2) (l++[z]) (by rw [un HVS]; exact un HGR) (by rw [ints_append,List.length_append]; exact un HOW) (by rw [un HVS]; exact un HAT)
 unfold Turned
 refine ⟨rfl,upd V (.stack i j) (.slice o2 (l.length + 1) c2),?_,?_⟩
 ·rw [un HL]
  exact hfin.1
 ·exact Below.trans (un HB1) (Below.trans (Below.alloc (Below.refl _ w1) hbw _) hfin.2)
def Pulled (base bs:Nat) (s':St) (r:Value) (V:Key→Value) (i:Nat) (w:World) (e:Ending) (w':World):Prop :=
 e=.returned r∧∃ V',OwnVar base w' bs V' s'∧Below base w w'∧V' (.frames i)=V (.frames i)∧(∀ k,(V' k).ownBlock=(V k).ownBlock)∧∀ b,(V (.frames i)).ownBlock≠some b→w'.heap[b]?=w.heap[b]?
theorem pull_sharp (base bs:Nat) (V:Key→Value) (s:St) (i:Nat) (w:World) (h:OwnVar base w bs V s) (hn:s.now=i) (hi:i < s.fibers.length) (hq:0 < (fibAt s i).frames.length) (hqs:(fibAt s i).frames.length≤1000) (hst:(frAt s i ((fibAt s i).frames.length - 1)).stack.length≤1000) (hst0:0 < (frAt s i ((fibAt s i).frames.length - 1)).stack.length) :
  Calls Tryz.prog 82 #[.pointer (some ⟨bs,0,none⟩)] w fun e w'=>Pulled base bs (pullV s) (.int .i64 (lastV s)) V i w e w':=by
 obtain ⟨g,cap,eg,htop⟩:=top_own h hi hq hqs
 have hlast:lastV s=(frAt s i ((fibAt s i).frames.length - 1)).stack.getD ((frAt s i ((fibAt s i).frames.length - 1)).stack.length - 1) 0:=by
  unfold lastV St.top St.fib
  rw [hn,Int.toNat_natCast,show s.fibers.getD i Fb.zero=fibAt s i from rfl,top_frAt,List.getLast?_eq_getElem?]
  rfl
 have hpull:pullV s=setFr s i ((fibAt s i).frames.length - 1) { frAt s i ((fibAt s i).frames.length - 1) with stack:=(frAt s i ((fibAt s i).frames.length - 1)).stack.dropLast }:=by
  unfold pullV
  rw [hn,turnTop_setFr]
 rw [hpull]
 generalize hzz:lastV s=z at *
 clear hpull hzz
 generalize hj:(fibAt s i).frames.length - 1=j at *
 have hjl:j < (fibAt s i).frames.length:=by omega
 obtain ⟨_,c1,_,_⟩:=h.cells
 rw [hn] at c1
 have HT:=hide htop
 have HO:=hide h
 have HEG:=hide eg
 clear htop h
 go_enter Tryz.func82,Tryz.ntmps82
 go_wp2_with fail
 refine (un HT).mono ?_
 rintro e w1 ⟨rfl,m,rfl⟩
 generalize hw1:w.drewN m=w1
 have ho1:OwnVar base w1 bs V s:=(un HO).same (by rw [← hw1]; rfl)
 have hb1:Below base w w1:=by rw [← hw1]; exact below_drewN (Below.refl _ w) m
 have HSM:Hid (w1.heap=w.heap):=by rw [← hw1]; exact hide rfl
 obtain ⟨g',cap',eg',_,f0,f1,f2,f3,ffz,hbg⟩:=ho1.own.fr hi hjl
 rw [un HEG] at eg'
 obtain ⟨⟨rfl⟩,-,rfl⟩:=(by simpa using eg':(g=g')∧True∧cap=cap')
 have hs:=ho1.own.stk hi hjl
 obtain ⟨gs,cs,es,hcs,hcell,_,_⟩:=row_some hs hst0
 have hfz:=ffz (j * 4 + 3)
 have HO1:=hide ho1
 have HB1:=hide hb1
 rw [es] at f3 hs
 have HS:=hide hs
 have HES:=hide es
 have hlt:(frAt s i j).stack.length - 1 < (frAt s i j).stack.length:=by omega
 have hcl:=hcell ((frAt s i j).stack.length - 1) (.int .i64 ((frAt s i j).stack.getD ((frAt s i j).stack.length - 1) 0)) (ints_at (getD_of_lt _ _ 0 hlt))
 generalize hl:(frAt s i j).stack=l at *
 have HL:=hide hl
 obtain ⟨t,ht⟩:∃ t,l.length=t + 1:=⟨l.length - 1,by omega⟩
 rw [← hlast] at hcl
 rw [ht] at f3 hcl
 simp only [Nat.add_sub_cancel] at hcl
 have hw:IntKind.i64.wrap ((t:Int) + 1 - 1)=(t:Int):=by rw [IntKind.wrap_i64]; omega
 have hts:(t:Int) + 1 - 1=(t:Int):=by omega
 have ht1:(t:Int) < (t:Int) + 1:=by omega
 have ht0:(0:Int)≤(t:Int):=by omega
 have htc:(t:Int)≤(cs:Int):=by omega
 have HTL:=hide ht
 clear hw1 hb1 ho1 es hl hs f0 f1 f2 ffz eg' hcell hlast
 go_wp2
 go_quiet (fail)
 go_wp2
 generalize hw3:w1.drewN nq=w3
 have ho3:OwnVar base w3 bs V s:=(un HO1).same (by rw [← hw3]; rfl)
 have k3:w3.cell? ⟨g,j * 4 + 3,none⟩=some (.slice (some ⟨gs,0,none⟩) (t + 1) cs):=by rw [← hw3]; exact f3
 have kz:w3.frozen? ⟨g,j * 4 + 3,none⟩=false:=by rw [← hw3]; exact hfz
 have HB3:Hid (Below base w w3):=by rw [← hw3]; exact hide (below_drewN (un HB1) nq)
 have HSM3:Hid (w3.heap=w.heap):=by rw [← hw3]; exact hide (un HSM)
 have HO3:=hide ho3
 clear hw3 ho3 f3 hfz hcl HB1 HO1
 go_region
 all_goals go_wp2_with fail
 go_ret
 have hdl:l.dropLast=l.take t:=by rw [List.dropLast_eq_take,un HTL,Nat.add_sub_cancel]
 have hrow:w3.ownsRow base 3 1 (.slice (some ⟨gs,0,none⟩) t cs) (l.take t).length (ints (l.take t)):=by
  have h3:=(un HO3).own.stk hi hjl
  rw [un HES,un HL] at h3
  have hlt':(l.take t).length=t:=by rw [List.length_take]; have:=un HTL; omega
  rw [hlt']
  exact row_cut h3 rfl t (by have:=un HTL; omega)
 have hfin:=(un HO3).turnStack (w2:=w3) hi hjl (un HEG) (.slice (some ⟨gs,0,none⟩) t cs) (l.take t) (grown_refl _ _) hrow (.inl (by rw [un HES]; rfl))
 unfold Pulled
 refine ⟨rfl,upd V (.stack i j) (.slice (some ⟨gs,0,none⟩) t cs),?_,?_,upd_ne V _ (by simp),fun k=>?_,fun b hb=>?_⟩
 ·rw [un HL,hdl]
  exact OwnVar.same hfin.1 rfl
 ·exact Below.drew (Below.trans (un HB3) hfin.2)
 ·by_cases e:k=.stack i j
  ·subst e; rw [upd_same,un HES]; rfl
  ·rw [upd_ne V _ e]
 ·show (w3.setCell _ _).heap[b]?=_
  rw [Below.heap_setCell _ _ _ _ (fun e=>hb (by rw [un HEG]; exact congrArg some e.symm)),un HSM3]
theorem pull_any (base bs:Nat) (V:Key→Value) (s:St) (i:Nat) (w:World) (h:OwnVar base w bs V s) (hn:s.now=i) (hi:i < s.fibers.length) (hq:0 < (fibAt s i).frames.length) (hqs:(fibAt s i).frames.length≤1000) (hst:(frAt s i ((fibAt s i).frames.length - 1)).stack.length≤1000) (hst0:0 < (frAt s i ((fibAt s i).frames.length - 1)).stack.length) :
  Calls Tryz.prog 82 #[.pointer (some ⟨bs,0,none⟩)] w fun e w'=>Turned base bs (pullV s) (.int .i64 (lastV s)) w e w' :=
 (pull_sharp base bs V s i w h hn hi hq hqs hst hst0).mono fun _ _ ⟨h1,V',h2,h3,_⟩=>⟨h1,V',h2,h3⟩
def PutPost (base bs:Nat) (s:St) (v:Int) (w:World) (e:Ending) (w':World):Prop :=
 e=.returned (.int .i64 (putS s v).2)∧Below base w w'∧((putS s v).2=0→∃ V',OwnVar base w' bs V' (putS s v).1)
theorem put_any (base bs:Nat) (V:Key→Value) (s:St) (z:Int) (w:World) (h:OwnVar base w bs V s) (ho:s.out.length≤30) :
  Calls Tryz.prog 87 #[.pointer (some ⟨bs,0,none⟩),.int .i64 z] w fun e w'=>PutPost base bs s z w e w':=by
 obtain ⟨i0,hi0,hz0,hz1,hz2⟩:=info_parts infoInt
 obtain ⟨_,_,c2,fz⟩:=h.cells
 have hs:w.ownsRow base 3 1 (V .out) s.out.length (ints s.out):=h.own.piece .out trivial
 have hbsw:=lt_of_block h.var
 have hlow:=h.low
 have hbs:(V .out).ownBlock≠some bs:=h.off .out trivial
 have f2:=fz 2
 obtain ⟨oo,co,eo,hrow⟩:=row_slice hs
 have HO:=hide h
 have HS:=hide hs
 have HEO:=hide eo
 rw [eo] at c2
 clear h fz hrow
 by_cases h30:s.out.length=30
 ·have hp:putS s z=(St.zero,2):=by unfold putS; rw [if_pos h30]
  have HP:=hide hp
  rw [h30] at c2
  clear hp h30
  go_enter Tryz.func87,Tryz.ntmps87
  go_wp2
  go_ret
  exact ⟨by rw [un HP]; rfl,Below.refl _ _,fun e=>by rw [un HP] at e; cases e⟩
 ·have hp:putS s z=({ s with out:=s.out++[z] },0):=by unfold putS; rw [if_neg h30]
  have HP:=hide hp
  have hb:((s.out.length:Int) == 30)=false:=by rw [beq_eq_false_iff_ne]; omega
  rw [eo] at hs hbs
  have HS2:=hide hs
  have hlw:base≤w.heap.size:=by omega
  clear hp hs
  generalize hl:s.out=l at *
  have HL:=hide hl
  clear hl
  go_enter Tryz.func87,Tryz.ntmps87
  go_wp2_with (at_builtin; refine wpList_append_own_at _ rfl _ _ 24 rfl base 3 i0 (.int .i64 0) 1 8 Tryz.underlying24 hi0 hz0 hz1 hz2 rfl (by decide) _ _ _ rfl ((un HS2).alloc _) ⟨w.heap.size,0,none⟩ 1 1 [.int .i64 z] rfl rfl (new_one _ _ _) (int_one _) (by unfold maxLen; omega) (by omega) (by simp; omega) ?_; intro v' w2 hown' hgrow _ hat; obtain ⟨o2,q2,rfl,-⟩:=row_slice hown'; have g2:w2.cell? ⟨bs,2,none⟩=some (.slice oo l.length co):=hgrow.cell (((Kept.refl w).alloc _).cell c2) (fun e=>hbs e.symm); have gz:w2.frozen? ⟨bs,2,none⟩=false:=(World.frozen?_of_block (hgrow.block bs (by simp; omega) (fun e=>hbs e.symm))).trans ((World.frozen?_of_block (Below.heap_alloc w _ bs hbsw)).trans f2); have HOW:=hide hown'; have HGR:=hide hgrow; have HAT:=hide hat; clear hown' hgrow hat)
  go_ret
  have hfin:=((un HO).alloc (.cells #[.int .i64 z] 3)).turnOut (w2:=w2) (l++[z]) (.slice o2 (l.length + 1) q2) (by rw [un HEO]; exact un HGR) (by rw [ints_append,List.length_append]; exact un HOW) (by rw [un HEO]; exact un HAT)
  refine ⟨by rw [un HP]; rfl,Below.trans (Below.alloc (Below.refl _ w) hlw _) hfin.2,fun _=>⟨upd V .out (.slice o2 (l.length + 1) q2),?_⟩⟩
  rw [un HP]
  exact hfin.1
def EndPost (base bs:Nat) (r:St × Int) (w:World) (e:Ending) (w':World):Prop :=
 e=.returned (.int .i64 r.2)∧Below base w w'∧(r.2=0→∃ V',OwnVar base w' bs V' r.1)
theorem yielded_any (base bs:Nat) (V:Key→Value) (s:St) (i:Nat) (w:World) (h:OwnVar base w bs V s) (hn:s.now=i) (hr:Runs s i) (hst0:0 < (frAt s i ((fibAt s i).frames.length - 1)).stack.length)
  (hc:∀ c:Int,(fibAt s i).caller=c→0≤c→∃ k:Nat,c=k∧k≠i∧Runs s k) :
  Calls Tryz.prog 86 #[.pointer (some ⟨bs,0,none⟩)] w fun e w'=>EndPost base bs (yieldedS s) w e w':=by
 have hpl:=pull_any base bs V s i w h hn hr.lt hr.fr hr.frs hr.st hst0
 have hps:=pullV_setFr hn
 have hcal:(fibAt (pullV s) i).caller=(fibAt s i).caller:=by rw [hps,setFr_caller _ hr.lt]
 have hlen:(pullV s).fibers.length=s.fibers.length:=by rw [hps]; exact setFib_len _ _ _
 have hnow:(pullV s).now=i:=by rw [hps]; exact hn
 have hoth:∀ k,k≠i→fibAt (pullV s) k=fibAt s k:=fun k hk=>by rw [hps]; exact setFr_other _ (fun e=>hk e.symm)
 have hys:yieldedS s=if (fibAt s i).caller < 0 then (St.zero,7) else (pushV { (setFib (pullV s) i { fibAt (pullV s) i with caller:=-1 }) with now:=(fibAt s i).caller } (fibAt s i).caller (lastV s),0):=by
  unfold yieldedS
  simp only
  rw [hn,fib_fibAt,turn_setFib,hcal]
 rw [hys]
 generalize hcc:(fibAt s i).caller=c at *
 have hc':=hc c rfl
 have HPL:=hide hpl
 have HLT:=hide hr.lt
 have HHO:=hide hoth
 clear hpl hps hys hc h
 generalize hs1:pullV s=s1 at *
 generalize lastV s=z at *
 have HC:=hide hc'
 clear hc' hr hst0 hs1 hcc
 generalize hL:s.fibers.length=L at *
 have HRK:Hid (∀ k,Runs s k→k≠i→Runs { (setFib s1 i { fibAt s1 i with caller:=-1 }) with now:=(k:Int) } k):=hide (fun k hrk hki=>by
  refine hrk.other ?_ ?_
  ·show (setFib s1 i _).fibers.length=_
   rw [setFib_len,hlen,hL]
  ·show fibAt (setFib s1 i _) k=_
   rw [fibAt_ne _ (fun e=>hki e.symm)]
   exact (un HHO) k hki)
 clear HHO hL
 generalize hR:(if c < 0 then (St.zero,(7:Int)) else (pushV { (setFib s1 i { fibAt s1 i with caller:=-1 }) with now:=c } c z,0))=R
 have HR:=hide hR
 clear hR
 go_enter Tryz.func86,Tryz.ntmps86
 go_wp2_with fail
 refine (un HPL).mono ?_
 rintro e w1 ⟨rfl,V1,ho1,hb1⟩
 obtain ⟨c0,c1,_,fz⟩:=ho1.cells
 obtain ⟨gF,capF,eF,hcF,_,k1,fzF,hbF⟩:=ho1.own.fib (i:=i) (by rw [hlen]; exact un HLT)
 rw [eF] at c0
 rw [hnow] at c1
 rw [hcal] at k1
 have hne:¬ gF=bs:=fun e=>ho1.off .fibers trivial (by rw [eF,← e]; rfl)
 have hne':¬ bs=gF:=fun e=>hne e.symm
 have hi1:(i:Int) < (L:Int):=by have:=un HLT; omega
 have hi0:(0:Int)≤(i:Int):=by omega
 rw [hlen] at c0
 have f1:=fz 1
 have fF:=fzF (i * 2 + 1)
 have HO1:=hide ho1
 have HB1:=hide hb1
 have HEF:=hide eF
 clear ho1 hb1 eF fz fzF
 by_cases hneg:c < 0
 ·have hR:=un HR
  rw [if_pos hneg] at hR
  subst hR
  have hd:decide (c < 0)=true:=decide_eq_true hneg
  go_wp2
  go_quiet (fail)
  go_wp2
  go_ret
  exact ⟨rfl,below_drewN (un HB1) _,fun e=>by cases e⟩
 ·have hd:decide (c < 0)=false:=decide_eq_false hneg
  obtain ⟨k,hk,hki,hrk⟩:=(un HC) (by omega)
  have hR:=un HR
  rw [if_neg hneg] at hR
  subst hR hk
  have HRK2:=hide ((un HRK) k hrk hki)
  clear hrk HC HRK HR
  go_wp2
  go_quiet (fail)
  go_wp2_with fail
  have hd1:OwnVar base (w1.drewN nq) bs V1 s1:=(un HO1).same rfl
  have ho2:=hd1.setNow (k:Int)
  obtain ⟨ho3,hb3⟩:=ho2.setCaller (i:=i) (by show i < s1.fibers.length; rw [hlen]; exact un HLT) (show V1 .fibers=.slice (some ⟨gF,0,none⟩) s1.fibers.length capF from un HEF) (-1)
  have hrk:=un HRK2
  refine (push_any base bs V1 _ k z _ ho3 hrk.lt hrk.fr hrk.frs hrk.st).mono ?_
  rintro e w4 ⟨rfl,V4,ho4,hb4⟩
  have hb5:Below base w w4:=Below.trans (Below.trans (Below.trans (below_drewN (un HB1) nq) (Below.setCell (Below.refl _ _) hd1.low _)) hb3) hb4
  have HB5:=hide hb5
  have HO4:=hide ho4
  clear ho2 ho3 hb3 hb4 hb5 ho4 hd1 hrk
  go_wp2
  go_ret
  exact ⟨rfl,un HB5,fun _=>⟨V4,un HO4⟩⟩
def popped (s:St) (i:Nat):St:=setFib (pullV s) i { fibAt (pullV s) i with frames:=(fibAt (pullV s) i).frames.dropLast }
theorem givenS_eq {s:St} {i:Nat} (hn:s.now=i) (hi:i < s.fibers.length):givenS s =
  if (popped s i).fibers.length=0∨(fibAt (popped s i) i).frames=[] then
   (if (fibAt s i).caller < 0 then putS { popped s i with now:=-1 } (lastV s)
    else (pushV { (setFib (popped s i) i { fibAt (popped s i) i with caller:=-1 }) with now:=(fibAt s i).caller } (fibAt s i).caller (lastV s),0))
  else (pushV (popped s i) i (lastV s),0):=by
 have hps:=pullV_setFr hn
 have hcal:(fibAt (pullV s) i).caller=(fibAt s i).caller:=by rw [hps,setFr_caller _ hi]
 have hlen:(pullV s).fibers.length=s.fibers.length:=by rw [hps]; exact setFib_len _ _ _
 have hlp:(popped s i).fibers.length=s.fibers.length:=by unfold popped; rw [setFib_len,hlen]
 have hcp:(fibAt (popped s i) i).caller=(fibAt s i).caller:=by
  unfold popped; rw [fibAt_same _ (by rw [hlen]; exact hi)]; exact hcal
 unfold givenS
 simp only
 rw [hn,turn_setFib]
 show (if ((popped s i).fib (i:Int)).frames=[] then if ((popped s i).fib (i:Int)).caller < 0 then _ else (pushV { ((popped s i).turn (i:Int) _) with now:=((popped s i).fib (i:Int)).caller } ((popped s i).fib (i:Int)).caller (lastV s),0) else (pushV (popped s i) (i:Int) (lastV s),0))=_
 rw [fib_fibAt,turn_setFib,hcp]
 have h0:¬ (popped s i).fibers.length=0:=by omega
 simp only [h0,false_or]
 rfl
theorem given_any (base bs:Nat) (V:Key→Value) (s:St) (i:Nat) (w:World) (h:OwnVar base w bs V s) (hn:s.now=i) (hr:Runs s i) (hst0:0 < (frAt s i ((fibAt s i).frames.length - 1)).stack.length)
  (ho:s.out.length≤30) (hbel:1 < (fibAt s i).frames.length→(frAt s i ((fibAt s i).frames.length - 2)).stack.length≤1000)
  (hc:∀ c:Int,(fibAt s i).caller=c→0≤c→∃ k:Nat,c=k∧k≠i∧Runs s k) :
  Calls Tryz.prog 84 #[.pointer (some ⟨bs,0,none⟩)] w fun e w'=>EndPost base bs (givenS s) w e w':=by
 have hpl:=pull_any base bs V s i w h hn hr.lt hr.fr hr.frs hr.st hst0
 have hps:=pullV_setFr hn
 have hcal:(fibAt (pullV s) i).caller=(fibAt s i).caller:=by rw [hps,setFr_caller _ hr.lt]
 have hlen:(pullV s).fibers.length=s.fibers.length:=by rw [hps]; exact setFib_len _ _ _
 have hnow:(pullV s).now=i:=by rw [hps]; exact hn
 have hout:(pullV s).out=s.out:=by rw [hps]; rfl
 have hfl:(fibAt (pullV s) i).frames.length=(fibAt s i).frames.length:=by rw [hps]; exact setFr_frames _ hr.lt i
 have hlt1:i < (pullV s).fibers.length:=by rw [hlen]; exact hr.lt
 have hoth:∀ k,k≠i→fibAt (popped s i) k=fibAt s k:=fun k hk=>by
  unfold popped
  rw [fibAt_ne _ (fun e=>hk e.symm),hps]
  exact setFr_other _ (fun e=>hk e.symm)
 have hlp:(popped s i).fibers.length=s.fibers.length:=by unfold popped; rw [setFib_len,hlen]
 have hfp:fibAt (popped s i) i={ fibAt (pullV s) i with frames:=(fibAt (pullV s) i).frames.dropLast }:=by unfold popped; exact fibAt_same _ hlt1
 have hfpl:(fibAt (popped s i) i).frames.length=(fibAt s i).frames.length - 1:=by rw [hfp]; simp [hfl]
 have hrb:1 < (fibAt s i).frames.length→Runs (popped s i) i:=fun h1=>by
  refine ⟨by rw [hlp]; exact hr.lt,by omega,by have:=hr.frs; omega,?_⟩
  have:frAt (popped s i) i ((fibAt (popped s i) i).frames.length - 1)=frAt s i ((fibAt s i).frames.length - 2):=by
   rw [hfpl]
   unfold frAt
   rw [hfp]
   simp only
   have hlt2:(fibAt s i).frames.length - 1 - 1 < (fibAt (pullV s) i).frames.length - 1:=by omega
   rw [show (fibAt s i).frames.length - 2=(fibAt s i).frames.length - 1 - 1 by omega]
   have e1:(fibAt (pullV s) i).frames.dropLast.getD ((fibAt s i).frames.length - 1 - 1) Fr.zero=(fibAt (pullV s) i).frames.getD ((fibAt s i).frames.length - 1 - 1) Fr.zero:=by
    have h2:(fibAt s i).frames.length - 1 - 1 < (fibAt (pullV s) i).frames.length:=by omega
    simp [List.getD,hlt2,h2]
   rw [e1]
   have:=frAt_ne (s:=s) (i:=i) (j:=(fibAt s i).frames.length - 1) (i':=i) (j':=(fibAt s i).frames.length - 1 - 1) { frAt s i ((fibAt s i).frames.length - 1) with stack:=(frAt s i ((fibAt s i).frames.length - 1)).stack.dropLast } hr.lt (by rintro ⟨_,e⟩; omega)
   rw [← hps] at this
   exact this
  rw [this]; exact hbel h1
 rw [givenS_eq hn hr.lt]
 have hemp:((popped s i).fibers.length=0∨(fibAt (popped s i) i).frames=[])↔(fibAt s i).frames.length=1:=by
  have:=hr.fr
  have:=hr.lt
  constructor
  ·rintro (e | e)
   ·omega
   ·have:=congrArg List.length e
    simp only [List.length_nil] at this
    omega
  ·intro e
   exact .inr (List.length_eq_zero_iff.1 (by omega))
 have hlop:=hr.lt
 have hq1:=hr.fr
 have hq2:=hr.frs
 have HRB:=hide hrb
 have HRK:Hid (∀ k,Runs s k→k≠i→Runs { (setFib (popped s i) i { fibAt (popped s i) i with caller:=-1 }) with now:=(k:Int) } k):=hide (fun k hrk hki=>by
  refine hrk.other ?_ ?_
  ·show (setFib (popped s i) i _).fibers.length=_
   rw [setFib_len,hlp]
  ·show fibAt (setFib (popped s i) i _) k=_
   rw [fibAt_ne _ (fun e=>hki e.symm)]
   exact hoth k hki)
 have hpout:(popped s i).out.length≤30:=by
  have:(popped s i).out=s.out:=hout
  rw [this]; exact ho
 have hpnow:(popped s i).now=i:=hnow
 generalize hcc:(fibAt s i).caller=c at *
 have hc':=hc c rfl
 generalize hzz:lastV s=z at *
 generalize hR:(if (popped s i).fibers.length=0∨(fibAt (popped s i) i).frames=[] then (if c < 0 then putS { popped s i with now:=-1 } z else (pushV { (setFib (popped s i) i { fibAt (popped s i) i with caller:=-1 }) with now:=c } c z,0)) else (pushV (popped s i) i z,0))=R
 have HR:=hide hR
 have HEM:=hide hemp
 have HPL:=hide hpl
 have HC:=hide hc'
 have HS1:=hide hlt1
 have HFP:=hide (show popped s i=setFib (pullV s) i { fibAt (pullV s) i with frames:=(fibAt (pullV s) i).frames.dropLast } from rfl)
 obtain ⟨t,ht⟩:∃ t,(fibAt s i).frames.length=t + 1:=⟨_,(Nat.sub_add_cancel hq1).symm⟩
 rw [ht] at hfl hq2 hemp
 have HT:=hide ht
 clear hR hemp hpl hps hc' hc h hr hrb hoth hfp hbel hcc hzz
 generalize hs1:pullV s=s1 at *
 generalize hL:s.fibers.length=L at *
 clear hs1
 go_enter Tryz.func84,Tryz.ntmps84
 go_wp2_with fail
 refine (un HPL).mono ?_
 rintro e w1 ⟨rfl,V1,ho1,hb1⟩
 obtain ⟨c0,c1,_,fz⟩:=ho1.cells
 obtain ⟨gF,capF,eF,hcF,k0,k1,fzF,hbF⟩:=ho1.own.fib (i:=i) hlt1
 obtain ⟨g,cap,eg,hcap,_⟩:=ho1.own.fr (i:=i) (j:=0) hlt1 (by omega)
 rw [eF] at c0
 rw [hnow] at c1
 rw [hcal] at k1
 rw [hlen] at c0
 rw [eg,hfl] at k0
 rw [hfl] at hcap
 have hne:¬ gF=bs:=fun e=>ho1.off .fibers trivial (by rw [eF,← e]; rfl)
 have hne':¬ bs=gF:=fun e=>hne e.symm
 have hi1:(i:Int) < (L:Int):=by omega
 have hi0:(0:Int)≤(i:Int):=by omega
 have hw:IntKind.i64.wrap ((t:Int) + 1 - 1)=(t:Int):=by rw [IntKind.wrap_i64]; omega
 have hts:(t:Int) + 1 - 1=(t:Int):=by omega
 have ht0:(0:Int)≤(t:Int):=by omega
 have htc:(t:Int)≤(cap:Int):=by omega
 have fF:=fzF (i * 2)
 have hdr:=ho1.dropFrame hlt1 eF eg
 rw [hfl,Nat.add_sub_cancel] at hdr
 have HDR:=hide hdr
 have HO1:=hide ho1
 have HB1:=hide hb1
 have HEF:=hide eF
 clear ho1 hb1 hdr
 go_wp2
 go_quiet (fail)
 go_wp2
 generalize hw2:w1.drewN nq=w2
 have y0:w2.cell? ⟨bs,0,none⟩=some (.slice (some ⟨gF,0,none⟩) L capF):=by rw [← hw2]; exact c0
 have y1:w2.cell? ⟨bs,1,none⟩=some (.int .i64 i):=by rw [← hw2]; exact c1
 have j0:w2.cell? ⟨gF,i * 2,none⟩=some (.slice (some ⟨g,0,none⟩) (t + 1) cap):=by rw [← hw2]; exact k0
 have j1:w2.cell? ⟨gF,i * 2 + 1,none⟩=some (.int .i64 c):=by rw [← hw2]; exact k1
 have jz:w2.frozen? ⟨gF,i * 2,none⟩=false:=by rw [← hw2]; exact fF
 have HDR2:Hid (OwnVar base (w2.setCell ⟨gF,i * 2,none⟩ (.slice (some ⟨g,0,none⟩) t cap)) bs (upd V1 (.frames i) (.slice (some ⟨g,0,none⟩) t cap)) (popped s i)∧Below base w (w2.setCell ⟨gF,i * 2,none⟩ (.slice (some ⟨g,0,none⟩) t cap))):=by
  rw [← hw2]
  refine hide ⟨by rw [un HFP]; exact OwnVar.same (un HDR).1 rfl,?_⟩
  exact Below.setCell (below_drewN (un HB1) nq) hbF _
 clear hw2 c0 c1 k0 k1 fF HDR HB1 HO1 fz fzF
 go_region
 generalize hwz:(w2.setCell ⟨gF,i * 2,none⟩ (.slice (some ⟨g,0,none⟩) t cap)).drew=wz
 have hoz:OwnVar base wz bs (upd V1 (.frames i) (.slice (some ⟨g,0,none⟩) t cap)) (popped s i):=by rw [← hwz]; exact OwnVar.same (un HDR2).1 rfl
 have hbz:Below base w wz:=by rw [← hwz]; exact Below.drew (un HDR2).2
 obtain ⟨x0,x1,_,xz⟩:=hoz.cells
 obtain ⟨gF',capF',eF',_,q0,q1,qz,_⟩:=hoz.own.fib (i:=i) (by rw [hlp]; exact hlop)
 rw [upd_ne V1 _ (by simp),un HEF] at eF'
 rw [upd_same] at q0
 obtain ⟨⟨rfl⟩,-,rfl⟩:=(by simpa using eF':(gF=gF')∧s1.fibers.length=(popped s i).fibers.length∧capF=capF')
 rw [upd_ne V1 _ (by simp),un HEF,hlen] at x0
 rw [hpnow] at x1
 have hcp:(fibAt (popped s i) i).caller=c:=by
  rw [un HFP,fibAt_same _ (un HS1)]; exact hcal
 rw [hcp] at q1
 have z1:=xz 1
 have zF:=qz (i * 2 + 1)
 have HOZ:=hide hoz
 have HBZ:=hide hbz
 clear hwz hoz hbz xz qz y0 y1 j0 j1 jz HDR2 eF' hcp
 by_cases hone:t=0
 ·subst hone
  have hem:=(un HEM).2 (un HT)
  have hR:=un HR
  rw [if_pos hem] at hR
  by_cases hneg:c < 0
  ·rw [if_pos hneg] at hR
   have hd:decide (c < 0)=true:=decide_eq_true hneg
   have HR2:=hide hR
   clear hR hem HC HRB HRK
   go_wp2_with fail
   have ho3:=(un HOZ).setNow (-1)
   refine (put_any base bs _ _ z _ ho3 hpout).mono ?_
   rintro e w4 ⟨rfl,hb4,hp4⟩
   rw [un HR2] at hp4 ⊢
   have HB4:=hide (Below.trans (Below.trans (un HBZ) (Below.setCell (Below.refl _ _) (un HOZ).low _)) hb4)
   have HP4:=hide hp4
   clear ho3 hb4 hp4
   go_wp2
   go_ret
   exact ⟨rfl,un HB4,un HP4⟩
  ·rw [if_neg hneg] at hR
   have hd:decide (c < 0)=false:=decide_eq_false hneg
   obtain ⟨k,hk,hki,hrk⟩:=(un HC) (by omega)
   subst hR hk
   have HRK2:=hide ((un HRK) k hrk hki)
   clear hem HC HRB HRK hrk HR
   go_wp2_with fail
   have ho2:=(un HOZ).setNow (k:Int)
   obtain ⟨ho3,hb3⟩:=ho2.setCaller (i:=i) (by show i < (popped s i).fibers.length; rw [hlp]; exact hlop) (show (upd V1 (.frames i) (.slice (some ⟨g,0,none⟩) 0 cap)) .fibers=.slice (some ⟨gF,0,none⟩) (popped s i).fibers.length capF by rw [upd_ne V1 _ (by simp),un HEF,hlen,hlp]) (-1)
   have hrk:=un HRK2
   refine (push_any base bs _ _ k z _ ho3 hrk.lt hrk.fr hrk.frs hrk.st).mono ?_
   rintro e w4 ⟨rfl,V4,ho4,hb4⟩
   have HB5:=hide (Below.trans (Below.trans (Below.trans (un HBZ) (Below.setCell (Below.refl _ _) (un HOZ).low _)) hb3) hb4)
   have HO4:=hide ho4
   clear ho2 ho3 hb3 hb4 ho4 hrk
   go_wp2
   go_ret
   exact ⟨rfl,un HB5,fun _=>⟨V4,un HO4⟩⟩
 ·have hem:¬ ((popped s i).fibers.length=0∨(fibAt (popped s i) i).frames=[]):=fun h=>by
   have:=(un HEM).1 h
   have:=un HT
   omega
  have hR:=un HR
  rw [if_neg hem] at hR
  subst hR
  have hd:decide ((0:Int) < (t:Int))=true:=decide_eq_true (by omega)
  have hrun:=(un HRB) (by have:=un HT; omega)
  have HRUN:=hide hrun
  clear hem HC HRB HRK hrun HR
  go_wp2_with fail
  have hrun:=un HRUN
  refine (push_any base bs _ _ i z _ (un HOZ) hrun.lt hrun.fr hrun.frs hrun.st).mono ?_
  rintro e w4 ⟨rfl,V4,ho4,hb4⟩
  have HB5:=hide (Below.trans (un HBZ) hb4)
  have HO4:=hide ho4
  clear hb4 ho4 hrun
  go_wp2
  go_ret
  exact ⟨rfl,un HB5,fun _=>⟨V4,un HO4⟩⟩
end Go.Proofs.YtadckjclgakcaaaGreatDoor
