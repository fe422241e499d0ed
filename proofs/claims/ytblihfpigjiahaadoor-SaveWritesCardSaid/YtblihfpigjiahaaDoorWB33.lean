/- StepD, StepE, StepF, StepG, StepI, StepK -/
import Derived.Test.YtblihfpigjiahaaDoorWB32
import Derived.Test.YtblihfpigjiahaaDoorWB13
import Derived.Test.YtblihfpigjiahaaDoorWB01
import Derived.Test.YtblihfpigjiahaaDoorWB11
import Derived.Test.YtblihfpigjiahaaDoorWB26
import Derived.Test.YtblihfpigjiahaaDoorWB25
set_option maxRecDepth 100000
set_option maxHeartbeats 8000000
namespace Go.Proofs.YtblihfpigjiahaaDoor
open Go.RowKit
def popped (s:St) (i:Nat):St:=Zh (Zj s) i { Zc (Zj s) i with frames:=(Zc (Zj s) i).frames.dropLast }
theorem Ztd {s:St} {i:Nat} (hn:s.now=i) (hi:i<s.fibers.length):Ub s =
  if (popped s i).fibers.length=0∨(Zc (popped s i) i).frames=[] then
   (if (Zc s i).caller<0 then Jv { popped s i with now:=-1 } (Zv s)
    else (Qb { (Zh (popped s i) i { Zc (popped s i) i with caller:=-1 }) with now:=(Zc s i).caller } (Zc s i).caller (Zv s),0))
  else (Qb (popped s i) i (Zv s),0):=by
 have hps:=Zbl hn
 have hcal:(Zc (Zj s) i).caller=(Zc s i).caller:=by rw [hps,Zbe _ hi]
 have hlen:(Zj s).fibers.length=s.fibers.length:=by rw [hps];exact Xf _ _ _
 have hlp:(popped s i).fibers.length=s.fibers.length:=by unfold popped;rw [Xf,hlen]
 have hcp:(Zc (popped s i) i).caller=(Zc s i).caller:=by
  unfold popped;rw [Qg _ (by rw [hlen];exact hi)];exact hcal
 unfold Ub
 simp only
 rw [hn,Uu]
 show (if ((popped s i).fib (i:Int)).frames=[] then if ((popped s i).fib (i:Int)).caller<0 then _ else (Qb { ((popped s i).turn (i:Int) _) with now:=((popped s i).fib (i:Int)).caller } ((popped s i).fib (i:Int)).caller (Zv s),0) else (Qb (popped s i) (i:Int) (Zv s),0))=_
 rw [Wg,Uu,hcp]
 have h0:¬ (popped s i).fibers.length=0:=by omega
 simp only [h0,false_or]
 rfl
theorem Zqb (base bs:Nat) (V:Key→Value) (s:St) (i:Nat) (w:World) (h:Zi base w bs V s) (hn:s.now=i) (hr:Qa s i) (hst0:0<(Ze s i ((Zc s i).frames.length - 1)).stack.length)
  (ho:s.out.length≤30) (hbel:1<(Zc s i).frames.length→(Ze s i ((Zc s i).frames.length - 2)).stack.length≤1000)
  (hc:∀ c:Int,(Zc s i).caller=c→0≤c→∃ k:Nat,c=k∧k≠i∧Qa s k) :
  Calls Tryd.prog 94 #[.pointer (some ⟨bs,0,none⟩)] w fun e w'=>Jj base bs (Ub s) w e w':=by
 have hpl:=Zgh base bs V s i w h hn hr.lt hr.fr hr.frs hr.st hst0
 have hps:=Zbl hn
 have hcal:(Zc (Zj s) i).caller=(Zc s i).caller:=by rw [hps,Zbe _ hr.lt]
 have hlen:(Zj s).fibers.length=s.fibers.length:=by rw [hps];exact Xf _ _ _
 have hnow:(Zj s).now=i:=by rw [hps];exact hn
 have hout:(Zj s).out=s.out:=by rw [hps];rfl
 have hfl:(Zc (Zj s) i).frames.length=(Zc s i).frames.length:=by rw [hps];exact Pc _ hr.lt i
 have hlt1:i<(Zj s).fibers.length:=by rw [hlen];exact hr.lt
 have hoth:∀ k,k≠i→Zc (popped s i) k=Zc s k:=fun k hk=>by
  unfold popped
  rw [Jb _ (fun e=>hk e.symm),hps]
  exact Zda _ (fun e=>hk e.symm)
 have hlp:(popped s i).fibers.length=s.fibers.length:=by unfold popped;rw [Xf,hlen]
 have hfp:Zc (popped s i) i={ Zc (Zj s) i with frames:=(Zc (Zj s) i).frames.dropLast }:=by unfold popped;exact Qg _ hlt1
 have hfpl:(Zc (popped s i) i).frames.length=(Zc s i).frames.length - 1:=by rw [hfp];simp [hfl]
 have hrb:1<(Zc s i).frames.length→Qa (popped s i) i:=fun h1=>by
  refine ⟨by rw [hlp];exact hr.lt,by omega,by have:=hr.frs;omega,?_⟩
  have:Ze (popped s i) i ((Zc (popped s i) i).frames.length - 1)=Ze s i ((Zc s i).frames.length - 2):=by
   rw [hfpl]
   unfold Ze
   rw [hfp]
   simp only
   have hlt2:(Zc s i).frames.length - 1 - 1<(Zc (Zj s) i).frames.length - 1:=by omega
   rw [show (Zc s i).frames.length - 2=(Zc s i).frames.length - 1 - 1 by omega]
   have e1:(Zc (Zj s) i).frames.dropLast.getD ((Zc s i).frames.length - 1 - 1) Fr.zero=(Zc (Zj s) i).frames.getD ((Zc s i).frames.length - 1 - 1) Fr.zero:=by
    have h2:(Zc s i).frames.length - 1 - 1<(Zc (Zj s) i).frames.length:=by omega
    simp [List.getD,hlt2,h2]
   rw [e1]
   have:=Pm (s:=s) (i:=i) (j:=(Zc s i).frames.length - 1) (i':=i) (j':=(Zc s i).frames.length - 1 - 1) { Ze s i ((Zc s i).frames.length - 1) with stack:=(Ze s i ((Zc s i).frames.length - 1)).stack.dropLast } hr.lt (by rintro ⟨_,e⟩;omega)
   rw [← hps] at this
   exact this
  rw [this];exact hbel h1
 rw [Ztd hn hr.lt]
 have hemp:((popped s i).fibers.length=0∨(Zc (popped s i) i).frames=[])↔(Zc s i).frames.length=1:=by
  have:=hr.fr
  have:=hr.lt
  constructor
  ·rintro (e | e)
   ·omega
   ·have:=congrArg List.length e
    simp only [List.length_nil] at this
    omega
  ·intro e
   exact .inr (List.length_eq_zero_iff.1 (by omega))
 have hlop:=hr.lt
 have hq1:=hr.fr
 have hq2:=hr.frs
 have HRB:=Za hrb
 have HRK:Hid (∀ k,Qa s k→k≠i→Qa { (Zh (popped s i) i { Zc (popped s i) i with caller:=-1 }) with now:=(k:Int) } k):=Za (fun k hrk hki=>by
  refine hrk.other ?_ ?_
  ·show (Zh (popped s i) i _).fibers.length=_
   rw [Xf,hlp]
  ·show Zc (Zh (popped s i) i _) k=_
   rw [Jb _ (fun e=>hki e.symm)]
   exact hoth k hki)
 have hpout:(popped s i).out.length≤30:=by
  have:(popped s i).out=s.out:=hout
  rw [this];exact ho
 have hpnow:(popped s i).now=i:=hnow
 generalize hcc:(Zc s i).caller=c at *
 have hc':=hc c rfl
 generalize hzz:Zv s=z at *
 generalize hR:(if (popped s i).fibers.length=0∨(Zc (popped s i) i).frames=[] then (if c<0 then Jv { popped s i with now:=-1 } z else (Qb { (Zh (popped s i) i { Zc (popped s i) i with caller:=-1 }) with now:=c } c z,0)) else (Qb (popped s i) i z,0))=R
 have HR:=Za hR
 have HEM:=Za hemp
 have HPL:=Za hpl
 have HC:=Za hc'
 have HS1:=Za hlt1
 have HFP:=Za (show popped s i=Zh (Zj s) i { Zc (Zj s) i with frames:=(Zc (Zj s) i).frames.dropLast } from rfl)
 obtain ⟨t,ht⟩:∃ t,(Zc s i).frames.length=t+1:=⟨_,(Nat.sub_add_cancel hq1).symm⟩
 rw [ht] at hfl hq2 hemp
 have HT:=Za ht
 clear hR hemp hpl hps hc' hc h hr hrb hoth hfp hbel hcc hzz
 generalize hs1:Zj s=s1 at *
 generalize hL:s.fibers.length=L at *
 clear hs1
 go_enter Tryd.func94,Tryd.ntmps94
 go_wp2_with fail
 refine (un HPL).mono ?_
 rintro e w1 ⟨rfl,V1,ho1,hb1⟩
 obtain ⟨c0,c1,_,fz⟩:=ho1.cells
 obtain ⟨gF,capF,eF,hcF,k0,k1,fzF,hbF⟩:=ho1.own.fib (i:=i) hlt1
 obtain ⟨g,cap,eg,hcap,_⟩:=ho1.own.fr (i:=i) (j:=0) hlt1 (by omega)
 rw [eF] at c0
 rw [hnow] at c1
 rw [hcal] at k1
 rw [hlen] at c0
 rw [eg,hfl] at k0
 rw [hfl] at hcap
 have hne:¬ gF=bs:=fun e=>ho1.off .fibers trivial (by rw [eF,← e];rfl)
 have hne':¬ bs=gF:=fun e=>hne e.symm
 have hi1:(i:Int)<(L:Int):=by omega
 have hi0:(0:Int)≤(i:Int):=by omega
 have hw:IntKind.i64.wrap ((t:Int)+1 - 1)=(t:Int):=by rw [IntKind.wrap_i64];omega
 have hts:(t:Int)+1 - 1=(t:Int):=by omega
 have ht0:(0:Int)≤(t:Int):=by omega
 have htc:(t:Int)≤(cap:Int):=by omega
 have fF:=fzF (i*2)
 have hdr:=ho1.dropFrame hlt1 eF eg
 rw [hfl,Nat.add_sub_cancel] at hdr
 have HDR:=Za hdr
 have HO1:=Za ho1
 have HB1:=Za hb1
 have HEF:=Za eF
 clear ho1 hb1 hdr
 go_wp2
 go_quiet (fail)
 go_wp2
 generalize hw2:w1.drewN nq=w2
 have y0:w2.cell? ⟨bs,0,none⟩=some (.slice (some ⟨gF,0,none⟩) L capF):=by rw [← hw2];exact c0
 have y1:w2.cell? ⟨bs,1,none⟩=some (.int .i64 i):=by rw [← hw2];exact c1
 have j0:w2.cell? ⟨gF,i*2,none⟩=some (.slice (some ⟨g,0,none⟩) (t+1) cap):=by rw [← hw2];exact k0
 have j1:w2.cell? ⟨gF,i*2+1,none⟩=some (.int .i64 c):=by rw [← hw2];exact k1
 have jz:w2.frozen? ⟨gF,i*2,none⟩=false:=by rw [← hw2];exact fF
 have HDR2:Hid (Zi base (w2.setCell ⟨gF,i*2,none⟩ (.slice (some ⟨g,0,none⟩) t cap)) bs (upd V1 (.frames i) (.slice (some ⟨g,0,none⟩) t cap)) (popped s i)∧Below base w (w2.setCell ⟨gF,i*2,none⟩ (.slice (some ⟨g,0,none⟩) t cap))):=by
  rw [← hw2]
  refine Za ⟨by rw [un HFP];exact Zi.same (un HDR).1 rfl,?_⟩
  exact Below.setCell (below_drewN (un HB1) nq) hbF _
 clear hw2 c0 c1 k0 k1 fF HDR HB1 HO1 fz fzF
 go_region
 generalize hwz:(w2.setCell ⟨gF,i*2,none⟩ (.slice (some ⟨g,0,none⟩) t cap)).drew=wz
 have hoz:Zi base wz bs (upd V1 (.frames i) (.slice (some ⟨g,0,none⟩) t cap)) (popped s i):=by rw [← hwz];exact Zi.same (un HDR2).1 rfl
 have hbz:Below base w wz:=by rw [← hwz];exact Below.drew (un HDR2).2
 obtain ⟨x0,x1,_,xz⟩:=hoz.cells
 obtain ⟨gF',capF',eF',_,q0,q1,qz,_⟩:=hoz.own.fib (i:=i) (by rw [hlp];exact hlop)
 rw [Zp V1 _ (by simp),un HEF] at eF'
 rw [Qk] at q0
 obtain ⟨⟨rfl⟩,-,rfl⟩:=(by simpa using eF':(gF=gF')∧s1.fibers.length=(popped s i).fibers.length∧capF=capF')
 rw [Zp V1 _ (by simp),un HEF,hlen] at x0
 rw [hpnow] at x1
 have hcp:(Zc (popped s i) i).caller=c:=by
  rw [un HFP,Qg _ (un HS1)];exact hcal
 rw [hcp] at q1
 have z1:=xz 1
 have zF:=qz (i*2+1)
 have HOZ:=Za hoz
 have HBZ:=Za hbz
 clear hwz hoz hbz xz qz y0 y1 j0 j1 jz HDR2 eF' hcp
 by_cases hone:t=0
 ·subst hone
  have hem:=(un HEM).2 (un HT)
  have hR:=un HR
  rw [if_pos hem] at hR
  by_cases hneg:c<0
  ·rw [if_pos hneg] at hR
   have hd:decide (c<0)=true:=decide_eq_true hneg
   have HR2:=Za hR
   clear hR hem HC HRB HRK
   go_wp2_with fail
   have ho3:=(un HOZ).setNow (-1)
   refine (Zmh base bs _ _ z _ ho3 hpout).mono ?_
   rintro e w4 ⟨rfl,hb4,hp4⟩
   rw [un HR2] at hp4 ⊢
   have HB4:=Za (Below.trans (Below.trans (un HBZ) (Below.setCell (Below.refl _ _) (un HOZ).low _)) hb4)
   have HP4:=Za hp4
   clear ho3 hb4 hp4
   go_wp2
   go_ret
   exact ⟨rfl,un HB4,un HP4⟩
  ·rw [if_neg hneg] at hR
   have hd:decide (c<0)=false:=decide_eq_false hneg
   obtain ⟨k,hk,hki,hrk⟩:=(un HC) (by omega)
   subst hR hk
   have HRK2:=Za ((un HRK) k hrk hki)
   clear hem HC HRB HRK hrk HR
   go_wp2_with fail
   have ho2:=(un HOZ).setNow (k:Int)
   obtain ⟨ho3,hb3⟩:=ho2.setCaller (i:=i) (by show i<(popped s i).fibers.length;rw [hlp];exact hlop) (show (upd V1 (.frames i) (.slice (some ⟨g,0,none⟩) 0 cap)) .fibers=.slice (some ⟨gF,0,none⟩) (popped s i).fibers.length capF by rw [Zp V1 _ (by simp),un HEF,hlen,hlp]) (-1)
   have hrk:=un HRK2
   refine (Zbd base bs _ _ k z _ ho3 hrk.lt hrk.fr hrk.frs hrk.st).mono ?_
   rintro e w4 ⟨rfl,V4,ho4,hb4⟩
   have HB5:=Za (Below.trans (Below.trans (Below.trans (un HBZ) (Below.setCell (Below.refl _ _) (un HOZ).low _)) hb3) hb4)
   have HO4:=Za ho4
   clear ho2 ho3 hb3 hb4 ho4 hrk
   go_wp2
   go_ret
   exact ⟨rfl,un HB5,fun _=>⟨V4,un HO4⟩⟩
 ·have hem:¬ ((popped s i).fibers.length=0∨(Zc (popped s i) i).frames=[]):=fun h=>by
   have:=(un HEM).1 h
   have:=un HT
   omega
  have hR:=un HR
  rw [if_neg hem] at hR
  subst hR
  have hd:decide ((0:Int)<(t:Int))=true:=decide_eq_true (by omega)
  have hrun:=(un HRB) (by have:=un HT;omega)
  have HRUN:=Za hrun
  clear hem HC HRB HRK hrun HR
  go_wp2_with fail
  have hrun:=un HRUN
  refine (Zbd base bs _ _ i z _ (un HOZ) hrun.lt hrun.fr hrun.frs hrun.st).mono ?_
  rintro e w4 ⟨rfl,V4,ho4,hb4⟩
  have HB5:=Za (Below.trans (un HBZ) hb4)
  have HO4:=Za ho4
  clear hb4 ho4 hrun
  go_wp2
  go_ret
  exact ⟨rfl,un HB5,fun _=>⟨V4,un HO4⟩⟩
theorem Pa {s:St} {i:Nat} (hn:s.now=i) (hi:i<s.fibers.length) (hf:0<(Zc s i).frames.length) :
  (Zj s).fibers.length=s.fibers.length∧(Zj s).now=i∧(Zj s).out=s.out∧(∀ k,(Zc (Zj s) k).caller=(Zc s k).caller)∧(∀ k,(Zc (Zj s) k).frames.length=(Zc s k).frames.length) ∧
  (Ze (Zj s) i ((Zc s i).frames.length - 1)).stack=(Ze s i ((Zc s i).frames.length - 1)).stack.dropLast∧(∀ k,k≠i→Zc (Zj s) k=Zc s k):=by
 have hps:=Zbl hn
 refine ⟨by rw [hps];exact Xf _ _ _,by rw [hps];exact hn,by rw [hps];rfl,fun k=>by rw [hps,Zbe _ hi],fun k=>by rw [hps];exact Pc _ hi k,?_,fun k hk=>by rw [hps];exact Zda _ (fun e=>hk e.symm)⟩
 rw [hps,Uh _ hi (by omega)]
theorem Qa.pull {s:St} {i:Nat} (h:Qa s i) (hn:s.now=i):Qa (Zj s) i:=by
 obtain ⟨h1,_,_,_,h5,h6,_⟩:=Pa hn h.lt h.fr
 refine ⟨by rw [h1];exact h.lt,by rw [h5];exact h.fr,by rw [h5];exact h.frs,?_⟩
 rw [h5,h6,List.length_dropLast]
 have:=h.st
 omega
theorem Zfd {s:St} {i:Nat} (hn:s.now=i) (hi:i<s.fibers.length) (hf:0<(Zc s i).frames.length) (k:Nat) (n:Int) (acc:List Int):Xz (Zj s).fibers k n acc=Xz s.fibers k n acc:=by
 obtain ⟨_,_,_,h4,_⟩:=Pa hn hi hf
 exact Zfo (fun n=>h4 n.toNat) k n acc
structure Ph (s:St):Prop where
 fibers:s.fibers.length≤1000
 out:s.out.length≤30
 frames:∀ i,i<s.fibers.length→(Zc s i).frames.length≤1000
 locals:∀ i j,i<s.fibers.length→j<(Zc s i).frames.length→(Ze s i j).locals.length≤1000
 stack:∀ i j,i<s.fibers.length→j<(Zc s i).frames.length→(Ze s i j).stack.length≤1000
theorem Ph.small {s:St} (h:Ph s):Yi s:=by
 refine ⟨h.fibers,by have:=h.out;omega,fun b hb=>?_⟩
 obtain ⟨i,hi,rfl⟩:=List.getElem_of_mem hb
 have hbi:Zc s i=s.fibers[i]:=by simp [Zc,List.getD,hi]
 refine ⟨by rw [← hbi];exact h.frames i hi,fun f hf=>?_⟩
 obtain ⟨j,hj,rfl⟩:=List.getElem_of_mem hf
 have hj':j<(Zc s i).frames.length:=by rw [hbi];exact hj
 have hfj:Ze s i j=s.fibers[i].frames[j]:=by unfold Ze;rw [hbi];simp [List.getD,hj]
 rw [← hfj]
 exact ⟨h.locals i j hi hj',h.stack i j hi hj'⟩
theorem Ph.pull {s:St} {i:Nat} (h:Ph s) (hn:s.now=i) (hi:i<s.fibers.length) (hf:0<(Zc s i).frames.length):Ph (Zj s):=by
 obtain ⟨h1,_,h3,_,h5,h6,h7⟩:=Pa hn hi hf
 have hps:=Zbl hn
 have hfr:∀ a b,(Ze (Zj s) a b).locals=(Ze s a b).locals∧(Ze (Zj s) a b).stack.length≤(Ze s a b).stack.length:=fun a b=>by
  by_cases e:i=a∧(Zc s i).frames.length - 1=b
  ·obtain ⟨rfl,rfl⟩:=e
   rw [hps,Uh _ hi (by omega)]
   exact ⟨rfl,by simp⟩
  ·rw [hps,Pm _ hi e];exact ⟨rfl,Nat.le_refl _⟩
 refine ⟨by rw [h1];exact h.fibers,by rw [h3];exact h.out,fun a ha=>?_,fun a b ha hb=>?_,fun a b ha hb=>?_⟩
 ·rw [h5];rw [h1] at ha;exact h.frames a ha
 ·rw [(hfr a b).1];rw [h1] at ha;rw [h5] at hb;exact h.locals a b ha hb
 ·rw [h1] at ha;rw [h5] at hb;exact Nat.le_trans (hfr a b).2 (h.stack a b ha hb)
theorem Zvf {s:St} {i:Nat} (hn:s.now=i) (hr:Qa s i) {l:List Int} (hl:Qj s=some l):Ux s =
  if ixB (Zv (Zj s)) s.fibers.length=true then
   (if Zv (Zj s)∈l∨((Zj (Zj s)).fib (Zv (Zj s))).frames=[] then (St.zero,6)
    else if ({ ((Zj (Zj s)).turn (Zv (Zj s)) fun b=>{ b with caller:=(i:Int) }) with now:=Zv (Zj s) }:St).top.at_=0
     then (({ ((Zj (Zj s)).turn (Zv (Zj s)) fun b=>{ b with caller:=(i:Int) }) with now:=Zv (Zj s) }:St).turnTop (Zv (Zj s)) fun f=>{ f with locals:=f.locals.set 0 (Zv s) },0)
     else (Qb { ((Zj (Zj s)).turn (Zv (Zj s)) fun b=>{ b with caller:=(i:Int) }) with now:=Zv (Zj s) } (Zv (Zj s)) (Zv s),0))
  else (St.zero,5):=by
 obtain ⟨a1,a2,_⟩:=Pa hn hr.lt hr.fr
 have hr1:=hr.pull hn
 obtain ⟨b1,b2,_⟩:=Pa a2 hr1.lt hr1.fr
 have hlf:Xz s.fibers (s.fibers.length+1) s.now []=some l:=by
  unfold Qj at hl
  cases hx:Xz s.fibers (s.fibers.length+1) s.now [] with
  | none=>rw [hx] at hl;cases hl
  | some l' =>
   rw [hx] at hl
   simp only at hl
   split at hl
   ·cases hl;rfl
   ·cases hl
 unfold Ux
 simp only
 rw [b1,a1,b2,Zfd a2 hr1.lt hr1.fr,Zfd hn hr.lt hr.fr,← hn,hlf]
 rfl
theorem Xbk (base bs:Nat) (V:Key→Value) (s:St) (i:Nat) (w:World) (l:List Int) (h:Zi base w bs V s) (hn:s.now=i) (hr:Qa s i) (hst2:1<(Ze s i ((Zc s i).frames.length - 1)).stack.length)
  (hft:Ph s) (hcal:∀ b,b∈s.fibers→-1≤b.caller∧b.caller<s.fibers.length) (hl:Qj s=some l) (hil:(i:Int)∈l)
  (hloc:∀ k:Nat,k<s.fibers.length→(k:Int) ∉ l→0<(Zc s k).frames.length→(Ze s k ((Zc s k).frames.length - 1)).at_=0→0<(Ze s k ((Zc s k).frames.length - 1)).locals.length) :
  Calls Tryd.prog 95 #[.pointer (some ⟨bs,0,none⟩)] w fun e w'=>Jj base bs (Ux s) w e w':=by
 have hpl:=Zgh base bs V s i w h hn hr.lt hr.fr hr.frs hr.st (by omega)
 obtain ⟨a1,a2,a3,a4,a5,a6,a7⟩:=Pa hn hr.lt hr.fr
 have hr1:=hr.pull hn
 obtain ⟨b1,b2,b3,b4,b5,b6,b7⟩:=Pa a2 hr1.lt hr1.fr
 have hst1:0<(Ze (Zj s) i ((Zc (Zj s) i).frames.length - 1)).stack.length:=by
  rw [a5,a6,List.length_dropLast];omega
 have hpl2:=fun (V':Key→Value) (u:World) (hu:Zi base u bs V' (Zj s))=>Zgh base bs V' (Zj s) i u hu a2 hr1.lt hr1.fr hr1.frs hr1.st hst1
 have hft2:Ph (Zj (Zj s)):=(hft.pull hn hr.lt hr.fr).pull a2 hr1.lt hr1.fr
 have hlen2:(Zj (Zj s)).fibers.length=s.fibers.length:=by rw [b1,a1]
 have hcal2:∀ k,k<s.fibers.length→-1≤(Zc (Zj (Zj s)) k).caller∧(Zc (Zj (Zj s)) k).caller<s.fibers.length:=fun k hk=>by
  rw [b4,a4]
  exact hcal _ (List.mem_of_getElem? (Zq s.fibers k Fb.zero hk))
 have hline2:Qj (Zj (Zj s))=some l:=by
  unfold Qj at hl ⊢
  rw [b1,a1,b2,Zfd a2 hr1.lt hr1.fr,Zfd hn hr.lt hr.fr,← hn]
  exact hl
 have hoth2:∀ k,k≠i→Zc (Zj (Zj s)) k=Zc s k:=fun k hk=>by rw [b7 k hk,a7 k hk]
 rw [Zvf hn hr hl]
 generalize hs2:Zj (Zj s)=s2 at *
 generalize hv:Zv s=v at *
 generalize hnn:Zv (Zj s)=n at *
 generalize hR:(if ixB n s.fibers.length=true then (if n∈l∨(s2.fib n).frames=[] then (St.zero,(6:Int)) else if ({ (s2.turn n fun b=>{ b with caller:=(i:Int) }) with now:=n }:St).top.at_=0 then (({ (s2.turn n fun b=>{ b with caller:=(i:Int) }) with now:=n }:St).turnTop n fun f=>{ f with locals:=f.locals.set 0 v },0) else (Qb { (s2.turn n fun b=>{ b with caller:=(i:Int) }) with now:=n } n v,0)) else (St.zero,5))=R
 have HR:=Za hR
 have HPL:=Za hpl
 have HPL2:=Za hpl2
 have HFT:=Za hft2
 have HCAL:=Za hcal2
 have HLN:=Za hline2
 have HOT:=Za hoth2
 have HLOC:=Za hloc
 have HIL:=Za hil
 have hlt:=hr.lt
 have hL5:=hft.fibers
 have hnow2:s2.now=i:=b2
 clear hR hpl hpl2 hft hft2 hcal hcal2 hl hline2 hloc hil h hr hr1 hst1 hst2 a3 a4 a5 a6 a7 b3 b4 b5 b6 b7 hoth2 b2
 generalize hL:s.fibers.length=L at *
 go_enter Tryd.func95,Tryd.ntmps95
 go_wp2_with fail
 refine (un HPL).mono ?_
 rintro e w1 ⟨rfl,V1,ho1,hb1⟩
 have hp2:=(un HPL2) V1 w1 ho1
 have HP2:=Za hp2
 have HB1:=Za hb1
 clear hp2 ho1 hb1 HPL HPL2
 go_wp2_with fail
 refine (un HP2).mono ?_
 rintro e w2 ⟨rfl,V2,ho2,hb2⟩
 obtain ⟨c0,c1,c2,fz⟩:=ho2.cells
 obtain ⟨gF,capF,eF,hcF,_,_,fzF,hbF⟩:=ho2.own.fib (i:=i) (by rw [hlen2];exact hlt)
 rw [eF,hlen2] at c0
 rw [hnow2] at c1
 have HO2:=Za ho2
 have HB2:=Za (Below.trans (un HB1) hb2)
 have HEF:=Za eF
 clear ho2 hb2 eF HP2 HB1
 have hwl:IntKind.i64.wrap ((L:Int) - 1)=(L:Int) - 1:=by rw [IntKind.wrap_i64];omega
 have hwb:=Zgd n L
 by_cases hix:ixB n L=true
 ·rw [hix] at hwb
  obtain ⟨k,hk⟩:∃ k:Nat,n=k:=⟨n.toNat,by have:=Jq.1 hix;omega⟩
  have hkL:k<L:=by have:=Jq.1 hix;omega
  have hR:=un HR
  rw [if_pos hix] at hR
  subst hk
  have hrd:=(un HO2).own.reads (un HFT).small
  rw [un HEF,hlen2,hnow2] at hrd
  have hln:=Zjw s2 _ w2 hrd (by rw [hnow2,hlen2];omega) (fun b hb=>by
   obtain ⟨q,hq,rfl⟩:=List.getElem_of_mem hb
   have:=(un HCAL) q (by rw [← hlen2];exact hq)
   have e:Zc s2 q=s2.fibers[q]:=by simp [Zc,List.getD,hq]
   rw [e] at this
   rw [hlen2];exact this) (by rw [hlen2];omega)
  unfold Zgr at hln
  rw [un HLN] at hln
  have HLO:=Za hln
  have HR1:=Za hR
  clear hrd hln hR hix HCAL HR
  go_wp2_with (first | (go_at_call 15;refine (Xm _ _ _ _).mono ?_;rw [hwb];rintro e w' ⟨rfl,rfl⟩) | (go_at_call 16;refine (un HLO).mono ?_;rintro e w3 ⟨vl,bl,rfl,hk3,rfl,hil3⟩;have HK3:=Za hk3;have HI3:=Za hil3;clear hk3 hil3))
  have hha:=Zdc l vl k w3 (un HI3)
  by_cases hin:(k:Int)∈l
  ·rw [decide_eq_true hin] at hha
   have hR:=un HR1
   rw [if_pos (.inl hin)] at hR
   subst hR
   refine hha.mono ?_
   rintro e w4 ⟨rfl,hk4⟩
   have HB4:=Za (Below.trans (un HB2) ((un HO2).below ((un HK3).trans hk4)))
   clear hha hk4 hin
   go_wp2
   go_ret
   exact ⟨rfl,un HB4,fun e=>by cases e⟩
  ·rw [decide_eq_false hin] at hha
   have HNI:=Za hin
   refine hha.mono ?_
   rintro e w4 ⟨rfl,hk4⟩
   have hk24:=(un HK3).trans hk4
   have ho4:=(un HO2).kept hk24
   have hb4:=Below.trans (un HB2) ((un HO2).below hk24)
   have hki:k≠i:=fun e=>hin (by rw [e];exact un HIL)
   obtain ⟨d0,d1,_,dz⟩:=ho4.cells
   obtain ⟨gF',capF',eF',_,q0,q1,qz,_⟩:=ho4.own.fib (i:=k) (by rw [hlen2];exact hkL)
   rw [un HEF] at eF' d0
   obtain ⟨⟨rfl⟩,-,rfl⟩:=(by simpa using eF':(gF=gF')∧True∧capF=capF')
   rw [hlen2] at d0
   rw [hnow2] at d1
   obtain ⟨xs,hrow,-⟩:=ho4.own.piece (.frames k) (by show k<s2.fibers.length;rw [hlen2];exact hkL)
   obtain ⟨ofr,cfr,efr,-⟩:=Xq hrow
   rw [efr] at q0
   have hfq:Zc s2 k=Zc s k:=(un HOT) k hki
   have hne:¬ gF=bs:=fun e=>ho4.off .fibers trivial (by rw [un HEF,← e];rfl)
   have hne':¬ bs=gF:=fun e=>hne e.symm
   have hk1:(k:Int)<(L:Int):=by omega
   have hkz:(0:Int)≤(k:Int):=by omega
   have hR:=un HR1
   have HO4:=Za ho4
   have HB4:=Za hb4
   have zF:=qz (k*2+1)
   have z1:=dz 1
   rw [hfq] at q0
   generalize hqq:(Zc s k).frames.length=q at *
   have HQ:=Za hqq
   clear hha hk4 hin hk24 ho4 hb4 eF' hrow dz qz c0 c1 c2 fz fzF hqq xs
   by_cases hq0:q=0
   ·subst hq0
    have hemp:(s2.fib (k:Int)).frames=[]:=by
     rw [Wg,hfq];exact List.length_eq_zero_iff.1 (un HQ)
    rw [if_pos (.inr hemp)] at hR
    subst hR
    clear hemp
    go_wp2
    go_ret
    exact ⟨rfl,un HB4,fun e=>by cases e⟩
   ·have hqb:((q:Int) == 0)=false:=by rw [beq_eq_false_iff_ne];omega
    have hnemp:¬ ((k:Int)∈l∨(s2.fib (k:Int)).frames=[]):=by
     rintro (e | e)
     ·exact (un HNI) e
     ·rw [Wg,hfq] at e
      have:=congrArg List.length e
      rw [un HQ] at this
      exact hq0 this
    rw [if_neg hnemp] at hR
    have HR2:=Za hR
    clear hR hnemp HR1
    go_wp2
    go_region
    generalize hwz:(w4.setCell ⟨gF,k*2+1,none⟩ (.int .i64 i)).drew=wz
    have hk2:k<s2.fibers.length:=by rw [hlen2];exact hkL
    obtain ⟨ho5,hb5⟩:=(un HO4).setCaller hk2 (un HEF) (i:Int)
    have hoz:Zi base wz bs V2 (Zh s2 k { Zc s2 k with caller:=(i:Int) }):=by rw [← hwz];exact Zi.same ho5 rfl
    have hbz:Below base w wz:=by rw [← hwz];exact Below.drew (Below.trans (un HB4) hb5)
    obtain ⟨x0,x1,_,xz⟩:=hoz.cells
    have z1':=xz 1
    have ho6:=hoz.setNow (k:Int)
    have hb6:Below base w (wz.setCell ⟨bs,1,none⟩ (.int .i64 k)):=Below.trans hbz (Below.setCell (Below.refl _ _) hoz.low _)
    have hf4:Zc { (Zh s2 k { Zc s2 k with caller:=(i:Int) }) with now:=(k:Int) } k={ Zc s2 k with caller:=(i:Int) }:=Qg _ hk2
    have hfl4:(Zc { (Zh s2 k { Zc s2 k with caller:=(i:Int) }) with now:=(k:Int) } k).frames.length=q:=by rw [hf4];show (Zc s2 k).frames.length=q;rw [hfq];exact un HQ
    have hl4:k<({ (Zh s2 k { Zc s2 k with caller:=(i:Int) }) with now:=(k:Int) }:St).fibers.length:=by show k<(Zh s2 k _).fibers.length;rw [Xf];exact hk2
    have hq1000:q≤1000:=by have:=(un HFT).frames k hk2;rw [hfq,un HQ] at this;exact this
    obtain ⟨g,cap,eg,htop⟩:=Yu ho6 (i:=k) hl4 (by rw [hfl4];omega) (by rw [hfl4];omega)
    have hR:=un HR2
    rw [Uu] at hR
    have HOZ:=Za hoz
    have HO6:=Za ho6
    have HB6:=Za hb6
    have HTOP:=Za htop
    have HEG:=Za eg
    have HR3:=Za hR
    have HF4:=Za hf4
    have HFL4:=Za hfl4
    have HL4:=Za hl4
    clear hwz ho5 hb5 hoz hbz ho6 hb6 htop hR hf4 xz d0 d1 q0 q1 zF z1 HR2 eg hl4 hfl4
    go_wp2_with fail
    refine (un HTOP).mono ?_
    rintro e w7 ⟨rfl,m,rfl⟩
    generalize hw7:(wz.setCell ⟨bs,1,none⟩ (.int .i64 k)).drewN m=w7
    have ho7:Zi base w7 bs V2 { (Zh s2 k { Zc s2 k with caller:=(i:Int) }) with now:=(k:Int) }:=(un HO6).same (by rw [← hw7];rfl)
    have hb7:Below base w w7:=by rw [← hw7];exact below_drewN (un HB6) m
    have hfl4:=un HFL4
    have htat:({ (Zh s2 k { Zc s2 k with caller:=(i:Int) }) with now:=(k:Int) }:St).top=Ze { (Zh s2 k { Zc s2 k with caller:=(i:Int) }) with now:=(k:Int) } k (q - 1):=by
     unfold St.top
     show (St.fib _ (k:Int)).top=_
     rw [Wg,Zdq,hfl4]
    have htr:Ze { (Zh s2 k { Zc s2 k with caller:=(i:Int) }) with now:=(k:Int) } k (q - 1)=Ze s k ((Zc s k).frames.length - 1):=by
     unfold Ze
     rw [un HF4]
     show (Zc s2 k).frames.getD (q - 1) Fr.zero=_
     rw [hfq,un HQ]
    have hR:=un HR3
    rw [htat] at hR
    obtain ⟨g',cap',eg',_,_,f1,f2,f3,ffz,_⟩:=ho7.own.fr (un HL4) (j:=q - 1) (by rw [hfl4];omega)
    rw [un HEG] at eg'
    obtain ⟨⟨rfl⟩,-,rfl⟩:=(by simpa using eg':(g=g')∧True∧cap=cap')
    have hlo:=ho7.own.loc (un HL4) (j:=q - 1) (by rw [hfl4];omega)
    have hrun:Qa { (Zh s2 k { Zc s2 k with caller:=(i:Int) }) with now:=(k:Int) } k:=by
     refine ⟨un HL4,by rw [hfl4];omega,by rw [hfl4];omega,?_⟩
     rw [hfl4,htr]
     have:=(un HFT).stack k (q - 1) hk2 (by rw [hfq,un HQ];omega)
     have e:Ze s2 k (q - 1)=Ze s k ((Zc s k).frames.length - 1):=by unfold Ze;rw [hfq,un HQ]
     rw [e] at this;exact this
    have hlc:(Ze s k ((Zc s k).frames.length - 1)).at_=0→0<(Ze s k ((Zc s k).frames.length - 1)).locals.length:=(un HLOC) k hkL (un HNI) (by rw [un HQ];omega)
    rw [← htr] at hlc
    generalize hs4:({ (Zh s2 k { Zc s2 k with caller:=(i:Int) }) with now:=(k:Int) }:St)=s4 at *
    have HO7:=Za ho7
    have HB7:=Za hb7
    have HRN:=Za hrun
    clear hw7 ho7 hb7 eg' htat htr hrun HTOP HO6 HB6 HOZ HF4 hs4 HR3
    by_cases hat:(Ze s4 k (q - 1)).at_=0
    ·rw [if_pos hat] at hR
     obtain ⟨gl,cl,el,_,hcl,hfl,_⟩:=Zbx hlo (hlc hat)
     rw [hat] at f1
     rw [el] at f2
     have hcell0:∃ u,w7.cell? ⟨gl,0,none⟩=some u:=⟨_,hcl 0 _ (Zci (Zq _ 0 0 (hlc hat)))⟩
     obtain ⟨u0,hu0⟩:=hcell0
     have hz0:=hfl 0
     have hn1:(0:Int)<((Ze s4 k (q - 1)).locals.length:Int):=by have:=hlc hat;omega
     have hfin:=(un HO7).setLocal (un HRN).lt (j:=q - 1) (q:=0) (by rw [hfl4];omega) el v
     have HFIN:=Za hfin
     have HR4:=Za hR
     clear hR hfin hcl hfl hlo el
     go_wp2
     go_ret
     have hfin:=un HFIN
     refine ⟨by rw [← un HR4];rfl,Below.trans (un HB7) hfin.2,fun _=>⟨V2,?_⟩⟩
     rw [← un HR4,Py,hfl4]
     exact hfin.1
    ·rw [if_neg hat] at hR
     have hab:((Ze s4 k (q - 1)).at_ == 0)=false:=by rw [beq_eq_false_iff_ne];exact hat
     subst hR
     have hrun:=un HRN
     have hpush:=Zbd base bs V2 s4 k v w7 (un HO7) hrun.lt hrun.fr hrun.frs hrun.st
     have HPU:=Za hpush
     clear hpush hrun hat hlo hlc
     go_wp2_with (go_at_call 91;refine (un HPU).mono ?_;rintro e w8 ⟨rfl,V8,ho8,hb8⟩;have HO8:=Za ho8;have HB8:=Za hb8;clear ho8 hb8)
     go_ret
     exact ⟨rfl,Below.trans (un HB7) (un HB8),fun _=>⟨V8,un HO8⟩⟩
 ·have hif:ixB n L=false:=by simpa using hix
  rw [hif] at hwb
  have hR:=un HR
  rw [if_neg hix] at hR
  subst hR
  clear hix hif
  go_wp2_with (go_at_call 15;refine (Xm _ _ _ _).mono ?_;rw [hwb];rintro e w' ⟨rfl,rfl⟩)
  go_ret
  exact ⟨rfl,un HB2,fun e=>by cases e⟩
def filled (l:List Int) (a lo t:Nat):List Int:=(List.range lo).map fun q=>if a - t≤q∧q<a then l.getD (l.length - a+q) 0 else 0
theorem Zmo (l:List Int) (a lo t:Nat):(filled l a lo t).length=lo:=by simp [filled]
theorem Zpk (l:List Int) (a lo:Nat):filled l a lo 0=List.replicate lo 0:=by
 apply List.ext_getElem
 ·simp [filled]
 ·intro k h1 h2
  simp [filled]
  intro h3 h4
  omega
theorem Zxz (l:List Int) {a lo t:Nat} (ht:t<a) (hl:a≤l.length):(filled l a lo t).set (a - 1 - t) (l.getD (l.length - t - 1) 0)=filled l a lo (t+1):=by
 apply List.ext_getElem
 ·simp [filled]
 ·intro k h1 h2
  rw [List.getElem_set]
  simp only [filled,List.getElem_map,List.getElem_range]
  split
  ·rename_i e
   subst e
   rw [if_pos (by omega)]
   congr 1
   omega
  ·rename_i e
   by_cases hk:a - t≤k∧k<a
   ·rw [if_pos hk,if_pos (by omega)]
   ·rw [if_neg hk,if_neg (by omega)]
theorem Zwn (l:List Int) {a lo:Nat} (ha:a≤lo) (hl:a≤l.length):filled l a lo a=l.drop (l.length - a)++List.replicate (lo - (l.drop (l.length - a)).length) 0:=by
 have hdl:(l.drop (l.length - a)).length=a:=by simp;omega
 rw [hdl]
 apply List.ext_getElem
 ·simp [filled];omega
 ·intro k h1 h2
  simp only [filled,List.getElem_map,List.getElem_range]
  by_cases hk:k<a
  ·rw [if_pos (by omega),List.getElem_append_left (by omega),List.getElem_drop]
   have:l.length - a+k<l.length:=by omega
   simp [List.getD,this]
  ·rw [if_neg (by omega),List.getElem_append_right (by omega)]
   simp
theorem Zpz {l:List Int} {i:Nat} {z:Int} (h:l[i]?=some z):(ints l).toArray[i]?=some (.int .i64 z):=by
 rw [List.getElem?_toArray];exact Zci h
theorem Zi.setOff {base bs:Nat} {w:World} {V:Key→Value} {s:St} (h:Zi base w bs V s) {b j:Nat} (hb:Own.off V s b) (hne:bs≠b) (u:Value):Zi base (w.setCell ⟨b,j,none⟩ u) bs V s :=
 ⟨by rw [Below.heap_setCell _ _ _ _ hne];exact h.var,h.own.setOff (a:=⟨b,j,none⟩) hb u,h.off,h.low⟩
theorem Zzk {w:World} {b i B j:Nat} {v:Value} (h:w.cell? ⟨b,i,none⟩=some v) (hne:b≠B) (u:Value):(w.setCell ⟨B,j,none⟩ u).cell? ⟨b,i,none⟩=some v:=by
 rw [World.cell?_of_block (w:=w)]
 ·exact h
 ·exact Below.heap_setCell w _ _ _ hne
theorem Zrp (base bs:Nat) (V:Key→Value) (s:St) (i gF capF BL lo:Nat) (w:World) (h:Zi base w bs V s) (hi:i<s.fibers.length) (hF:V .fibers=.slice (some ⟨gF,0,none⟩) s.fibers.length capF)
  (hfr:(Zc s i).frames.length≤1000) (f:Fr) (hst:f.stack=[]) (hlen:f.locals.length=lo) (hlo:lo≤1000) (hBL:w.heap[BL]?=some (.cells (ints f.locals).toArray 3)) (hoff:Own.off V s BL) (hlow:base≤BL) (hbsL:bs≠BL) :
  ∃ v' w',(Builtin.append_ #[44,44] 44 #[V (.frames i),.slice (some ⟨w.heap.size,0,none⟩) 1 1]).run Tryd.prog (w.alloc (.cells #[.int .i64 f.fn,.int .i64 f.at_,.slice (some ⟨BL,0,none⟩) lo lo,.slice none 0 0] 53)).drew=.ok v' w' ∧
   (∃ o c,v'=.slice o ((Zc s i).frames.length+1) c)∧(∃ V',Zi base (w'.setCell ⟨gF,i*2,none⟩ v') bs V' (Zh s i { Zc s i with frames:=(Zc s i).frames++[f] }))∧Below base w w' ∧
   (∀ b,b<w.heap.size→(V (.frames i)).ownBlock≠some b→w'.heap[b]?=w.heap[b]?):=by
 subst hlen
 have hku:Zb w (w.alloc (.cells #[.int .i64 f.fn,.int .i64 f.at_,.slice (some ⟨BL,0,none⟩) f.locals.length f.locals.length,.slice none 0 0] 53)).drew:=((Zb.refl w).alloc _).drew
 have hu:=h.kept hku
 obtain ⟨v',w',V',h1,h2,h3,h4,_⟩:=Xbi hu hi hF hfr f hst hlo (Xi (Zr hBL _)) hoff hlow hbsL (Xi (Zg rfl))
 exact ⟨v',w',h1,h2,⟨V',h3⟩,Below.grown (h.below hku) h4 (by have:=h.low;have:=lt_of_block hu.var;omega) (fun r hr=>((hu.own.piece (.frames i) hi).block r hr).1),fun b hb hne=>(h4.block b (Nat.lt_of_lt_of_le hb hku.size) (fun e=>hne e.symm)).trans (hku.block b hb)⟩
end Go.Proofs.YtblihfpigjiahaaDoor
