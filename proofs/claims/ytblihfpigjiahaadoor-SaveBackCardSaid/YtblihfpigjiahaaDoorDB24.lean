/- StepD, StateC, StepE, StepF, StepG, StepI, StepK -/
import Derived.Test.YtblihfpigjiahaaDoorDB23
import Derived.Test.YtblihfpigjiahaaDoorDB15
import Derived.Test.YtblihfpigjiahaaDoorDB12
import Derived.Test.YtblihfpigjiahaaDoorDB01
import Derived.Test.YtblihfpigjiahaaDoorDB17
import Derived.Test.YtblihfpigjiahaaDoorDB16
set_option maxRecDepth 100000
set_option maxHeartbeats 8000000
namespace Go.Proofs.YtblihfpigjiahaaDoor
open Go.RowKit
def popped (s:St) (i:Nat):St:=Zg (Zh s) i { Zc (Zh s) i with frames:=(Zc (Zh s) i).frames.dropLast }
theorem Zry {s:St} {i:Nat} (hn:s.now=i) (hi:i<s.fibers.length):Wl s =
  if (popped s i).fibers.length=0∨(Zc (popped s i) i).frames=[] then
   (if (Zc s i).caller<0 then Jl { popped s i with now:=-1 } (Zu s)
    else (Xz { (Zg (popped s i) i { Zc (popped s i) i with caller:=-1 }) with now:=(Zc s i).caller } (Zc s i).caller (Zu s),0))
  else (Xz (popped s i) i (Zu s),0):=by
 have hps:=Zas hn
 have hcal:(Zc (Zh s) i).caller=(Zc s i).caller:=by rw [hps,Zbf _ hi]
 have hlen:(Zh s).fibers.length=s.fibers.length:=by rw [hps];exact Xb _ _ _
 have hlp:(popped s i).fibers.length=s.fibers.length:=by unfold popped;rw [Xb,hlen]
 have hcp:(Zc (popped s i) i).caller=(Zc s i).caller:=by
  unfold popped;rw [Qa _ (by rw [hlen];exact hi)];exact hcal
 unfold Wl
 simp only
 rw [hn,Ug]
 show (if ((popped s i).fib (i:Int)).frames=[] then if ((popped s i).fib (i:Int)).caller<0 then _ else (Xz { ((popped s i).turn (i:Int) _) with now:=((popped s i).fib (i:Int)).caller } ((popped s i).fib (i:Int)).caller (Zu s),0) else (Xz (popped s i) (i:Int) (Zu s),0))=_
 rw [Yw,Ug,hcp]
 have h0:¬ (popped s i).fibers.length=0:=by omega
 simp only [h0,false_or]
 rfl
theorem Zpq (base bs:Nat) (V:Key→Value) (s:St) (i:Nat) (w:World) (h:Zi base w bs V s) (hn:s.now=i) (hr:Xx s i) (hst0:0<(Ze s i ((Zc s i).frames.length - 1)).stack.length)
  (ho:s.out.length≤30) (hbel:1<(Zc s i).frames.length→(Ze s i ((Zc s i).frames.length - 2)).stack.length≤1000)
  (hc:∀ c:Int,(Zc s i).caller=c→0≤c→∃ k:Nat,c=k∧k≠i∧Xx s k) :
  Calls Tryd.prog 94 #[.pointer (some ⟨bs,0,none⟩)] w fun e w'=>Ja base bs (Wl s) w e w':=by
 have hpl:=Zfj base bs V s i w h hn hr.lt hr.fr hr.frs hr.st hst0
 have hps:=Zas hn
 have hcal:(Zc (Zh s) i).caller=(Zc s i).caller:=by rw [hps,Zbf _ hr.lt]
 have hlen:(Zh s).fibers.length=s.fibers.length:=by rw [hps];exact Xb _ _ _
 have hnow:(Zh s).now=i:=by rw [hps];exact hn
 have hout:(Zh s).out=s.out:=by rw [hps];rfl
 have hfl:(Zc (Zh s) i).frames.length=(Zc s i).frames.length:=by rw [hps];exact Ut _ hr.lt i
 have hlt1:i<(Zh s).fibers.length:=by rw [hlen];exact hr.lt
 have hoth:∀ k,k≠i→Zc (popped s i) k=Zc s k:=fun k hk=>by
  unfold popped
  rw [Qs _ (fun e=>hk e.symm),hps]
  exact Zcj _ (fun e=>hk e.symm)
 have hlp:(popped s i).fibers.length=s.fibers.length:=by unfold popped;rw [Xb,hlen]
 have hfp:Zc (popped s i) i={ Zc (Zh s) i with frames:=(Zc (Zh s) i).frames.dropLast }:=by unfold popped;exact Qa _ hlt1
 have hfpl:(Zc (popped s i) i).frames.length=(Zc s i).frames.length - 1:=by rw [hfp];simp [hfl]
 have hrb:1<(Zc s i).frames.length→Xx (popped s i) i:=fun h1=>by
  refine ⟨by rw [hlp];exact hr.lt,by omega,by have:=hr.frs;omega,?_⟩
  have:Ze (popped s i) i ((Zc (popped s i) i).frames.length - 1)=Ze s i ((Zc s i).frames.length - 2):=by
   rw [hfpl]
   unfold Ze
   rw [hfp]
   simp only
   have hlt2:(Zc s i).frames.length - 1 - 1<(Zc (Zh s) i).frames.length - 1:=by omega
   rw [show (Zc s i).frames.length - 2=(Zc s i).frames.length - 1 - 1 by omega]
   have e1:(Zc (Zh s) i).frames.dropLast.getD ((Zc s i).frames.length - 1 - 1) Fr.zero=(Zc (Zh s) i).frames.getD ((Zc s i).frames.length - 1 - 1) Fr.zero:=by
    have h2:(Zc s i).frames.length - 1 - 1<(Zc (Zh s) i).frames.length:=by omega
    simp [List.getD,hlt2,h2]
   rw [e1]
   have:=Pa (s:=s) (i:=i) (j:=(Zc s i).frames.length - 1) (i':=i) (j':=(Zc s i).frames.length - 1 - 1) { Ze s i ((Zc s i).frames.length - 1) with stack:=(Ze s i ((Zc s i).frames.length - 1)).stack.dropLast } hr.lt (by rintro ⟨_,e⟩;omega)
   rw [← hps] at this
   exact this
  rw [this];exact hbel h1
 rw [Zry hn hr.lt]
 have hemp:((popped s i).fibers.length=0∨(Zc (popped s i) i).frames=[])↔(Zc s i).frames.length=1:=by
  have:=hr.fr
  have:=hr.lt
  constructor
  ·rintro (e | e)
   ·omega
   ·have:=congrArg List.length e
    simp only [List.length_nil] at this
    omega
  ·intro e
   exact .inr (List.length_eq_zero_iff.1 (by omega))
 have hlop:=hr.lt
 have hq1:=hr.fr
 have hq2:=hr.frs
 have HRB:=Zb hrb
 have HRK:Hid (∀ k,Xx s k→k≠i→Xx { (Zg (popped s i) i { Zc (popped s i) i with caller:=-1 }) with now:=(k:Int) } k):=Zb (fun k hrk hki=>by
  refine hrk.other ?_ ?_
  ·show (Zg (popped s i) i _).fibers.length=_
   rw [Xb,hlp]
  ·show Zc (Zg (popped s i) i _) k=_
   rw [Qs _ (fun e=>hki e.symm)]
   exact hoth k hki)
 have hpout:(popped s i).out.length≤30:=by
  have:(popped s i).out=s.out:=hout
  rw [this];exact ho
 have hpnow:(popped s i).now=i:=hnow
 generalize hcc:(Zc s i).caller=c at *
 have hc':=hc c rfl
 generalize hzz:Zu s=z at *
 generalize hR:(if (popped s i).fibers.length=0∨(Zc (popped s i) i).frames=[] then (if c<0 then Jl { popped s i with now:=-1 } z else (Xz { (Zg (popped s i) i { Zc (popped s i) i with caller:=-1 }) with now:=c } c z,0)) else (Xz (popped s i) i z,0))=R
 have HR:=Zb hR
 have HEM:=Zb hemp
 have HPL:=Zb hpl
 have HC:=Zb hc'
 have HS1:=Zb hlt1
 have HFP:=Zb (show popped s i=Zg (Zh s) i { Zc (Zh s) i with frames:=(Zc (Zh s) i).frames.dropLast } from rfl)
 obtain ⟨t,ht⟩:∃ t,(Zc s i).frames.length=t+1:=⟨_,(Nat.sub_add_cancel hq1).symm⟩
 rw [ht] at hfl hq2 hemp
 have HT:=Zb ht
 clear hR hemp hpl hps hc' hc h hr hrb hoth hfp hbel hcc hzz
 generalize hs1:Zh s=s1 at *
 generalize hL:s.fibers.length=L at *
 clear hs1
 go_enter Tryd.func94,Tryd.ntmps94
 go_wp2_with fail
 refine (un HPL).mono ?_
 rintro e w1 ⟨rfl,V1,ho1,hb1⟩
 obtain ⟨c0,c1,_,fz⟩:=ho1.cells
 obtain ⟨gF,capF,eF,hcF,k0,k1,fzF,hbF⟩:=ho1.own.fib (i:=i) hlt1
 obtain ⟨g,cap,eg,hcap,_⟩:=ho1.own.fr (i:=i) (j:=0) hlt1 (by omega)
 rw [eF] at c0
 rw [hnow] at c1
 rw [hcal] at k1
 rw [hlen] at c0
 rw [eg,hfl] at k0
 rw [hfl] at hcap
 have hne:¬ gF=bs:=fun e=>ho1.off .fibers trivial (by rw [eF,← e];rfl)
 have hne':¬ bs=gF:=fun e=>hne e.symm
 have hi1:(i:Int)<(L:Int):=by omega
 have hi0:(0:Int)≤(i:Int):=by omega
 have hw:IntKind.i64.wrap ((t:Int)+1 - 1)=(t:Int):=by rw [IntKind.wrap_i64];omega
 have hts:(t:Int)+1 - 1=(t:Int):=by omega
 have ht0:(0:Int)≤(t:Int):=by omega
 have htc:(t:Int)≤(cap:Int):=by omega
 have fF:=fzF (i*2)
 have hdr:=ho1.dropFrame hlt1 eF eg
 rw [hfl,Nat.add_sub_cancel] at hdr
 have HDR:=Zb hdr
 have HO1:=Zb ho1
 have HB1:=Zb hb1
 have HEF:=Zb eF
 clear ho1 hb1 hdr
 go_wp2
 go_quiet (fail)
 go_wp2
 generalize hw2:w1.drewN nq=w2
 have y0:w2.cell? ⟨bs,0,none⟩=some (.slice (some ⟨gF,0,none⟩) L capF):=by rw [← hw2];exact c0
 have y1:w2.cell? ⟨bs,1,none⟩=some (.int .i64 i):=by rw [← hw2];exact c1
 have j0:w2.cell? ⟨gF,i*2,none⟩=some (.slice (some ⟨g,0,none⟩) (t+1) cap):=by rw [← hw2];exact k0
 have j1:w2.cell? ⟨gF,i*2+1,none⟩=some (.int .i64 c):=by rw [← hw2];exact k1
 have jz:w2.frozen? ⟨gF,i*2,none⟩=false:=by rw [← hw2];exact fF
 have HDR2:Hid (Zi base (w2.setCell ⟨gF,i*2,none⟩ (.slice (some ⟨g,0,none⟩) t cap)) bs (upd V1 (.frames i) (.slice (some ⟨g,0,none⟩) t cap)) (popped s i)∧Below base w (w2.setCell ⟨gF,i*2,none⟩ (.slice (some ⟨g,0,none⟩) t cap))):=by
  rw [← hw2]
  refine Zb ⟨by rw [un HFP];exact Zi.same (un HDR).1 rfl,?_⟩
  exact Below.setCell (below_drewN (un HB1) nq) hbF _
 clear hw2 c0 c1 k0 k1 fF HDR HB1 HO1 fz fzF
 go_region
 generalize hwz:(w2.setCell ⟨gF,i*2,none⟩ (.slice (some ⟨g,0,none⟩) t cap)).drew=wz
 have hoz:Zi base wz bs (upd V1 (.frames i) (.slice (some ⟨g,0,none⟩) t cap)) (popped s i):=by rw [← hwz];exact Zi.same (un HDR2).1 rfl
 have hbz:Below base w wz:=by rw [← hwz];exact Below.drew (un HDR2).2
 obtain ⟨x0,x1,_,xz⟩:=hoz.cells
 obtain ⟨gF',capF',eF',_,q0,q1,qz,_⟩:=hoz.own.fib (i:=i) (by rw [hlp];exact hlop)
 rw [Zn V1 _ (by simp),un HEF] at eF'
 rw [Qd] at q0
 obtain ⟨⟨rfl⟩,-,rfl⟩:=(by simpa using eF':(gF=gF')∧s1.fibers.length=(popped s i).fibers.length∧capF=capF')
 rw [Zn V1 _ (by simp),un HEF,hlen] at x0
 rw [hpnow] at x1
 have hcp:(Zc (popped s i) i).caller=c:=by
  rw [un HFP,Qa _ (un HS1)];exact hcal
 rw [hcp] at q1
 have z1:=xz 1
 have zF:=qz (i*2+1)
 have HOZ:=Zb hoz
 have HBZ:=Zb hbz
 clear hwz hoz hbz xz qz y0 y1 j0 j1 jz HDR2 eF' hcp
 by_cases hone:t=0
 ·subst hone
  have hem:=(un HEM).2 (un HT)
  have hR:=un HR
  rw [if_pos hem] at hR
  by_cases hneg:c<0
  ·rw [if_pos hneg] at hR
   have hd:decide (c<0)=true:=decide_eq_true hneg
   have HR2:=Zb hR
   clear hR hem HC HRB HRK
   go_wp2_with fail
   have ho3:=(un HOZ).setNow (-1)
   refine (Zjs base bs _ _ z _ ho3 hpout).mono ?_
   rintro e w4 ⟨rfl,hb4,hp4⟩
   rw [un HR2] at hp4 ⊢
   have HB4:=Zb (Below.trans (Below.trans (un HBZ) (Below.setCell (Below.refl _ _) (un HOZ).low _)) hb4)
   have HP4:=Zb hp4
   clear ho3 hb4 hp4
   go_wp2
   go_ret
   exact ⟨rfl,un HB4,un HP4⟩
  ·rw [if_neg hneg] at hR
   have hd:decide (c<0)=false:=decide_eq_false hneg
   obtain ⟨k,hk,hki,hrk⟩:=(un HC) (by omega)
   subst hR hk
   have HRK2:=Zb ((un HRK) k hrk hki)
   clear hem HC HRB HRK hrk HR
   go_wp2_with fail
   have ho2:=(un HOZ).setNow (k:Int)
   obtain ⟨ho3,hb3⟩:=ho2.setCaller (i:=i) (by show i<(popped s i).fibers.length;rw [hlp];exact hlop) (show (upd V1 (.frames i) (.slice (some ⟨g,0,none⟩) 0 cap)) .fibers=.slice (some ⟨gF,0,none⟩) (popped s i).fibers.length capF by rw [Zn V1 _ (by simp),un HEF,hlen,hlp]) (-1)
   have hrk:=un HRK2
   refine (Zau base bs _ _ k z _ ho3 hrk.lt hrk.fr hrk.frs hrk.st).mono ?_
   rintro e w4 ⟨rfl,V4,ho4,hb4⟩
   have HB5:=Zb (Below.trans (Below.trans (Below.trans (un HBZ) (Below.setCell (Below.refl _ _) (un HOZ).low _)) hb3) hb4)
   have HO4:=Zb ho4
   clear ho2 ho3 hb3 hb4 ho4 hrk
   go_wp2
   go_ret
   exact ⟨rfl,un HB5,fun _=>⟨V4,un HO4⟩⟩
 ·have hem:¬ ((popped s i).fibers.length=0∨(Zc (popped s i) i).frames=[]):=fun h=>by
   have:=(un HEM).1 h
   have:=un HT
   omega
  have hR:=un HR
  rw [if_neg hem] at hR
  subst hR
  have hd:decide ((0:Int)<(t:Int))=true:=decide_eq_true (by omega)
  have hrun:=(un HRB) (by have:=un HT;omega)
  have HRUN:=Zb hrun
  clear hem HC HRB HRK hrun HR
  go_wp2_with fail
  have hrun:=un HRUN
  refine (Zau base bs _ _ i z _ (un HOZ) hrun.lt hrun.fr hrun.frs hrun.st).mono ?_
  rintro e w4 ⟨rfl,V4,ho4,hb4⟩
  have HB5:=Zb (Below.trans (un HBZ) hb4)
  have HO4:=Zb ho4
  clear hb4 ho4 hrun
  go_wp2
  go_ret
  exact ⟨rfl,un HB5,fun _=>⟨V4,un HO4⟩⟩
theorem Zcv (l:List Int) (v:Value) (n:Int) (w:World) (h1:Qf w v l) :
  Calls Tryd.prog 18 #[v,.int .i64 n] w fun e w'=>e=.returned (.bool (decide (n∈l)))∧Za w w':=by
 obtain ⟨oa,ca,rfl,n1,i1⟩:=h1
 have HI1:=Zb i1
 clear i1
 go_enter Tryd.func18,Tryd.ntmps18
 go_wp2
 go_loopw [5] (fun s5 wr=>∃ k:Nat,k≤l.length∧s5=.int .i64 k∧Hid (∀ i,i<k→l.getD i 0≠n)∧Hid (Za w wr)) (fun s5 _=>l.length - (intOf s5).toNat)
 case atStart=>exact ⟨0,Nat.zero_le _,rfl,(fun i hi=>by omega),Za.refl _⟩
 case round =>
  obtain ⟨k,hkm,rfl,HA,HKr⟩:=hrel
  by_cases hlt:k<l.length
  ·obtain ⟨b1,o1,e1,c1⟩:=(un HI1) k _ (Zp l k 0 hlt)
   have d1:=(un HKr).cell c1
   generalize hz1:l.getD k 0=z1 at *
   have Z1:=Zb hz1
   subst e1
   clear c1 hz1
   by_cases hz:z1=n
   ·have hzb:(z1 == n)=true:=by rw [beq_iff_eq];exact hz
    have HZ:=Zb hz
    clear hz
    go_wp2
    go_ret
    refine ⟨?_,un HKr⟩
    rw [decide_eq_true]
    ·rfl
    ·rw [← un HZ,← un Z1]
     exact List.mem_of_getElem? (Zp l k 0 hlt)
   ·have hzb:(z1 == n)=false:=by rw [beq_eq_false_iff_ne];exact hz
    have HZ:=Zb hz
    clear hz
    go_wp2
    go_roundw
    case rel =>
     refine ⟨k+1,by omega,by go_num,?_,HKr⟩
     intro i hi
     by_cases e:i=k
     ·subst e;rw [un Z1];exact un HZ
     ·exact (un HA) i (by omega)
    case measure=>simp [intOf];omega
  ·go_wp2
   go_ret
   refine ⟨?_,un HKr⟩
   rw [decide_eq_false]
   ·rfl
   ·intro hm
    obtain ⟨i,hi,rfl⟩:=List.getElem_of_mem hm
    exact (un HA) i (by omega) (by simp [List.getD,hi])
def Zhy (s:St) (w:World) (e:Ending) (w':World):Prop :=
 ∃ v b,e=.returned (.tuple #[v,.bool b])∧Za w w'∧(match Qb s with | none=>b=false | some l=>b=true∧Qf w' v l)
def Zkl:Value→Nat | .slice _ n _=>n | _=>0
theorem Zwg (fs:List Fb) (k:Nat) (n:Int) (acc:List Int) (h0:¬ n<0) (h:n ∉ acc):Xu fs (k+1) n acc=Xu fs k (Xo fs n) (acc++[n]):=by
 conv=>lhs;unfold Xu
 rw [if_neg h0,if_neg h]
theorem Zmr (s:St) (v:Value) (w:World) (hs:Xj w v s) (hnow:-1≤s.now∧s.now<s.fibers.length) (hcal:∀ b,b∈s.fibers→-1≤b.caller∧b.caller<s.fibers.length) (hlen:s.fibers.length≤1000) :
  Calls Tryd.prog 16 #[v] w fun e w'=>Zhy s w e w':=by
 obtain ⟨vf,vo,rfl,hf,ho⟩:=hs
 obtain ⟨oa,cap,rfl,_,hcell⟩:=hf
 obtain ⟨i0,hi0,hz0,hz1,hz2⟩:=info_parts Zap
 have HC:=Zb hcell
 have HCAL:=Zb hcal
 have HNOW:=Zb hnow
 clear hcell hcal ho
 generalize hN:s.fibers.length=N at *
 have HN:=Zb hN
 clear hN
 obtain ⟨hnow1,hnow2⟩:=hnow
 go_enter Tryd.func16,Tryd.ntmps16
 go_wp2
 generalize hw0:w.alloc (.cells #[.slice oa N cap,.int .i64 s.now,vo] 26)=w0 at *
 have c0:w0.cell? ⟨w.heap.size,0,none⟩=some (.slice oa N cap):=by rw [← hw0];simp
 have hk0:Za w w0:=by rw [← hw0];exact (Za.refl w).alloc _
 have HK0:=Zb hk0
 have C0:=Zb c0
 clear hw0 c0 hk0
 go_loopw [4,5] (fun s4 s5 wr=>∃ (n:Int) (acc:List Int) (k:Nat),s5=.int .i64 n∧-1≤n∧n<N∧k+acc.length=N+1∧Hid (wr.ownsRow w0.heap.size 3 1 s4 acc.length (ints acc))∧Hid (acc.Nodup)∧Hid (∀ z,z∈acc→0≤z∧z<N)∧Hid (Xu s.fibers k n acc=Xu s.fibers (N+1) s.now [])∧Hid (Za w0 wr)) (fun s4 _ _=>N+1 - Zkl s4)
 case atStart=>exact ⟨s.now,[],N+1,rfl,hnow1,hnow2,by simp,World.ownsRow_nil _ _ _ _,List.nodup_nil,(fun z hz=>by cases hz),rfl,Za.refl _⟩
 case round =>
  obtain ⟨n,acc,k,rfl,hn0,hn1,hka,HO,HND,HIN,HL,HK⟩:=hrel
  have hfew:=few (un HND) (un HIN)
  have hfw:acc.length≤N:=hfew
  have hk1:∃ k',k=k'+1:=⟨k - 1,by omega⟩
  obtain ⟨k',rfl⟩:=hk1
  obtain ⟨os,cs,rfl,hrow⟩:=Xl (un HO)
  have HR:=Zb hrow
  clear hrow hfew
  by_cases hpos:0≤n
  ·have HPOS:=Zb hpos
   go_wp2
   go_loopw [6] (fun s6 wq=>∃ q:Nat,q≤acc.length∧s6=.int .i64 q∧Hid (∀ i,i<q→acc.getD i 0≠n)∧Hid (wr=wq)) (fun s6 _=>acc.length - (intOf s6).toNat)
   case atStart=>exact ⟨0,Nat.zero_le _,rfl,(fun i hi=>by omega),rfl⟩
   case round =>
    obtain ⟨q,hqm,rfl,HA,HW⟩:=hrel
    have hwq:=un HW
    subst hwq
    clear HW
    by_cases hlt:q<acc.length
    ·obtain ⟨g,rfl,hc⟩:=(un HR).resolve_left (fun h=>by have:=h.2;omega)
     have hcq:=hc q (.int .i64 (acc.getD q 0)) (Zeb (Zp acc q 0 hlt))
     have HZI:=Zb (Zp acc q 0 hlt)
     clear hc
     generalize hz1:acc.getD q 0=z at *
     have Z1:=Zb hz1
     clear hz1
     by_cases hz:z=n
     ·have hzb:(z == n)=true:=by rw [beq_iff_eq];exact hz
      have HZ:=Zb hz
      clear hz
      go_wp2
      go_ret2
      refine ⟨_,_,rfl,(un HK0).trans (un HK),?_⟩
      have hin:n∈acc:=by rw [← un HZ];exact List.mem_of_getElem? (un HZI)
      have hno:Xu s.fibers (k'+1) n acc=none:=by
       unfold Xu;rw [if_neg (by have:=un HPOS;omega),if_pos hin]
      have hls:Qb s=none:=by
       unfold Qb;rw [un HN,← un HL,hno]
      rw [hls]
     ·have hzb:(z == n)=false:=by rw [beq_eq_false_iff_ne];exact hz
      have HZ:=Zb hz
      clear hz
      go_wp2
      go_roundw
      case rel =>
       refine ⟨q+1,by omega,by go_num,?_,trivial⟩
       intro i hi
       by_cases e:i=q
       ·subst e;rw [un Z1];exact un HZ
       ·exact (un HA) i (by omega)
      case measure=>simp [intOf];omega
    ·have hna:n ∉ acc:=by
      intro hm
      obtain ⟨i,hi,rfl⟩:=List.getElem_of_mem hm
      exact (un HA) i (by omega) (by simp [List.getD,hi])
     have hni:n.toNat<s.fibers.length:=by have:=un HN;omega
     obtain ⟨bf,of,vfr,e1,k0,k1,_⟩:=(un HC) n.toNat _ (Zp s.fibers n.toNat Fb.zero hni)
     have hcr:=(un HCAL) _ (List.mem_of_getElem? (Zp s.fibers n.toNat Fb.zero hni))
     have hst:=Zwg s.fibers k' n acc (by omega) hna
     have hce:(s.fibers.getD n.toNat Fb.zero).caller=Xo s.fibers n:=rfl
     rw [hce] at k1 hcr
     generalize Xo s.fibers n=m at *
     have HST:=Zb hst
     have HNA:=Zb hna
     have K1:=Zb k1
     obtain ⟨m1,m2⟩:=hcr
     clear hst hna k0 k1 hce HR HA HCAL HC
     subst e1
     have hown:=un HO
     have hbase:=(un HK).size
     go_wp2_with (at_builtin;refine wpList_append_own _ rfl _ _ 24 rfl w0.heap.size 3 i0 (.int .i64 0) 1 8 Tryd.underlying24 hi0 hz0 hz1 hz2 rfl (by decide) _ _ _ rfl (hown.alloc _) ⟨wr.heap.size,0,none⟩ 1 1 [.int .i64 n] rfl rfl (Zds _ _ _) (Zew _) (by unfold maxLen;omega) (by omega) (by simp;omega) ?_;intro v' w7 hown' hgrow _;have hk7:Za w0 w7:=Below.grown ((un HK).alloc _) hgrow (by simp;omega) (Zvv hown);have HK7:=Zb hk7;have HO7:=Zb hown';have cb:=hk7.cell (un C0);have cc:=hk7.cell ((un HK0).cell (un K1));clear hk7 hown' hgrow hown K1)
     go_roundw
     case rel =>
      refine ⟨m,acc++[n],k',rfl,m1,m2,by simp;omega,?_,?_,?_,?_,HK7⟩
      ·show World.ownsRow _ _ _ _ _ _ _
       rw [Zev,List.length_append]
       exact un HO7
      ·show List.Nodup _
       rw [List.nodup_append]
       refine ⟨un HND,by simp,?_⟩
       intro a ha b hb e
       simp at hb
       subst hb e
       exact (un HNA) ha
      ·intro z hz
       rcases List.mem_append.1 hz with hz | hz
       ·exact (un HIN) z hz
       ·simp at hz;subst hz;exact ⟨by omega,hn1⟩
      ·exact (un HST).symm.trans (un HL)
     case measure =>
      obtain ⟨o7,c7,e7,_⟩:=Xl (un HO7)
      subst e7
      simp [Zkl]
      omega
  ·have hls:Xu s.fibers (N+1) s.now []=some acc:=by
    rw [← un HL]
    unfold Xu
    rw [if_pos (by omega)]
   have HLS:=Zb hls
   clear hls
   by_cases hz:acc=[]
   ·subst hz
    have hzb:(((0:Nat):Int) == 0)=true:=rfl
    go_wp2
    go_quiet (fail)
    go_wp2
    go_ret2
    refine ⟨_,_,rfl,((un HK0).trans (un HK)).drewN _,?_⟩
    have:Qb s=some []:=by
     unfold Qb;rw [un HN,un HLS];rfl
    rw [this]
    exact ⟨rfl,os,cs,rfl,by simp,fun i z h=>by simp at h⟩
   ·have hpos:0<acc.length:=List.length_pos_iff.2 hz
    obtain ⟨g,rfl,hc⟩:=(un HR).resolve_left (fun h=>by have:=h.2;omega)
    have hlt:acc.length - 1<acc.length:=by omega
    have hcq:=hc (acc.length - 1) (.int .i64 (acc.getD (acc.length - 1) 0)) (Zeb (Zp acc _ 0 hlt))
    have hla:acc.getLast?=some (acc.getD (acc.length - 1) 0):=by
     rw [List.getLast?_eq_getElem?];exact Zp acc _ 0 hlt
    have HLA:=Zb hla
    have HZ0:=Zb hz
    have hia:Qf wr (.slice (some ⟨g,0,none⟩) acc.length cs) acc:=⟨_,cs,rfl,by omega,fun i z hz=>⟨g,0,rfl,by rw [Nat.zero_add];exact hc i _ (Zeb hz)⟩⟩
    have HIA:=Zb hia
    have hlb:((acc.length:Int) == 0)=false:=by rw [beq_eq_false_iff_ne];omega
    clear hla hz hc hia
    generalize hzz:acc.getD (acc.length - 1) 0=z at *
    clear hzz
    generalize hml:acc.length=m at *
    have HML:=Zb hml
    clear hml
    by_cases hz:z=0
    ·subst hz
     have hzb:((0:Int) == 0)=true:=rfl
     go_wp2
     go_quiet (fail)
     go_wp2
     go_ret2
     refine ⟨_,_,rfl,((un HK0).trans (un HK)).drewN _,?_⟩
     have:Qb s=some acc:=by
      unfold Qb;rw [un HN,un HLS]
      simp only
      rw [if_pos (.inr (un HLA))]
     rw [this]
     exact ⟨rfl,(un HIA).kept ((Za.refl _).drewN _)⟩
    ·have hzb:(z == 0)=false:=by rw [beq_eq_false_iff_ne];exact hz
     have HZ:=Zb hz
     clear hz
     go_wp2
     go_quiet (fail)
     go_wp2
     go_ret2
     refine ⟨_,_,rfl,((un HK0).trans (un HK)).drewN _,?_⟩
     have:Qb s=none:=by
      unfold Qb;rw [un HN,un HLS]
      simp only
      rw [if_neg]
      rintro (h | h)
      ·exact (un HZ0) h
      ·rw [un HLA] at h;exact (un HZ) (by simpa using h)
     rw [this]
theorem Uj {s:St} {i:Nat} (hn:s.now=i) (hi:i<s.fibers.length) (hf:0<(Zc s i).frames.length) :
  (Zh s).fibers.length=s.fibers.length∧(Zh s).now=i∧(Zh s).out=s.out∧(∀ k,(Zc (Zh s) k).caller=(Zc s k).caller)∧(∀ k,(Zc (Zh s) k).frames.length=(Zc s k).frames.length) ∧
  (Ze (Zh s) i ((Zc s i).frames.length - 1)).stack=(Ze s i ((Zc s i).frames.length - 1)).stack.dropLast∧(∀ k,k≠i→Zc (Zh s) k=Zc s k):=by
 have hps:=Zas hn
 refine ⟨by rw [hps];exact Xb _ _ _,by rw [hps];exact hn,by rw [hps];rfl,fun k=>by rw [hps,Zbf _ hi],fun k=>by rw [hps];exact Ut _ hi k,?_,fun k hk=>by rw [hps];exact Zcj _ (fun e=>hk e.symm)⟩
 rw [hps,Wz _ hi (by omega)]
theorem Xx.pull {s:St} {i:Nat} (h:Xx s i) (hn:s.now=i):Xx (Zh s) i:=by
 obtain ⟨h1,_,_,_,h5,h6,_⟩:=Uj hn h.lt h.fr
 refine ⟨by rw [h1];exact h.lt,by rw [h5];exact h.fr,by rw [h5];exact h.frs,?_⟩
 rw [h5,h6,List.length_dropLast]
 have:=h.st
 omega
theorem Zdv {s:St} {i:Nat} (hn:s.now=i) (hi:i<s.fibers.length) (hf:0<(Zc s i).frames.length) (k:Nat) (n:Int) (acc:List Int):Xu (Zh s).fibers k n acc=Xu s.fibers k n acc:=by
 obtain ⟨_,_,_,h4,_⟩:=Uj hn hi hf
 exact Zej (fun n=>h4 n.toNat) k n acc
structure Uu (s:St):Prop where
 fibers:s.fibers.length≤1000
 out:s.out.length≤30
 frames:∀ i,i<s.fibers.length→(Zc s i).frames.length≤1000
 locals:∀ i j,i<s.fibers.length→j<(Zc s i).frames.length→(Ze s i j).locals.length≤1000
 stack:∀ i j,i<s.fibers.length→j<(Zc s i).frames.length→(Ze s i j).stack.length≤1000
theorem Uu.small {s:St} (h:Uu s):Yc s:=by
 refine ⟨h.fibers,by have:=h.out;omega,fun b hb=>?_⟩
 obtain ⟨i,hi,rfl⟩:=List.getElem_of_mem hb
 have hbi:Zc s i=s.fibers[i]:=by simp [Zc,List.getD,hi]
 refine ⟨by rw [← hbi];exact h.frames i hi,fun f hf=>?_⟩
 obtain ⟨j,hj,rfl⟩:=List.getElem_of_mem hf
 have hj':j<(Zc s i).frames.length:=by rw [hbi];exact hj
 have hfj:Ze s i j=s.fibers[i].frames[j]:=by unfold Ze;rw [hbi];simp [List.getD,hj]
 rw [← hfj]
 exact ⟨h.locals i j hi hj',h.stack i j hi hj'⟩
theorem Uu.pull {s:St} {i:Nat} (h:Uu s) (hn:s.now=i) (hi:i<s.fibers.length) (hf:0<(Zc s i).frames.length):Uu (Zh s):=by
 obtain ⟨h1,_,h3,_,h5,h6,h7⟩:=Uj hn hi hf
 have hps:=Zas hn
 have hfr:∀ a b,(Ze (Zh s) a b).locals=(Ze s a b).locals∧(Ze (Zh s) a b).stack.length≤(Ze s a b).stack.length:=fun a b=>by
  by_cases e:i=a∧(Zc s i).frames.length - 1=b
  ·obtain ⟨rfl,rfl⟩:=e
   rw [hps,Wz _ hi (by omega)]
   exact ⟨rfl,by simp⟩
  ·rw [hps,Pa _ hi e];exact ⟨rfl,Nat.le_refl _⟩
 refine ⟨by rw [h1];exact h.fibers,by rw [h3];exact h.out,fun a ha=>?_,fun a b ha hb=>?_,fun a b ha hb=>?_⟩
 ·rw [h5];rw [h1] at ha;exact h.frames a ha
 ·rw [(hfr a b).1];rw [h1] at ha;rw [h5] at hb;exact h.locals a b ha hb
 ·rw [h1] at ha;rw [h5] at hb;exact Nat.le_trans (hfr a b).2 (h.stack a b ha hb)
theorem Zvm {s:St} {i:Nat} (hn:s.now=i) (hr:Xx s i) {l:List Int} (hl:Qb s=some l):Uh s =
  if ixB (Zu (Zh s)) s.fibers.length=true then
   (if Zu (Zh s)∈l∨((Zh (Zh s)).fib (Zu (Zh s))).frames=[] then (St.zero,6)
    else if ({ ((Zh (Zh s)).turn (Zu (Zh s)) fun b=>{ b with caller:=(i:Int) }) with now:=Zu (Zh s) }:St).top.at_=0
     then (({ ((Zh (Zh s)).turn (Zu (Zh s)) fun b=>{ b with caller:=(i:Int) }) with now:=Zu (Zh s) }:St).turnTop (Zu (Zh s)) fun f=>{ f with locals:=f.locals.set 0 (Zu s) },0)
     else (Xz { ((Zh (Zh s)).turn (Zu (Zh s)) fun b=>{ b with caller:=(i:Int) }) with now:=Zu (Zh s) } (Zu (Zh s)) (Zu s),0))
  else (St.zero,5):=by
 obtain ⟨a1,a2,_⟩:=Uj hn hr.lt hr.fr
 have hr1:=hr.pull hn
 obtain ⟨b1,b2,_⟩:=Uj a2 hr1.lt hr1.fr
 have hlf:Xu s.fibers (s.fibers.length+1) s.now []=some l:=by
  unfold Qb at hl
  cases hx:Xu s.fibers (s.fibers.length+1) s.now [] with
  | none=>rw [hx] at hl;cases hl
  | some l' =>
   rw [hx] at hl
   simp only at hl
   split at hl
   ·cases hl;rfl
   ·cases hl
 unfold Uh
 simp only
 rw [b1,a1,b2,Zdv a2 hr1.lt hr1.fr,Zdv hn hr.lt hr.fr,← hn,hlf]
 rfl
theorem Zqk (base bs:Nat) (V:Key→Value) (s:St) (i:Nat) (w:World) (l:List Int) (h:Zi base w bs V s) (hn:s.now=i) (hr:Xx s i) (hst2:1<(Ze s i ((Zc s i).frames.length - 1)).stack.length)
  (hft:Uu s) (hcal:∀ b,b∈s.fibers→-1≤b.caller∧b.caller<s.fibers.length) (hl:Qb s=some l) (hil:(i:Int)∈l)
  (hloc:∀ k:Nat,k<s.fibers.length→(k:Int) ∉ l→0<(Zc s k).frames.length→(Ze s k ((Zc s k).frames.length - 1)).at_=0→0<(Ze s k ((Zc s k).frames.length - 1)).locals.length) :
  Calls Tryd.prog 95 #[.pointer (some ⟨bs,0,none⟩)] w fun e w'=>Ja base bs (Uh s) w e w':=by
 have hpl:=Zfj base bs V s i w h hn hr.lt hr.fr hr.frs hr.st (by omega)
 obtain ⟨a1,a2,a3,a4,a5,a6,a7⟩:=Uj hn hr.lt hr.fr
 have hr1:=hr.pull hn
 obtain ⟨b1,b2,b3,b4,b5,b6,b7⟩:=Uj a2 hr1.lt hr1.fr
 have hst1:0<(Ze (Zh s) i ((Zc (Zh s) i).frames.length - 1)).stack.length:=by
  rw [a5,a6,List.length_dropLast];omega
 have hpl2:=fun (V':Key→Value) (u:World) (hu:Zi base u bs V' (Zh s))=>Zfj base bs V' (Zh s) i u hu a2 hr1.lt hr1.fr hr1.frs hr1.st hst1
 have hft2:Uu (Zh (Zh s)):=(hft.pull hn hr.lt hr.fr).pull a2 hr1.lt hr1.fr
 have hlen2:(Zh (Zh s)).fibers.length=s.fibers.length:=by rw [b1,a1]
 have hcal2:∀ k,k<s.fibers.length→-1≤(Zc (Zh (Zh s)) k).caller∧(Zc (Zh (Zh s)) k).caller<s.fibers.length:=fun k hk=>by
  rw [b4,a4]
  exact hcal _ (List.mem_of_getElem? (Zp s.fibers k Fb.zero hk))
 have hline2:Qb (Zh (Zh s))=some l:=by
  unfold Qb at hl ⊢
  rw [b1,a1,b2,Zdv a2 hr1.lt hr1.fr,Zdv hn hr.lt hr.fr,← hn]
  exact hl
 have hoth2:∀ k,k≠i→Zc (Zh (Zh s)) k=Zc s k:=fun k hk=>by rw [b7 k hk,a7 k hk]
 rw [Zvm hn hr hl]
 generalize hs2:Zh (Zh s)=s2 at *
 generalize hv:Zu s=v at *
 generalize hnn:Zu (Zh s)=n at *
 generalize hR:(if ixB n s.fibers.length=true then (if n∈l∨(s2.fib n).frames=[] then (St.zero,(6:Int)) else if ({ (s2.turn n fun b=>{ b with caller:=(i:Int) }) with now:=n }:St).top.at_=0 then (({ (s2.turn n fun b=>{ b with caller:=(i:Int) }) with now:=n }:St).turnTop n fun f=>{ f with locals:=f.locals.set 0 v },0) else (Xz { (s2.turn n fun b=>{ b with caller:=(i:Int) }) with now:=n } n v,0)) else (St.zero,5))=R
 have HR:=Zb hR
 have HPL:=Zb hpl
 have HPL2:=Zb hpl2
 have HFT:=Zb hft2
 have HCAL:=Zb hcal2
 have HLN:=Zb hline2
 have HOT:=Zb hoth2
 have HLOC:=Zb hloc
 have HIL:=Zb hil
 have hlt:=hr.lt
 have hL5:=hft.fibers
 have hnow2:s2.now=i:=b2
 clear hR hpl hpl2 hft hft2 hcal hcal2 hl hline2 hloc hil h hr hr1 hst1 hst2 a3 a4 a5 a6 a7 b3 b4 b5 b6 b7 hoth2 b2
 generalize hL:s.fibers.length=L at *
 go_enter Tryd.func95,Tryd.ntmps95
 go_wp2_with fail
 refine (un HPL).mono ?_
 rintro e w1 ⟨rfl,V1,ho1,hb1⟩
 have hp2:=(un HPL2) V1 w1 ho1
 have HP2:=Zb hp2
 have HB1:=Zb hb1
 clear hp2 ho1 hb1 HPL HPL2
 go_wp2_with fail
 refine (un HP2).mono ?_
 rintro e w2 ⟨rfl,V2,ho2,hb2⟩
 obtain ⟨c0,c1,c2,fz⟩:=ho2.cells
 obtain ⟨gF,capF,eF,hcF,_,_,fzF,hbF⟩:=ho2.own.fib (i:=i) (by rw [hlen2];exact hlt)
 rw [eF,hlen2] at c0
 rw [hnow2] at c1
 have HO2:=Zb ho2
 have HB2:=Zb (Below.trans (un HB1) hb2)
 have HEF:=Zb eF
 clear ho2 hb2 eF HP2 HB1
 have hwl:IntKind.i64.wrap ((L:Int) - 1)=(L:Int) - 1:=by rw [IntKind.wrap_i64];omega
 have hwb:=Zfl n L
 by_cases hix:ixB n L=true
 ·rw [hix] at hwb
  obtain ⟨k,hk⟩:∃ k:Nat,n=k:=⟨n.toNat,by have:=Ji.1 hix;omega⟩
  have hkL:k<L:=by have:=Ji.1 hix;omega
  have hR:=un HR
  rw [if_pos hix] at hR
  subst hk
  have hrd:=(un HO2).own.reads (un HFT).small
  rw [un HEF,hlen2,hnow2] at hrd
  have hln:=Zmr s2 _ w2 hrd (by rw [hnow2,hlen2];omega) (fun b hb=>by
   obtain ⟨q,hq,rfl⟩:=List.getElem_of_mem hb
   have:=(un HCAL) q (by rw [← hlen2];exact hq)
   have e:Zc s2 q=s2.fibers[q]:=by simp [Zc,List.getD,hq]
   rw [e] at this
   rw [hlen2];exact this) (by rw [hlen2];omega)
  unfold Zhy at hln
  rw [un HLN] at hln
  have HLO:=Zb hln
  have HR1:=Zb hR
  clear hrd hln hR hix HCAL HR
  go_wp2_with (first | (go_at_call 15;refine (Xh _ _ _ _).mono ?_;rw [hwb];rintro e w' ⟨rfl,rfl⟩) | (go_at_call 16;refine (un HLO).mono ?_;rintro e w3 ⟨vl,bl,rfl,hk3,rfl,hil3⟩;have HK3:=Zb hk3;have HI3:=Zb hil3;clear hk3 hil3))
  have hha:=Zcv l vl k w3 (un HI3)
  by_cases hin:(k:Int)∈l
  ·rw [decide_eq_true hin] at hha
   have hR:=un HR1
   rw [if_pos (.inl hin)] at hR
   subst hR
   refine hha.mono ?_
   rintro e w4 ⟨rfl,hk4⟩
   have HB4:=Zb (Below.trans (un HB2) ((un HO2).below ((un HK3).trans hk4)))
   clear hha hk4 hin
   go_wp2
   go_ret
   exact ⟨rfl,un HB4,fun e=>by cases e⟩
  ·rw [decide_eq_false hin] at hha
   have HNI:=Zb hin
   refine hha.mono ?_
   rintro e w4 ⟨rfl,hk4⟩
   have hk24:=(un HK3).trans hk4
   have ho4:=(un HO2).kept hk24
   have hb4:=Below.trans (un HB2) ((un HO2).below hk24)
   have hki:k≠i:=fun e=>hin (by rw [e];exact un HIL)
   obtain ⟨d0,d1,_,dz⟩:=ho4.cells
   obtain ⟨gF',capF',eF',_,q0,q1,qz,_⟩:=ho4.own.fib (i:=k) (by rw [hlen2];exact hkL)
   rw [un HEF] at eF' d0
   obtain ⟨⟨rfl⟩,-,rfl⟩:=(by simpa using eF':(gF=gF')∧True∧capF=capF')
   rw [hlen2] at d0
   rw [hnow2] at d1
   obtain ⟨xs,hrow,-⟩:=ho4.own.piece (.frames k) (by show k<s2.fibers.length;rw [hlen2];exact hkL)
   obtain ⟨ofr,cfr,efr,-⟩:=Xl hrow
   rw [efr] at q0
   have hfq:Zc s2 k=Zc s k:=(un HOT) k hki
   have hne:¬ gF=bs:=fun e=>ho4.off .fibers trivial (by rw [un HEF,← e];rfl)
   have hne':¬ bs=gF:=fun e=>hne e.symm
   have hk1:(k:Int)<(L:Int):=by omega
   have hkz:(0:Int)≤(k:Int):=by omega
   have hR:=un HR1
   have HO4:=Zb ho4
   have HB4:=Zb hb4
   have zF:=qz (k*2+1)
   have z1:=dz 1
   rw [hfq] at q0
   generalize hqq:(Zc s k).frames.length=q at *
   have HQ:=Zb hqq
   clear hha hk4 hin hk24 ho4 hb4 eF' hrow dz qz c0 c1 c2 fz fzF hqq xs
   by_cases hq0:q=0
   ·subst hq0
    have hemp:(s2.fib (k:Int)).frames=[]:=by
     rw [Yw,hfq];exact List.length_eq_zero_iff.1 (un HQ)
    rw [if_pos (.inr hemp)] at hR
    subst hR
    clear hemp
    go_wp2
    go_ret
    exact ⟨rfl,un HB4,fun e=>by cases e⟩
   ·have hqb:((q:Int) == 0)=false:=by rw [beq_eq_false_iff_ne];omega
    have hnemp:¬ ((k:Int)∈l∨(s2.fib (k:Int)).frames=[]):=by
     rintro (e | e)
     ·exact (un HNI) e
     ·rw [Yw,hfq] at e
      have:=congrArg List.length e
      rw [un HQ] at this
      exact hq0 this
    rw [if_neg hnemp] at hR
    have HR2:=Zb hR
    clear hR hnemp HR1
    go_wp2
    go_region
    generalize hwz:(w4.setCell ⟨gF,k*2+1,none⟩ (.int .i64 i)).drew=wz
    have hk2:k<s2.fibers.length:=by rw [hlen2];exact hkL
    obtain ⟨ho5,hb5⟩:=(un HO4).setCaller hk2 (un HEF) (i:Int)
    have hoz:Zi base wz bs V2 (Zg s2 k { Zc s2 k with caller:=(i:Int) }):=by rw [← hwz];exact Zi.same ho5 rfl
    have hbz:Below base w wz:=by rw [← hwz];exact Below.drew (Below.trans (un HB4) hb5)
    obtain ⟨x0,x1,_,xz⟩:=hoz.cells
    have z1':=xz 1
    have ho6:=hoz.setNow (k:Int)
    have hb6:Below base w (wz.setCell ⟨bs,1,none⟩ (.int .i64 k)):=Below.trans hbz (Below.setCell (Below.refl _ _) hoz.low _)
    have hf4:Zc { (Zg s2 k { Zc s2 k with caller:=(i:Int) }) with now:=(k:Int) } k={ Zc s2 k with caller:=(i:Int) }:=Qa _ hk2
    have hfl4:(Zc { (Zg s2 k { Zc s2 k with caller:=(i:Int) }) with now:=(k:Int) } k).frames.length=q:=by rw [hf4];show (Zc s2 k).frames.length=q;rw [hfq];exact un HQ
    have hl4:k<({ (Zg s2 k { Zc s2 k with caller:=(i:Int) }) with now:=(k:Int) }:St).fibers.length:=by show k<(Zg s2 k _).fibers.length;rw [Xb];exact hk2
    have hq1000:q≤1000:=by have:=(un HFT).frames k hk2;rw [hfq,un HQ] at this;exact this
    obtain ⟨g,cap,eg,htop⟩:=Yn ho6 (i:=k) hl4 (by rw [hfl4];omega) (by rw [hfl4];omega)
    have hR:=un HR2
    rw [Ug] at hR
    have HOZ:=Zb hoz
    have HO6:=Zb ho6
    have HB6:=Zb hb6
    have HTOP:=Zb htop
    have HEG:=Zb eg
    have HR3:=Zb hR
    have HF4:=Zb hf4
    have HFL4:=Zb hfl4
    have HL4:=Zb hl4
    clear hwz ho5 hb5 hoz hbz ho6 hb6 htop hR hf4 xz d0 d1 q0 q1 zF z1 HR2 eg hl4 hfl4
    go_wp2_with fail
    refine (un HTOP).mono ?_
    rintro e w7 ⟨rfl,m,rfl⟩
    generalize hw7:(wz.setCell ⟨bs,1,none⟩ (.int .i64 k)).drewN m=w7
    have ho7:Zi base w7 bs V2 { (Zg s2 k { Zc s2 k with caller:=(i:Int) }) with now:=(k:Int) }:=(un HO6).same (by rw [← hw7];rfl)
    have hb7:Below base w w7:=by rw [← hw7];exact below_drewN (un HB6) m
    have hfl4:=un HFL4
    have htat:({ (Zg s2 k { Zc s2 k with caller:=(i:Int) }) with now:=(k:Int) }:St).top=Ze { (Zg s2 k { Zc s2 k with caller:=(i:Int) }) with now:=(k:Int) } k (q - 1):=by
     unfold St.top
     show (St.fib _ (k:Int)).top=_
     rw [Yw,Zdd,hfl4]
    have htr:Ze { (Zg s2 k { Zc s2 k with caller:=(i:Int) }) with now:=(k:Int) } k (q - 1)=Ze s k ((Zc s k).frames.length - 1):=by
     unfold Ze
     rw [un HF4]
     show (Zc s2 k).frames.getD (q - 1) Fr.zero=_
     rw [hfq,un HQ]
    have hR:=un HR3
    rw [htat] at hR
    obtain ⟨g',cap',eg',_,_,f1,f2,f3,ffz,_⟩:=ho7.own.fr (un HL4) (j:=q - 1) (by rw [hfl4];omega)
    rw [un HEG] at eg'
    obtain ⟨⟨rfl⟩,-,rfl⟩:=(by simpa using eg':(g=g')∧True∧cap=cap')
    have hlo:=ho7.own.loc (un HL4) (j:=q - 1) (by rw [hfl4];omega)
    have hrun:Xx { (Zg s2 k { Zc s2 k with caller:=(i:Int) }) with now:=(k:Int) } k:=by
     refine ⟨un HL4,by rw [hfl4];omega,by rw [hfl4];omega,?_⟩
     rw [hfl4,htr]
     have:=(un HFT).stack k (q - 1) hk2 (by rw [hfq,un HQ];omega)
     have e:Ze s2 k (q - 1)=Ze s k ((Zc s k).frames.length - 1):=by unfold Ze;rw [hfq,un HQ]
     rw [e] at this;exact this
    have hlc:(Ze s k ((Zc s k).frames.length - 1)).at_=0→0<(Ze s k ((Zc s k).frames.length - 1)).locals.length:=(un HLOC) k hkL (un HNI) (by rw [un HQ];omega)
    rw [← htr] at hlc
    generalize hs4:({ (Zg s2 k { Zc s2 k with caller:=(i:Int) }) with now:=(k:Int) }:St)=s4 at *
    have HO7:=Zb ho7
    have HB7:=Zb hb7
    have HRN:=Zb hrun
    clear hw7 ho7 hb7 eg' htat htr hrun HTOP HO6 HB6 HOZ HF4 hs4 HR3
    by_cases hat:(Ze s4 k (q - 1)).at_=0
    ·rw [if_pos hat] at hR
     obtain ⟨gl,cl,el,_,hcl,hfl,_⟩:=Zaw hlo (hlc hat)
     rw [hat] at f1
     rw [el] at f2
     have hcell0:∃ u,w7.cell? ⟨gl,0,none⟩=some u:=⟨_,hcl 0 _ (Zbm (Zp _ 0 0 (hlc hat)))⟩
     obtain ⟨u0,hu0⟩:=hcell0
     have hz0:=hfl 0
     have hn1:(0:Int)<((Ze s4 k (q - 1)).locals.length:Int):=by have:=hlc hat;omega
     have hfin:=(un HO7).setLocal (un HRN).lt (j:=q - 1) (q:=0) (by rw [hfl4];omega) el v
     have HFIN:=Zb hfin
     have HR4:=Zb hR
     clear hR hfin hcl hfl hlo el
     go_wp2
     go_ret
     have hfin:=un HFIN
     refine ⟨by rw [← un HR4];rfl,Below.trans (un HB7) hfin.2,fun _=>⟨V2,?_⟩⟩
     rw [← un HR4,Po,hfl4]
     exact hfin.1
    ·rw [if_neg hat] at hR
     have hab:((Ze s4 k (q - 1)).at_ == 0)=false:=by rw [beq_eq_false_iff_ne];exact hat
     subst hR
     have hrun:=un HRN
     have hpush:=Zau base bs V2 s4 k v w7 (un HO7) hrun.lt hrun.fr hrun.frs hrun.st
     have HPU:=Zb hpush
     clear hpush hrun hat hlo hlc
     go_wp2_with (go_at_call 91;refine (un HPU).mono ?_;rintro e w8 ⟨rfl,V8,ho8,hb8⟩;have HO8:=Zb ho8;have HB8:=Zb hb8;clear ho8 hb8)
     go_ret
     exact ⟨rfl,Below.trans (un HB7) (un HB8),fun _=>⟨V8,un HO8⟩⟩
 ·have hif:ixB n L=false:=by simpa using hix
  rw [hif] at hwb
  have hR:=un HR
  rw [if_neg hix] at hR
  subst hR
  clear hix hif
  go_wp2_with (go_at_call 15;refine (Xh _ _ _ _).mono ?_;rw [hwb];rintro e w' ⟨rfl,rfl⟩)
  go_ret
  exact ⟨rfl,un HB2,fun e=>by cases e⟩
def filled (l:List Int) (a lo t:Nat):List Int:=(List.range lo).map fun q=>if a - t≤q∧q<a then l.getD (l.length - a+q) 0 else 0
theorem Zmk (l:List Int) (a lo t:Nat):(filled l a lo t).length=lo:=by simp [filled]
theorem Zwh (l:List Int) (a lo:Nat):filled l a lo 0=List.replicate lo 0:=by
 apply List.ext_getElem
 ·simp [filled]
 ·intro k h1 h2
  simp [filled]
  intro h3 h4
  omega
theorem Zof (l:List Int) {a lo t:Nat} (ht:t<a) (hl:a≤l.length):(filled l a lo t).set (a - 1 - t) (l.getD (l.length - t - 1) 0)=filled l a lo (t+1):=by
 apply List.ext_getElem
 ·simp [filled]
 ·intro k h1 h2
  rw [List.getElem_set]
  simp only [filled,List.getElem_map,List.getElem_range]
  split
  ·rename_i e
   subst e
   rw [if_pos (by omega)]
   congr 1
   omega
  ·rename_i e
   by_cases hk:a - t≤k∧k<a
   ·rw [if_pos hk,if_pos (by omega)]
   ·rw [if_neg hk,if_neg (by omega)]
theorem Zzf (l:List Int) {a lo:Nat} (ha:a≤lo) (hl:a≤l.length):filled l a lo a=l.drop (l.length - a)++List.replicate (lo - (l.drop (l.length - a)).length) 0:=by
 have hdl:(l.drop (l.length - a)).length=a:=by simp;omega
 rw [hdl]
 apply List.ext_getElem
 ·simp [filled];omega
 ·intro k h1 h2
  simp only [filled,List.getElem_map,List.getElem_range]
  by_cases hk:k<a
  ·rw [if_pos (by omega),List.getElem_append_left (by omega),List.getElem_drop]
   have:l.length - a+k<l.length:=by omega
   simp [List.getD,this]
  ·rw [if_neg (by omega),List.getElem_append_right (by omega)]
   simp
theorem Zxp {l:List Int} {i:Nat} {z:Int} (h:l[i]?=some z):(ints l).toArray[i]?=some (.int .i64 z):=by
 rw [List.getElem?_toArray];exact Zbm h
theorem Zi.setOff {base bs:Nat} {w:World} {V:Key→Value} {s:St} (h:Zi base w bs V s) {b j:Nat} (hb:Own.off V s b) (hne:bs≠b) (u:Value):Zi base (w.setCell ⟨b,j,none⟩ u) bs V s :=
 ⟨by rw [Below.heap_setCell _ _ _ _ hne];exact h.var,h.own.setOff (a:=⟨b,j,none⟩) hb u,h.off,h.low⟩
theorem Zrw {w:World} {b i B j:Nat} {v:Value} (h:w.cell? ⟨b,i,none⟩=some v) (hne:b≠B) (u:Value):(w.setCell ⟨B,j,none⟩ u).cell? ⟨b,i,none⟩=some v:=by
 rw [World.cell?_of_block (w:=w)]
 ·exact h
 ·exact Below.heap_setCell w _ _ _ hne
theorem Zuq (base bs:Nat) (V:Key→Value) (s:St) (i gF capF BL lo:Nat) (w:World) (h:Zi base w bs V s) (hi:i<s.fibers.length) (hF:V .fibers=.slice (some ⟨gF,0,none⟩) s.fibers.length capF)
  (hfr:(Zc s i).frames.length≤1000) (f:Fr) (hst:f.stack=[]) (hlen:f.locals.length=lo) (hlo:lo≤1000) (hBL:w.heap[BL]?=some (.cells (ints f.locals).toArray 3)) (hoff:Own.off V s BL) (hlow:base≤BL) (hbsL:bs≠BL) :
  ∃ v' w',(Builtin.append_ #[44,44] 44 #[V (.frames i),.slice (some ⟨w.heap.size,0,none⟩) 1 1]).run Tryd.prog (w.alloc (.cells #[.int .i64 f.fn,.int .i64 f.at_,.slice (some ⟨BL,0,none⟩) lo lo,.slice none 0 0] 53)).drew=.ok v' w' ∧
   (∃ o c,v'=.slice o ((Zc s i).frames.length+1) c)∧(∃ V',Zi base (w'.setCell ⟨gF,i*2,none⟩ v') bs V' (Zg s i { Zc s i with frames:=(Zc s i).frames++[f] }))∧Below base w w' ∧
   (∀ b,b<w.heap.size→(V (.frames i)).ownBlock≠some b→w'.heap[b]?=w.heap[b]?):=by
 subst hlen
 have hku:Za w (w.alloc (.cells #[.int .i64 f.fn,.int .i64 f.at_,.slice (some ⟨BL,0,none⟩) f.locals.length f.locals.length,.slice none 0 0] 53)).drew:=((Za.refl w).alloc _).drew
 have hu:=h.kept hku
 obtain ⟨v',w',V',h1,h2,h3,h4,_⟩:=Zza hu hi hF hfr f hst hlo (Xe (Zr hBL _)) hoff hlow hbsL (Xe (Zj rfl))
 exact ⟨v',w',h1,h2,⟨V',h3⟩,Below.grown (h.below hku) h4 (by have:=h.low;have:=lt_of_block hu.var;omega) (fun r hr=>((hu.own.piece (.frames i) hi).block r hr).1),fun b hb hne=>(h4.block b (Nat.lt_of_lt_of_le hb hku.size) (fun e=>hne e.symm)).trans (hku.block b hb)⟩
end Go.Proofs.YtblihfpigjiahaaDoor
