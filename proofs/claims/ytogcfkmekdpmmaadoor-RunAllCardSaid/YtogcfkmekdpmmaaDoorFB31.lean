/- StepC, StepD, StateC, StepE, StepF, StepG -/
import Derived.Test.YtogcfkmekdpmmaaDoorFB30
import Derived.Test.YtogcfkmekdpmmaaDoorFB12
import Derived.Test.YtogcfkmekdpmmaaDoorFB17
import Derived.Test.YtogcfkmekdpmmaaDoorFB01
set_option maxRecDepth 100000
set_option maxHeartbeats 8000000
namespace Go.Proofs.YtogcfkmekdpmmaaDoor
open Go.RowKit
def EndPost (base bs:Nat) (r:St × Int) (w:World) (e:Ending) (w':World):Prop :=
 e=.returned (.int .i64 r.2)∧Below base w w'∧(r.2=0→∃ V',OwnVar base w' bs V' r.1)
theorem yielded_any (base bs:Nat) (V:Key→Value) (s:St) (i:Nat) (w:World) (h:OwnVar base w bs V s) (hn:s.now=i) (hr:Runs s i) (hst0:0 < (frAt s i ((fibAt s i).frames.length - 1)).stack.length)
  (hc:∀ c:Int,(fibAt s i).caller=c→0≤c→∃ k:Nat,c=k∧k≠i∧Runs s k) :
  Calls Tryd.prog 96 #[.pointer (some ⟨bs,0,none⟩)] w fun e w'=>EndPost base bs (yieldedS s) w e w':=by
 have hpl:=pull_any base bs V s i w h hn hr.lt hr.fr hr.frs hr.st hst0
 have hps:=pullV_setFr hn
 have hcal:(fibAt (pullV s) i).caller=(fibAt s i).caller:=by rw [hps,setFr_caller _ hr.lt]
 have hlen:(pullV s).fibers.length=s.fibers.length:=by rw [hps]; exact setFib_len _ _ _
 have hnow:(pullV s).now=i:=by rw [hps]; exact hn
 have hoth:∀ k,k≠i→fibAt (pullV s) k=fibAt s k:=fun k hk=>by rw [hps]; exact setFr_other _ (fun e=>hk e.symm)
 have hys:yieldedS s=if (fibAt s i).caller < 0 then (St.zero,7) else (pushV { (setFib (pullV s) i { fibAt (pullV s) i with caller:=-1 }) with now:=(fibAt s i).caller } (fibAt s i).caller (lastV s),0):=by
  unfold yieldedS
  simp only
  rw [hn,fib_fibAt,turn_setFib,hcal]
 rw [hys]
 generalize hcc:(fibAt s i).caller=c at *
 have hc':=hc c rfl
 have HPL:=hide hpl
 have HLT:=hide hr.lt
 have HHO:=hide hoth
 clear hpl hps hys hc h
 generalize hs1:pullV s=s1 at *
 generalize lastV s=z at *
 have HC:=hide hc'
 clear hc' hr hst0 hs1 hcc
 generalize hL:s.fibers.length=L at *
 have HRK:Hid (∀ k,Runs s k→k≠i→Runs { (setFib s1 i { fibAt s1 i with caller:=-1 }) with now:=(k:Int) } k):=hide (fun k hrk hki=>by
  refine hrk.other ?_ ?_
  ·show (setFib s1 i _).fibers.length=_
   rw [setFib_len,hlen,hL]
  ·show fibAt (setFib s1 i _) k=_
   rw [fibAt_ne _ (fun e=>hki e.symm)]
   exact (un HHO) k hki)
 clear HHO hL
 generalize hR:(if c < 0 then (St.zero,(7:Int)) else (pushV { (setFib s1 i { fibAt s1 i with caller:=-1 }) with now:=c } c z,0))=R
 have HR:=hide hR
 clear hR
 go_enter Tryd.func96,Tryd.ntmps96
 go_wp2_with fail
 refine (un HPL).mono ?_
 rintro e w1 ⟨rfl,V1,ho1,hb1⟩
 obtain ⟨c0,c1,_,fz⟩:=ho1.cells
 obtain ⟨gF,capF,eF,hcF,_,k1,fzF,hbF⟩:=ho1.own.fib (i:=i) (by rw [hlen]; exact un HLT)
 rw [eF] at c0
 rw [hnow] at c1
 rw [hcal] at k1
 have hne:¬ gF=bs:=fun e=>ho1.off .fibers trivial (by rw [eF,← e]; rfl)
 have hne':¬ bs=gF:=fun e=>hne e.symm
 have hi1:(i:Int) < (L:Int):=by have:=un HLT; omega
 have hi0:(0:Int)≤(i:Int):=by omega
 rw [hlen] at c0
 have f1:=fz 1
 have fF:=fzF (i * 2 + 1)
 have HO1:=hide ho1
 have HB1:=hide hb1
 have HEF:=hide eF
 clear ho1 hb1 eF fz fzF
 by_cases hneg:c < 0
 ·have hR:=un HR
  rw [if_pos hneg] at hR
  subst hR
  have hd:decide (c < 0)=true:=decide_eq_true hneg
  go_wp2
  go_quiet (fail)
  go_wp2
  go_ret
  exact ⟨rfl,below_drewN (un HB1) _,fun e=>by cases e⟩
 ·have hd:decide (c < 0)=false:=decide_eq_false hneg
  obtain ⟨k,hk,hki,hrk⟩:=(un HC) (by omega)
  have hR:=un HR
  rw [if_neg hneg] at hR
  subst hR hk
  have HRK2:=hide ((un HRK) k hrk hki)
  clear hrk HC HRK HR
  go_wp2
  go_quiet (fail)
  go_wp2_with fail
  have hd1:OwnVar base (w1.drewN nq) bs V1 s1:=(un HO1).same rfl
  have ho2:=hd1.setNow (k:Int)
  obtain ⟨ho3,hb3⟩:=ho2.setCaller (i:=i) (by show i < s1.fibers.length; rw [hlen]; exact un HLT) (show V1 .fibers=.slice (some ⟨gF,0,none⟩) s1.fibers.length capF from un HEF) (-1)
  have hrk:=un HRK2
  refine (push_any base bs V1 _ k z _ ho3 hrk.lt hrk.fr hrk.frs hrk.st).mono ?_
  rintro e w4 ⟨rfl,V4,ho4,hb4⟩
  have hb5:Below base w w4:=Below.trans (Below.trans (Below.trans (below_drewN (un HB1) nq) (Below.setCell (Below.refl _ _) hd1.low _)) hb3) hb4
  have HB5:=hide hb5
  have HO4:=hide ho4
  clear ho2 ho3 hb3 hb4 hb5 ho4 hd1 hrk
  go_wp2
  go_ret
  exact ⟨rfl,un HB5,fun _=>⟨V4,un HO4⟩⟩
def popped (s:St) (i:Nat):St:=setFib (pullV s) i { fibAt (pullV s) i with frames:=(fibAt (pullV s) i).frames.dropLast }
theorem givenS_eq {s:St} {i:Nat} (hn:s.now=i) (hi:i < s.fibers.length):givenS s =
  if (popped s i).fibers.length=0∨(fibAt (popped s i) i).frames=[] then
   (if (fibAt s i).caller < 0 then putS { popped s i with now:=-1 } (lastV s)
    else (pushV { (setFib (popped s i) i { fibAt (popped s i) i with caller:=-1 }) with now:=(fibAt s i).caller } (fibAt s i).caller (lastV s),0))
  else (pushV (popped s i) i (lastV s),0):=by
 have hps:=pullV_setFr hn
 have hcal:(fibAt (pullV s) i).caller=(fibAt s i).caller:=by rw [hps,setFr_caller _ hi]
 have hlen:(pullV s).fibers.length=s.fibers.length:=by rw [hps]; exact setFib_len _ _ _
 have hlp:(popped s i).fibers.length=s.fibers.length:=by unfold popped; rw [setFib_len,hlen]
 have hcp:(fibAt (popped s i) i).caller=(fibAt s i).caller:=by
  unfold popped; rw [fibAt_same _ (by rw [hlen]; exact hi)]; exact hcal
 unfold givenS
 simp only
 rw [hn,turn_setFib]
 show (if ((popped s i).fib (i:Int)).frames=[] then if ((popped s i).fib (i:Int)).caller < 0 then _ else (pushV { ((popped s i).turn (i:Int) _) with now:=((popped s i).fib (i:Int)).caller } ((popped s i).fib (i:Int)).caller (lastV s),0) else (pushV (popped s i) (i:Int) (lastV s),0))=_
 rw [fib_fibAt,turn_setFib,hcp]
 have h0:¬ (popped s i).fibers.length=0:=by omega
 simp only [h0,false_or]
 rfl
theorem given_any (base bs:Nat) (V:Key→Value) (s:St) (i:Nat) (w:World) (h:OwnVar base w bs V s) (hn:s.now=i) (hr:Runs s i) (hst0:0 < (frAt s i ((fibAt s i).frames.length - 1)).stack.length)
  (ho:s.out.length≤30) (hbel:1 < (fibAt s i).frames.length→(frAt s i ((fibAt s i).frames.length - 2)).stack.length≤1000)
  (hc:∀ c:Int,(fibAt s i).caller=c→0≤c→∃ k:Nat,c=k∧k≠i∧Runs s k) :
  Calls Tryd.prog 94 #[.pointer (some ⟨bs,0,none⟩)] w fun e w'=>EndPost base bs (givenS s) w e w':=by
 have hpl:=pull_any base bs V s i w h hn hr.lt hr.fr hr.frs hr.st hst0
 have hps:=pullV_setFr hn
 have hcal:(fibAt (pullV s) i).caller=(fibAt s i).caller:=by rw [hps,setFr_caller _ hr.lt]
 have hlen:(pullV s).fibers.length=s.fibers.length:=by rw [hps]; exact setFib_len _ _ _
 have hnow:(pullV s).now=i:=by rw [hps]; exact hn
 have hout:(pullV s).out=s.out:=by rw [hps]; rfl
 have hfl:(fibAt (pullV s) i).frames.length=(fibAt s i).frames.length:=by rw [hps]; exact setFr_frames _ hr.lt i
 have hlt1:i < (pullV s).fibers.length:=by rw [hlen]; exact hr.lt
 have hoth:∀ k,k≠i→fibAt (popped s i) k=fibAt s k:=fun k hk=>by
  unfold popped
  rw [fibAt_ne _ (fun e=>hk e.symm),hps]
  exact setFr_other _ (fun e=>hk e.symm)
 have hlp:(popped s i).fibers.length=s.fibers.length:=by unfold popped; rw [setFib_len,hlen]
 have hfp:fibAt (popped s i) i={ fibAt (pullV s) i with frames:=(fibAt (pullV s) i).frames.dropLast }:=by unfold popped; exact fibAt_same _ hlt1
 have hfpl:(fibAt (popped s i) i).frames.length=(fibAt s i).frames.length - 1:=by rw [hfp]; simp [hfl]
 have hrb:1 < (fibAt s i).frames.length→Runs (popped s i) i:=fun h1=>by
  refine ⟨by rw [hlp]; exact hr.lt,by omega,by have:=hr.frs; omega,?_⟩
  have:frAt (popped s i) i ((fibAt (popped s i) i).frames.length - 1)=frAt s i ((fibAt s i).frames.length - 2):=by
   rw [hfpl]
   unfold frAt
   rw [hfp]
   simp only
   have hlt2:(fibAt s i).frames.length - 1 - 1 < (fibAt (pullV s) i).frames.length - 1:=by omega
   rw [show (fibAt s i).frames.length - 2=(fibAt s i).frames.length - 1 - 1 by omega]
   have e1:(fibAt (pullV s) i).frames.dropLast.getD ((fibAt s i).frames.length - 1 - 1) Fr.zero=(fibAt (pullV s) i).frames.getD ((fibAt s i).frames.length - 1 - 1) Fr.zero:=by
    have h2:(fibAt s i).frames.length - 1 - 1 < (fibAt (pullV s) i).frames.length:=by omega
    simp [List.getD,hlt2,h2]
   rw [e1]
   have:=frAt_ne (s:=s) (i:=i) (j:=(fibAt s i).frames.length - 1) (i':=i) (j':=(fibAt s i).frames.length - 1 - 1) { frAt s i ((fibAt s i).frames.length - 1) with stack:=(frAt s i ((fibAt s i).frames.length - 1)).stack.dropLast } hr.lt (by rintro ⟨_,e⟩; omega)
   rw [← hps] at this
   exact this
  rw [this]; exact hbel h1
 rw [givenS_eq hn hr.lt]
 have hemp:((popped s i).fibers.length=0∨(fibAt (popped s i) i).frames=[])↔(fibAt s i).frames.length=1:=by
  have:=hr.fr
  have:=hr.lt
  constructor
  ·rintro (e | e)
   ·omega
   ·have:=congrArg List.length e
    simp only [List.length_nil] at this
    omega
  ·intro e
   exact .inr (List.length_eq_zero_iff.1 (by omega))
 have hlop:=hr.lt
 have hq1:=hr.fr
 have hq2:=hr.frs
 have HRB:=hide hrb
 have HRK:Hid (∀ k,Runs s k→k≠i→Runs { (setFib (popped s i) i { fibAt (popped s i) i with caller:=-1 }) with now:=(k:Int) } k):=hide (fun k hrk hki=>by
  refine hrk.other ?_ ?_
  ·show (setFib (popped s i) i _).fibers.length=_
   rw [setFib_len,hlp]
  ·show fibAt (setFib (popped s i) i _) k=_
   rw [fibAt_ne _ (fun e=>hki e.symm)]
   exact hoth k hki)
 have hpout:(popped s i).out.length≤30:=by
  have:(popped s i).out=s.out:=hout
  rw [this]; exact ho
 have hpnow:(popped s i).now=i:=hnow
 generalize hcc:(fibAt s i).caller=c at *
 have hc':=hc c rfl
 generalize hzz:lastV s=z at *
 generalize hR:(if (popped s i).fibers.length=0∨(fibAt (popped s i) i).frames=[] then (if c < 0 then putS { popped s i with now:=-1 } z else (pushV { (setFib (popped s i) i { fibAt (popped s i) i with caller:=-1 }) with now:=c } c z,0)) else (pushV (popped s i) i z,0))=R
 have HR:=hide hR
 have HEM:=hide hemp
 have HPL:=hide hpl
 have HC:=hide hc'
 have HS1:=hide hlt1
 have HFP:=hide (show popped s i=setFib (pullV s) i { fibAt (pullV s) i with frames:=(fibAt (pullV s) i).frames.dropLast } from rfl)
 obtain ⟨t,ht⟩:∃ t,(fibAt s i).frames.length=t + 1:=⟨_,(Nat.sub_add_cancel hq1).symm⟩
 rw [ht] at hfl hq2 hemp
 have HT:=hide ht
 clear hR hemp hpl hps hc' hc h hr hrb hoth hfp hbel hcc hzz
 generalize hs1:pullV s=s1 at *
 generalize hL:s.fibers.length=L at *
 clear hs1
 go_enter Tryd.func94,Tryd.ntmps94
 go_wp2_with fail
 refine (un HPL).mono ?_
 rintro e w1 ⟨rfl,V1,ho1,hb1⟩
 obtain ⟨c0,c1,_,fz⟩:=ho1.cells
 obtain ⟨gF,capF,eF,hcF,k0,k1,fzF,hbF⟩:=ho1.own.fib (i:=i) hlt1
 obtain ⟨g,cap,eg,hcap,_⟩:=ho1.own.fr (i:=i) (j:=0) hlt1 (by omega)
 rw [eF] at c0
 rw [hnow] at c1
 rw [hcal] at k1
 rw [hlen] at c0
 rw [eg,hfl] at k0
 rw [hfl] at hcap
 have hne:¬ gF=bs:=fun e=>ho1.off .fibers trivial (by rw [eF,← e]; rfl)
 have hne':¬ bs=gF:=fun e=>hne e.symm
 have hi1:(i:Int) < (L:Int):=by omega
 have hi0:(0:Int)≤(i:Int):=by omega
 have hw:IntKind.i64.wrap ((t:Int) + 1 - 1)=(t:Int):=by rw [IntKind.wrap_i64]; omega
 have hts:(t:Int) + 1 - 1=(t:Int):=by omega
 have ht0:(0:Int)≤(t:Int):=by omega
 have htc:(t:Int)≤(cap:Int):=by omega
 have fF:=fzF (i * 2)
 have hdr:=ho1.dropFrame hlt1 eF eg
 rw [hfl,Nat.add_sub_cancel] at hdr
 have HDR:=hide hdr
 have HO1:=hide ho1
 have HB1:=hide hb1
 have HEF:=hide eF
 clear ho1 hb1 hdr
 go_wp2
 go_quiet (fail)
 go_wp2
 generalize hw2:w1.drewN nq=w2
 have y0:w2.cell? ⟨bs,0,none⟩=some (.slice (some ⟨gF,0,none⟩) L capF):=by rw [← hw2]; exact c0
 have y1:w2.cell? ⟨bs,1,none⟩=some (.int .i64 i):=by rw [← hw2]; exact c1
 have j0:w2.cell? ⟨gF,i * 2,none⟩=some (.slice (some ⟨g,0,none⟩) (t + 1) cap):=by rw [← hw2]; exact k0
 have j1:w2.cell? ⟨gF,i * 2 + 1,none⟩=some (.int .i64 c):=by rw [← hw2]; exact k1
 have jz:w2.frozen? ⟨gF,i * 2,none⟩=false:=by rw [← hw2]; exact fF
 have HDR2:Hid (OwnVar base (w2.setCell ⟨gF,i * 2,none⟩ (.slice (some ⟨g,0,none⟩) t cap)) bs (upd V1 (.frames i) (.slice (some ⟨g,0,none⟩) t cap)) (popped s i)∧Below base w (w2.setCell ⟨gF,i * 2,none⟩ (.slice (some ⟨g,0,none⟩) t cap))):=by
  rw [← hw2]
  refine hide ⟨by rw [un HFP]; exact OwnVar.same (un HDR).1 rfl,?_⟩
  exact Below.setCell (below_drewN (un HB1) nq) hbF _
 clear hw2 c0 c1 k0 k1 fF HDR HB1 HO1 fz fzF
 go_region
 generalize hwz:(w2.setCell ⟨gF,i * 2,none⟩ (.slice (some ⟨g,0,none⟩) t cap)).drew=wz
 have hoz:OwnVar base wz bs (upd V1 (.frames i) (.slice (some ⟨g,0,none⟩) t cap)) (popped s i):=by rw [← hwz]; exact OwnVar.same (un HDR2).1 rfl
 have hbz:Below base w wz:=by rw [← hwz]; exact Below.drew (un HDR2).2
 obtain ⟨x0,x1,_,xz⟩:=hoz.cells
 obtain ⟨gF',capF',eF',_,q0,q1,qz,_⟩:=hoz.own.fib (i:=i) (by rw [hlp]; exact hlop)
 rw [upd_ne V1 _ (by simp),un HEF] at eF'
 rw [upd_same] at q0
 obtain ⟨⟨rfl⟩,-,rfl⟩:=(by simpa using eF':(gF=gF')∧s1.fibers.length=(popped s i).fibers.length∧capF=capF')
 rw [upd_ne V1 _ (by simp),un HEF,hlen] at x0
 rw [hpnow] at x1
 have hcp:(fibAt (popped s i) i).caller=c:=by
  rw [un HFP,fibAt_same _ (un HS1)]; exact hcal
 rw [hcp] at q1
 have z1:=xz 1
 have zF:=qz (i * 2 + 1)
 have HOZ:=hide hoz
 have HBZ:=hide hbz
 clear hwz hoz hbz xz qz y0 y1 j0 j1 jz HDR2 eF' hcp
 by_cases hone:t=0
 ·subst hone
  have hem:=(un HEM).2 (un HT)
  have hR:=un HR
  rw [if_pos hem] at hR
  by_cases hneg:c < 0
  ·rw [if_pos hneg] at hR
   have hd:decide (c < 0)=true:=decide_eq_true hneg
   have HR2:=hide hR
   clear hR hem HC HRB HRK
   go_wp2_with fail
   have ho3:=(un HOZ).setNow (-1)
   refine (put_any base bs _ _ z _ ho3 hpout).mono ?_
   rintro e w4 ⟨rfl,hb4,hp4⟩
   rw [un HR2] at hp4 ⊢
   have HB4:=hide (Below.trans (Below.trans (un HBZ) (Below.setCell (Below.refl _ _) (un HOZ).low _)) hb4)
   have HP4:=hide hp4
   clear ho3 hb4 hp4
   go_wp2
   go_ret
   exact ⟨rfl,un HB4,un HP4⟩
  ·rw [if_neg hneg] at hR
   have hd:decide (c < 0)=false:=decide_eq_false hneg
   obtain ⟨k,hk,hki,hrk⟩:=(un HC) (by omega)
   subst hR hk
   have HRK2:=hide ((un HRK) k hrk hki)
   clear hem HC HRB HRK hrk HR
   go_wp2_with fail
   have ho2:=(un HOZ).setNow (k:Int)
   obtain ⟨ho3,hb3⟩:=ho2.setCaller (i:=i) (by show i < (popped s i).fibers.length; rw [hlp]; exact hlop) (show (upd V1 (.frames i) (.slice (some ⟨g,0,none⟩) 0 cap)) .fibers=.slice (some ⟨gF,0,none⟩) (popped s i).fibers.length capF by rw [upd_ne V1 _ (by simp),un HEF,hlen,hlp]) (-1)
   have hrk:=un HRK2
   refine (push_any base bs _ _ k z _ ho3 hrk.lt hrk.fr hrk.frs hrk.st).mono ?_
   rintro e w4 ⟨rfl,V4,ho4,hb4⟩
   have HB5:=hide (Below.trans (Below.trans (Below.trans (un HBZ) (Below.setCell (Below.refl _ _) (un HOZ).low _)) hb3) hb4)
   have HO4:=hide ho4
   clear ho2 ho3 hb3 hb4 ho4 hrk
   go_wp2
   go_ret
   exact ⟨rfl,un HB5,fun _=>⟨V4,un HO4⟩⟩
 ·have hem:¬ ((popped s i).fibers.length=0∨(fibAt (popped s i) i).frames=[]):=fun h=>by
   have:=(un HEM).1 h
   have:=un HT
   omega
  have hR:=un HR
  rw [if_neg hem] at hR
  subst hR
  have hd:decide ((0:Int) < (t:Int))=true:=decide_eq_true (by omega)
  have hrun:=(un HRB) (by have:=un HT; omega)
  have HRUN:=hide hrun
  clear hem HC HRB HRK hrun HR
  go_wp2_with fail
  have hrun:=un HRUN
  refine (push_any base bs _ _ i z _ (un HOZ) hrun.lt hrun.fr hrun.frs hrun.st).mono ?_
  rintro e w4 ⟨rfl,V4,ho4,hb4⟩
  have HB5:=hide (Below.trans (un HBZ) hb4)
  have HO4:=hide ho4
  clear hb4 ho4 hrun
  go_wp2
  go_ret
  exact ⟨rfl,un HB5,fun _=>⟨V4,un HO4⟩⟩
theorem has_any (l:List Int) (v:Value) (n:Int) (w:World) (h1:IntsAt w v l) :
  Calls Tryd.prog 123 #[v,.int .i64 n] w fun e w'=>e=.returned (.bool (decide (n∈l)))∧Kept w w':=by
 obtain ⟨oa,ca,rfl,n1,i1⟩:=h1
 have HI1:=hide i1
 clear i1
 go_enter Tryd.func123,Tryd.ntmps123
 go_wp2
 go_loopw [5] (fun s5 wr=>∃ k:Nat,k≤l.length∧s5=.int .i64 k∧Hid (∀ i,i < k→l.getD i 0≠n)∧Hid (Kept w wr)) (fun s5 _=>l.length - (intOf s5).toNat)
 case atStart=>exact ⟨0,Nat.zero_le _,rfl,(fun i hi=>by omega),Kept.refl _⟩
 case round =>
  obtain ⟨k,hkm,rfl,HA,HKr⟩:=hrel
  by_cases hlt:k < l.length
  ·obtain ⟨b1,o1,e1,c1⟩:=(un HI1) k _ (getD_of_lt l k 0 hlt)
   have d1:=(un HKr).cell c1
   generalize hz1:l.getD k 0=z1 at *
   have Z1:=hide hz1
   subst e1
   clear c1 hz1
   by_cases hz:z1=n
   ·have hzb:(z1 == n)=true:=by rw [beq_iff_eq]; exact hz
    have HZ:=hide hz
    clear hz
    go_wp2
    go_ret
    refine ⟨?_,un HKr⟩
    rw [decide_eq_true]
    ·rfl
    ·rw [← un HZ,← un Z1]
     exact List.mem_of_getElem? (getD_of_lt l k 0 hlt)
   ·have hzb:(z1 == n)=false:=by rw [beq_eq_false_iff_ne]; exact hz
    have HZ:=hide hz
    clear hz
    go_wp2
    go_roundw
    case rel =>
     refine ⟨k + 1,by omega,by go_num,?_,HKr⟩
     intro i hi
     by_cases e:i=k
     ·subst e; rw [un Z1]; exact un HZ
     ·exact (un HA) i (by omega)
    case measure=>simp [intOf]; omega
  ·go_wp2
   go_ret
   refine ⟨?_,un HKr⟩
   rw [decide_eq_false]
   ·rfl
   ·intro hm
    obtain ⟨i,hi,rfl⟩:=List.getElem_of_mem hm
    exact (un HA) i (by omega) (by simp [List.getD,hi])
def LinePost (s:St) (w:World) (e:Ending) (w':World):Prop :=
 ∃ v b,e=.returned (.tuple #[v,.bool b])∧Kept w w'∧(match lineS s with | none=>b=false | some l=>b=true∧IntsAt w' v l)
def sliceLen:Value→Nat | .slice _ n _=>n | _=>0
theorem line_step (fs:List Fb) (k:Nat) (n:Int) (acc:List Int) (h0:¬ n < 0) (h:n ∉ acc):lineF fs (k + 1) n acc=lineF fs k (callerOf fs n) (acc++[n]):=by
 conv=>lhs; unfold lineF
 rw [if_neg h0,if_neg h]
theorem lineOf_any (s:St) (v:Value) (w:World) (hs:StAt w v s) (hnow:-1≤s.now∧s.now < s.fibers.length) (hcal:∀ b,b∈s.fibers→-1≤b.caller∧b.caller < s.fibers.length) (hlen:s.fibers.length≤1000) :
  Calls Tryd.prog 122 #[v] w fun e w'=>LinePost s w e w':=by
 obtain ⟨vf,vo,rfl,hf,ho⟩:=hs
 obtain ⟨oa,cap,rfl,_,hcell⟩:=hf
 obtain ⟨i0,hi0,hz0,hz1,hz2⟩:=info_parts infoInt
 have HC:=hide hcell
 have HCAL:=hide hcal
 have HNOW:=hide hnow
 clear hcell hcal ho
 generalize hN:s.fibers.length=N at *
 have HN:=hide hN
 clear hN
 obtain ⟨hnow1,hnow2⟩:=hnow
 go_enter Tryd.func122,Tryd.ntmps122
 go_wp2
 generalize hw0:w.alloc (.cells #[.slice oa N cap,.int .i64 s.now,vo] 52)=w0 at *
 have c0:w0.cell? ⟨w.heap.size,0,none⟩=some (.slice oa N cap):=by rw [← hw0]; simp
 have hk0:Kept w w0:=by rw [← hw0]; exact (Kept.refl w).alloc _
 have HK0:=hide hk0
 have C0:=hide c0
 clear hw0 c0 hk0
 go_loopw [4,5] (fun s4 s5 wr=>∃ (n:Int) (acc:List Int) (k:Nat),s5=.int .i64 n∧-1≤n∧n < N∧k + acc.length=N + 1∧Hid (wr.ownsRow w0.heap.size 3 1 s4 acc.length (ints acc))∧Hid (acc.Nodup)∧Hid (∀ z,z∈acc→0≤z∧z < N)∧Hid (lineF s.fibers k n acc=lineF s.fibers (N + 1) s.now [])∧Hid (Kept w0 wr)) (fun s4 _ _=>N + 1 - sliceLen s4)
 case atStart=>exact ⟨s.now,[],N + 1,rfl,hnow1,hnow2,by simp,World.ownsRow_nil _ _ _ _,List.nodup_nil,(fun z hz=>by cases hz),rfl,Kept.refl _⟩
 case round =>
  obtain ⟨n,acc,k,rfl,hn0,hn1,hka,HO,HND,HIN,HL,HK⟩:=hrel
  have hfew:=few (un HND) (un HIN)
  have hfw:acc.length≤N:=hfew
  have hk1:∃ k',k=k' + 1:=⟨k - 1,by omega⟩
  obtain ⟨k',rfl⟩:=hk1
  obtain ⟨os,cs,rfl,hrow⟩:=row_slice (un HO)
  have HR:=hide hrow
  clear hrow hfew
  by_cases hpos:0≤n
  ·have HPOS:=hide hpos
   go_wp2
   go_loopw [6] (fun s6 wq=>∃ q:Nat,q≤acc.length∧s6=.int .i64 q∧Hid (∀ i,i < q→acc.getD i 0≠n)∧Hid (wr=wq)) (fun s6 _=>acc.length - (intOf s6).toNat)
   case atStart=>exact ⟨0,Nat.zero_le _,rfl,(fun i hi=>by omega),rfl⟩
   case round =>
    obtain ⟨q,hqm,rfl,HA,HW⟩:=hrel
    have hwq:=un HW
    subst hwq
    clear HW
    by_cases hlt:q < acc.length
    ·obtain ⟨g,rfl,hc⟩:=(un HR).resolve_left (fun h=>by have:=h.2; omega)
     have hcq:=hc q (.int .i64 (acc.getD q 0)) (ints_get (getD_of_lt acc q 0 hlt))
     have HZI:=hide (getD_of_lt acc q 0 hlt)
     clear hc
     generalize hz1:acc.getD q 0=z at *
     have Z1:=hide hz1
     clear hz1
     by_cases hz:z=n
     ·have hzb:(z == n)=true:=by rw [beq_iff_eq]; exact hz
      have HZ:=hide hz
      clear hz
      go_wp2
      go_ret2
      refine ⟨_,_,rfl,(un HK0).trans (un HK),?_⟩
      have hin:n∈acc:=by rw [← un HZ]; exact List.mem_of_getElem? (un HZI)
      have hno:lineF s.fibers (k' + 1) n acc=none:=by
       unfold lineF; rw [if_neg (by have:=un HPOS; omega),if_pos hin]
      have hls:lineS s=none:=by
       unfold lineS; rw [un HN,← un HL,hno]
      rw [hls]
     ·have hzb:(z == n)=false:=by rw [beq_eq_false_iff_ne]; exact hz
      have HZ:=hide hz
      clear hz
      go_wp2
      go_roundw
      case rel =>
       refine ⟨q + 1,by omega,by go_num,?_,trivial⟩
       intro i hi
       by_cases e:i=q
       ·subst e; rw [un Z1]; exact un HZ
       ·exact (un HA) i (by omega)
      case measure=>simp [intOf]; omega
    ·have hna:n ∉ acc:=by
      intro hm
      obtain ⟨i,hi,rfl⟩:=List.getElem_of_mem hm
      exact (un HA) i (by omega) (by simp [List.getD,hi])
     have hni:n.toNat < s.fibers.length:=by have:=un HN; omega
     obtain ⟨bf,of,vfr,e1,k0,k1,_⟩:=(un HC) n.toNat _ (getD_of_lt s.fibers n.toNat Fb.zero hni)
     have hcr:=(un HCAL) _ (List.mem_of_getElem? (getD_of_lt s.fibers n.toNat Fb.zero hni))
     have hst:=line_step s.fibers k' n acc (by omega) hna
     have hce:(s.fibers.getD n.toNat Fb.zero).caller=callerOf s.fibers n:=rfl
     rw [hce] at k1 hcr
     generalize callerOf s.fibers n=m at *
     have HST:=hide hst
     have HNA:=hide hna
     have K1:=hide k1
     obtain ⟨m1,m2⟩:=hcr
     clear hst hna k0 k1 hce HR HA HCAL HC
     subst e1
     have hown:=un HO
     have hbase:=(un HK).size
     go_wp2_with (at_builtin; refine wpList_append_own _ rfl _ _ 23 rfl w0.heap.size 3 i0 (.int .i64 0) 1 8 Tryd.underlying23 hi0 hz0 hz1 hz2 rfl (by decide) _ _ _ rfl (hown.alloc _) ⟨wr.heap.size,0,none⟩ 1 1 [.int .i64 n] rfl rfl (new_one _ _ _) (int_one _) (by unfold maxLen; omega) (by omega) (by simp; omega) ?_; intro v' w7 hown' hgrow _; have hk7:Kept w0 w7:=Below.grown ((un HK).alloc _) hgrow (by simp; omega) (row_low hown); have HK7:=hide hk7; have HO7:=hide hown'; have cb:=hk7.cell (un C0); have cc:=hk7.cell ((un HK0).cell (un K1)); clear hk7 hown' hgrow hown K1)
     go_roundw
     case rel =>
      refine ⟨m,acc++[n],k',rfl,m1,m2,by simp; omega,?_,?_,?_,?_,HK7⟩
      ·show World.ownsRow _ _ _ _ _ _ _
       rw [ints_append,List.length_append]
       exact un HO7
      ·show List.Nodup _
       rw [List.nodup_append]
       refine ⟨un HND,by simp,?_⟩
       intro a ha b hb e
       simp at hb
       subst hb e
       exact (un HNA) ha
      ·intro z hz
       rcases List.mem_append.1 hz with hz | hz
       ·exact (un HIN) z hz
       ·simp at hz; subst hz; exact ⟨by omega,hn1⟩
      ·exact (un HST).symm.trans (un HL)
     case measure =>
      obtain ⟨o7,c7,e7,_⟩:=row_slice (un HO7)
      subst e7
      simp [sliceLen]
      omega
  ·have hls:lineF s.fibers (N + 1) s.now []=some acc:=by
    rw [← un HL]
    unfold lineF
    rw [if_pos (by omega)]
   have HLS:=hide hls
   clear hls
   by_cases hz:acc=[]
   ·subst hz
    have hzb:(((0:Nat):Int) == 0)=true:=rfl
    go_wp2
    go_quiet (fail)
    go_wp2
    go_ret2
    refine ⟨_,_,rfl,((un HK0).trans (un HK)).drewN _,?_⟩
    have:lineS s=some []:=by
     unfold lineS; rw [un HN,un HLS]; rfl
    rw [this]
    exact ⟨rfl,os,cs,rfl,by simp,fun i z h=>by simp at h⟩
   ·have hpos:0 < acc.length:=List.length_pos_iff.2 hz
    obtain ⟨g,rfl,hc⟩:=(un HR).resolve_left (fun h=>by have:=h.2; omega)
    have hlt:acc.length - 1 < acc.length:=by omega
    have hcq:=hc (acc.length - 1) (.int .i64 (acc.getD (acc.length - 1) 0)) (ints_get (getD_of_lt acc _ 0 hlt))
    have hla:acc.getLast?=some (acc.getD (acc.length - 1) 0):=by
     rw [List.getLast?_eq_getElem?]; exact getD_of_lt acc _ 0 hlt
    have HLA:=hide hla
    have HZ0:=hide hz
    have hia:IntsAt wr (.slice (some ⟨g,0,none⟩) acc.length cs) acc:=⟨_,cs,rfl,by omega,fun i z hz=>⟨g,0,rfl,by rw [Nat.zero_add]; exact hc i _ (ints_get hz)⟩⟩
    have HIA:=hide hia
    have hlb:((acc.length:Int) == 0)=false:=by rw [beq_eq_false_iff_ne]; omega
    clear hla hz hc hia
    generalize hzz:acc.getD (acc.length - 1) 0=z at *
    clear hzz
    generalize hml:acc.length=m at *
    have HML:=hide hml
    clear hml
    by_cases hz:z=0
    ·subst hz
     have hzb:((0:Int) == 0)=true:=rfl
     go_wp2
     go_quiet (fail)
     go_wp2
     go_ret2
     refine ⟨_,_,rfl,((un HK0).trans (un HK)).drewN _,?_⟩
     have:lineS s=some acc:=by
      unfold lineS; rw [un HN,un HLS]
      simp only
      rw [if_pos (.inr (un HLA))]
     rw [this]
     exact ⟨rfl,(un HIA).kept ((Kept.refl _).drewN _)⟩
    ·have hzb:(z == 0)=false:=by rw [beq_eq_false_iff_ne]; exact hz
     have HZ:=hide hz
     clear hz
     go_wp2
     go_quiet (fail)
     go_wp2
     go_ret2
     refine ⟨_,_,rfl,((un HK0).trans (un HK)).drewN _,?_⟩
     have:lineS s=none:=by
      unfold lineS; rw [un HN,un HLS]
      simp only
      rw [if_neg]
      rintro (h | h)
      ·exact (un HZ0) h
      ·rw [un HLA] at h; exact (un HZ) (by simpa using h)
     rw [this]
theorem pull_facts {s:St} {i:Nat} (hn:s.now=i) (hi:i < s.fibers.length) (hf:0 < (fibAt s i).frames.length) :
  (pullV s).fibers.length=s.fibers.length∧(pullV s).now=i∧(pullV s).out=s.out∧(∀ k,(fibAt (pullV s) k).caller=(fibAt s k).caller)∧(∀ k,(fibAt (pullV s) k).frames.length=(fibAt s k).frames.length) ∧
  (frAt (pullV s) i ((fibAt s i).frames.length - 1)).stack=(frAt s i ((fibAt s i).frames.length - 1)).stack.dropLast∧(∀ k,k≠i→fibAt (pullV s) k=fibAt s k):=by
 have hps:=pullV_setFr hn
 refine ⟨by rw [hps]; exact setFib_len _ _ _,by rw [hps]; exact hn,by rw [hps]; rfl,fun k=>by rw [hps,setFr_caller _ hi],fun k=>by rw [hps]; exact setFr_frames _ hi k,?_,fun k hk=>by rw [hps]; exact setFr_other _ (fun e=>hk e.symm)⟩
 rw [hps,frAt_same _ hi (by omega)]
theorem Runs.pull {s:St} {i:Nat} (h:Runs s i) (hn:s.now=i):Runs (pullV s) i:=by
 obtain ⟨h1,_,_,_,h5,h6,_⟩:=pull_facts hn h.lt h.fr
 refine ⟨by rw [h1]; exact h.lt,by rw [h5]; exact h.fr,by rw [h5]; exact h.frs,?_⟩
 rw [h5,h6,List.length_dropLast]
 have:=h.st
 omega
theorem pull_line {s:St} {i:Nat} (hn:s.now=i) (hi:i < s.fibers.length) (hf:0 < (fibAt s i).frames.length) (k:Nat) (n:Int) (acc:List Int):lineF (pullV s).fibers k n acc=lineF s.fibers k n acc:=by
 obtain ⟨_,_,_,h4,_⟩:=pull_facts hn hi hf
 exact lineF_congr (fun n=>h4 n.toNat) k n acc
structure Fits (s:St):Prop where
 fibers:s.fibers.length≤1000
 out:s.out.length≤30
 frames:∀ i,i < s.fibers.length→(fibAt s i).frames.length≤1000
 locals:∀ i j,i < s.fibers.length→j < (fibAt s i).frames.length→(frAt s i j).locals.length≤1000
 stack:∀ i j,i < s.fibers.length→j < (fibAt s i).frames.length→(frAt s i j).stack.length≤1000
theorem Fits.small {s:St} (h:Fits s):Small s:=by
 refine ⟨h.fibers,by have:=h.out; omega,fun b hb=>?_⟩
 obtain ⟨i,hi,rfl⟩:=List.getElem_of_mem hb
 have hbi:fibAt s i=s.fibers[i]:=by simp [fibAt,List.getD,hi]
 refine ⟨by rw [← hbi]; exact h.frames i hi,fun f hf=>?_⟩
 obtain ⟨j,hj,rfl⟩:=List.getElem_of_mem hf
 have hj':j < (fibAt s i).frames.length:=by rw [hbi]; exact hj
 have hfj:frAt s i j=s.fibers[i].frames[j]:=by unfold frAt; rw [hbi]; simp [List.getD,hj]
 rw [← hfj]
 exact ⟨h.locals i j hi hj',h.stack i j hi hj'⟩
theorem Fits.pull {s:St} {i:Nat} (h:Fits s) (hn:s.now=i) (hi:i < s.fibers.length) (hf:0 < (fibAt s i).frames.length):Fits (pullV s):=by
 obtain ⟨h1,_,h3,_,h5,h6,h7⟩:=pull_facts hn hi hf
 have hps:=pullV_setFr hn
 have hfr:∀ a b,(frAt (pullV s) a b).locals=(frAt s a b).locals∧(frAt (pullV s) a b).stack.length≤(frAt s a b).stack.length:=fun a b=>by
  by_cases e:i=a∧(fibAt s i).frames.length - 1=b
  ·obtain ⟨rfl,rfl⟩:=e
   rw [hps,frAt_same _ hi (by omega)]
   exact ⟨rfl,by simp⟩
  ·rw [hps,frAt_ne _ hi e]; exact ⟨rfl,Nat.le_refl _⟩
 refine ⟨by rw [h1]; exact h.fibers,by rw [h3]; exact h.out,fun a ha=>?_,fun a b ha hb=>?_,fun a b ha hb=>?_⟩
 ·rw [h5]; rw [h1] at ha; exact h.frames a ha
 ·rw [(hfr a b).1]; rw [h1] at ha; rw [h5] at hb; exact h.locals a b ha hb
 ·rw [h1] at ha; rw [h5] at hb; exact Nat.le_trans (hfr a b).2 (h.stack a b ha hb)
theorem resumedS_eq {s:St} {i:Nat} (hn:s.now=i) (hr:Runs s i) {l:List Int} (hl:lineS s=some l):resumedS s =
  if ixB (lastV (pullV s)) s.fibers.length=true then
   (if lastV (pullV s)∈l∨((pullV (pullV s)).fib (lastV (pullV s))).frames=[] then (St.zero,6)
    else if ({ ((pullV (pullV s)).turn (lastV (pullV s)) fun b=>{ b with caller:=(i:Int) }) with now:=lastV (pullV s) }:St).top.at_=0
     then (({ ((pullV (pullV s)).turn (lastV (pullV s)) fun b=>{ b with caller:=(i:Int) }) with now:=lastV (pullV s) }:St).turnTop (lastV (pullV s)) fun f=>{ f with locals:=f.locals.set 0 (lastV s) },0)
     else (pushV { ((pullV (pullV s)).turn (lastV (pullV s)) fun b=>{ b with caller:=(i:Int) }) with now:=lastV (pullV s) } (lastV (pullV s)) (lastV s),0))
  else (St.zero,5):=by
 obtain ⟨a1,a2,_⟩:=pull_facts hn hr.lt hr.fr
 have hr1:=hr.pull hn
 obtain ⟨b1,b2,_⟩:=pull_facts a2 hr1.lt hr1.fr
 have hlf:lineF s.fibers (s.fibers.length + 1) s.now []=some l:=by
  unfold lineS at hl
  cases hx:lineF s.fibers (s.fibers.length + 1) s.now [] with
  | none=>rw [hx] at hl; cases hl
  | some l' =>
   rw [hx] at hl
   simp only at hl
   split at hl
   ·cases hl; rfl
   ·cases hl
 unfold resumedS
 simp only
 rw [b1,a1,b2,pull_line a2 hr1.lt hr1.fr,pull_line hn hr.lt hr.fr,← hn,hlf]
 rfl
theorem resumed_any (base bs:Nat) (V:Key→Value) (s:St) (i:Nat) (w:World) (l:List Int) (h:OwnVar base w bs V s) (hn:s.now=i) (hr:Runs s i) (hst2:1 < (frAt s i ((fibAt s i).frames.length - 1)).stack.length)
  (hft:Fits s) (hcal:∀ b,b∈s.fibers→-1≤b.caller∧b.caller < s.fibers.length) (hl:lineS s=some l) (hil:(i:Int)∈l)
  (hloc:∀ k:Nat,k < s.fibers.length→(k:Int) ∉ l→0 < (fibAt s k).frames.length→(frAt s k ((fibAt s k).frames.length - 1)).at_=0→0 < (frAt s k ((fibAt s k).frames.length - 1)).locals.length) :
  Calls Tryd.prog 95 #[.pointer (some ⟨bs,0,none⟩)] w fun e w'=>EndPost base bs (resumedS s) w e w':=by
 have hpl:=pull_any base bs V s i w h hn hr.lt hr.fr hr.frs hr.st (by omega)
 obtain ⟨a1,a2,a3,a4,a5,a6,a7⟩:=pull_facts hn hr.lt hr.fr
 have hr1:=hr.pull hn
 obtain ⟨b1,b2,b3,b4,b5,b6,b7⟩:=pull_facts a2 hr1.lt hr1.fr
 have hst1:0 < (frAt (pullV s) i ((fibAt (pullV s) i).frames.length - 1)).stack.length:=by
  rw [a5,a6,List.length_dropLast]; omega
 have hpl2:=fun (V':Key→Value) (u:World) (hu:OwnVar base u bs V' (pullV s))=>pull_any base bs V' (pullV s) i u hu a2 hr1.lt hr1.fr hr1.frs hr1.st hst1
 have hft2:Fits (pullV (pullV s)):=(hft.pull hn hr.lt hr.fr).pull a2 hr1.lt hr1.fr
 have hlen2:(pullV (pullV s)).fibers.length=s.fibers.length:=by rw [b1,a1]
 have hcal2:∀ k,k < s.fibers.length→-1≤(fibAt (pullV (pullV s)) k).caller∧(fibAt (pullV (pullV s)) k).caller < s.fibers.length:=fun k hk=>by
  rw [b4,a4]
  exact hcal _ (List.mem_of_getElem? (getD_of_lt s.fibers k Fb.zero hk))
 have hline2:lineS (pullV (pullV s))=some l:=by
  unfold lineS at hl ⊢
  rw [b1,a1,b2,pull_line a2 hr1.lt hr1.fr,pull_line hn hr.lt hr.fr,← hn]
  exact hl
 have hoth2:∀ k,k≠i→fibAt (pullV (pullV s)) k=fibAt s k:=fun k hk=>by rw [b7 k hk,a7 k hk]
 rw [resumedS_eq hn hr hl]
 generalize hs2:pullV (pullV s)=s2 at *
 generalize hv:lastV s=v at *
 generalize hnn:lastV (pullV s)=n at *
 generalize hR:(if ixB n s.fibers.length=true then (if n∈l∨(s2.fib n).frames=[] then (St.zero,(6:Int)) else if ({ (s2.turn n fun b=>{ b with caller:=(i:Int) }) with now:=n }:St).top.at_=0 then (({ (s2.turn n fun b=>{ b with caller:=(i:Int) }) with now:=n }:St).turnTop n fun f=>{ f with locals:=f.locals.set 0 v },0) else (pushV { (s2.turn n fun b=>{ b with caller:=(i:Int) }) with now:=n } n v,0)) else (St.zero,5))=R
 have HR:=hide hR
 have HPL:=hide hpl
 have HPL2:=hide hpl2
 have HFT:=hide hft2
 have HCAL:=hide hcal2
 have HLN:=hide hline2
 have HOT:=hide hoth2
 have HLOC:=hide hloc
 have HIL:=hide hil
 have hlt:=hr.lt
 have hL5:=hft.fibers
 have hnow2:s2.now=i:=b2
 clear hR hpl hpl2 hft hft2 hcal hcal2 hl hline2 hloc hil h hr hr1 hst1 hst2 a3 a4 a5 a6 a7 b3 b4 b5 b6 b7 hoth2 b2
 generalize hL:s.fibers.length=L at *
 go_enter Tryd.func95,Tryd.ntmps95
 go_wp2_with fail
 refine (un HPL).mono ?_
 rintro e w1 ⟨rfl,V1,ho1,hb1⟩
 have hp2:=(un HPL2) V1 w1 ho1
 have HP2:=hide hp2
 have HB1:=hide hb1
 clear hp2 ho1 hb1 HPL HPL2
 go_wp2_with fail
 refine (un HP2).mono ?_
 rintro e w2 ⟨rfl,V2,ho2,hb2⟩
 obtain ⟨c0,c1,c2,fz⟩:=ho2.cells
 obtain ⟨gF,capF,eF,hcF,_,_,fzF,hbF⟩:=ho2.own.fib (i:=i) (by rw [hlen2]; exact hlt)
 rw [eF,hlen2] at c0
 rw [hnow2] at c1
 have HO2:=hide ho2
 have HB2:=hide (Below.trans (un HB1) hb2)
 have HEF:=hide eF
 clear ho2 hb2 eF HP2 HB1
 have hwl:IntKind.i64.wrap ((L:Int) - 1)=(L:Int) - 1:=by rw [IntKind.wrap_i64]; omega
 have hwb:=inB_ixB n L
 by_cases hix:ixB n L=true
 ·rw [hix] at hwb
  obtain ⟨k,hk⟩:∃ k:Nat,n=k:=⟨n.toNat,by have:=ixB_iff.1 hix; omega⟩
  have hkL:k < L:=by have:=ixB_iff.1 hix; omega
  have hR:=un HR
  rw [if_pos hix] at hR
  subst hk
  have hrd:=(un HO2).own.reads (un HFT).small
  rw [un HEF,hlen2,hnow2] at hrd
  have hln:=lineOf_any s2 _ w2 hrd (by rw [hnow2,hlen2]; omega) (fun b hb=>by
   obtain ⟨q,hq,rfl⟩:=List.getElem_of_mem hb
   have:=(un HCAL) q (by rw [← hlen2]; exact hq)
   have e:fibAt s2 q=s2.fibers[q]:=by simp [fibAt,List.getD,hq]
   rw [e] at this
   rw [hlen2]; exact this) (by rw [hlen2]; omega)
  unfold LinePost at hln
  rw [un HLN] at hln
  have HLO:=hide hln
  have HR1:=hide hR
  clear hrd hln hR hix HCAL HR
  go_wp2_with (first | (go_at_call 26; refine (within_any _ _ _ _).mono ?_; rw [hwb]; rintro e w' ⟨rfl,rfl⟩) | (go_at_call 122; refine (un HLO).mono ?_; rintro e w3 ⟨vl,bl,rfl,hk3,rfl,hil3⟩; have HK3:=hide hk3; have HI3:=hide hil3; clear hk3 hil3))
  have hha:=has_any l vl k w3 (un HI3)
  by_cases hin:(k:Int)∈l
  ·rw [decide_eq_true hin] at hha
   have hR:=un HR1
   rw [if_pos (.inl hin)] at hR
   subst hR
   refine hha.mono ?_
   rintro e w4 ⟨rfl,hk4⟩
   have HB4:=hide (Below.trans (un HB2) ((un HO2).below ((un HK3).trans hk4)))
   clear hha hk4 hin
   go_wp2
   go_ret
   exact ⟨rfl,un HB4,fun e=>by cases e⟩
  ·rw [decide_eq_false hin] at hha
   have HNI:=hide hin
   refine hha.mono ?_
   rintro e w4 ⟨rfl,hk4⟩
   have hk24:=(un HK3).trans hk4
   have ho4:=(un HO2).kept hk24
   have hb4:=Below.trans (un HB2) ((un HO2).below hk24)
   have hki:k≠i:=fun e=>hin (by rw [e]; exact un HIL)
   obtain ⟨d0,d1,_,dz⟩:=ho4.cells
   obtain ⟨gF',capF',eF',_,q0,q1,qz,_⟩:=ho4.own.fib (i:=k) (by rw [hlen2]; exact hkL)
   rw [un HEF] at eF' d0
   obtain ⟨⟨rfl⟩,-,rfl⟩:=(by simpa using eF':(gF=gF')∧True∧capF=capF')
   rw [hlen2] at d0
   rw [hnow2] at d1
   obtain ⟨xs,hrow,-⟩:=ho4.own.piece (.frames k) (by show k < s2.fibers.length; rw [hlen2]; exact hkL)
   obtain ⟨ofr,cfr,efr,-⟩:=row_slice hrow
   rw [efr] at q0
   have hfq:fibAt s2 k=fibAt s k:=(un HOT) k hki
   have hne:¬ gF=bs:=fun e=>ho4.off .fibers trivial (by rw [un HEF,← e]; rfl)
   have hne':¬ bs=gF:=fun e=>hne e.symm
   have hk1:(k:Int) < (L:Int):=by omega
   have hkz:(0:Int)≤(k:Int):=by omega
   have hR:=un HR1
   have HO4:=hide ho4
   have HB4:=hide hb4
   have zF:=qz (k * 2 + 1)
   have z1:=dz 1
   rw [hfq] at q0
   generalize hqq:(fibAt s k).frames.length=q at *
   have HQ:=hide hqq
   clear hha hk4 hin hk24 ho4 hb4 eF' hrow dz qz c0 c1 c2 fz fzF hqq xs
   by_cases hq0:q=0
   ·subst hq0
    have hemp:(s2.fib (k:Int)).frames=[]:=by
     rw [fib_fibAt,hfq]; exact List.length_eq_zero_iff.1 (un HQ)
    rw [if_pos (.inr hemp)] at hR
    subst hR
    clear hemp
    go_wp2
    go_ret
    exact ⟨rfl,un HB4,fun e=>by cases e⟩
   ·have hqb:((q:Int) == 0)=false:=by rw [beq_eq_false_iff_ne]; omega
    have hnemp:¬ ((k:Int)∈l∨(s2.fib (k:Int)).frames=[]):=by
     rintro (e | e)
     ·exact (un HNI) e
     ·rw [fib_fibAt,hfq] at e
      have:=congrArg List.length e
      rw [un HQ] at this
      exact hq0 this
    rw [if_neg hnemp] at hR
    have HR2:=hide hR
    clear hR hnemp HR1
    go_wp2
    go_region
    generalize hwz:(w4.setCell ⟨gF,k * 2 + 1,none⟩ (.int .i64 i)).drew=wz
    have hk2:k < s2.fibers.length:=by rw [hlen2]; exact hkL
    obtain ⟨ho5,hb5⟩:=(un HO4).setCaller hk2 (un HEF) (i:Int)
    have hoz:OwnVar base wz bs V2 (setFib s2 k { fibAt s2 k with caller:=(i:Int) }):=by rw [← hwz]; exact OwnVar.same ho5 rfl
    have hbz:Below base w wz:=by rw [← hwz]; exact Below.drew (Below.trans (un HB4) hb5)
    obtain ⟨x0,x1,_,xz⟩:=hoz.cells
    have z1':=xz 1
    have ho6:=hoz.setNow (k:Int)
    have hb6:Below base w (wz.setCell ⟨bs,1,none⟩ (.int .i64 k)):=Below.trans hbz (Below.setCell (Below.refl _ _) hoz.low _)
    have hf4:fibAt { (setFib s2 k { fibAt s2 k with caller:=(i:Int) }) with now:=(k:Int) } k={ fibAt s2 k with caller:=(i:Int) }:=fibAt_same _ hk2
    have hfl4:(fibAt { (setFib s2 k { fibAt s2 k with caller:=(i:Int) }) with now:=(k:Int) } k).frames.length=q:=by rw [hf4]; show (fibAt s2 k).frames.length=q; rw [hfq]; exact un HQ
    have hl4:k < ({ (setFib s2 k { fibAt s2 k with caller:=(i:Int) }) with now:=(k:Int) }:St).fibers.length:=by show k < (setFib s2 k _).fibers.length; rw [setFib_len]; exact hk2
    have hq1000:q≤1000:=by have:=(un HFT).frames k hk2; rw [hfq,un HQ] at this; exact this
    obtain ⟨g,cap,eg,htop⟩:=top_own ho6 (i:=k) hl4 (by rw [hfl4]; omega) (by rw [hfl4]; omega)
    have hR:=un HR2
    rw [turn_setFib] at hR
    have HOZ:=hide hoz
    have HO6:=hide ho6
    have HB6:=hide hb6
    have HTOP:=hide htop
    have HEG:=hide eg
    have HR3:=hide hR
    have HF4:=hide hf4
    have HFL4:=hide hfl4
    have HL4:=hide hl4
    clear hwz ho5 hb5 hoz hbz ho6 hb6 htop hR hf4 xz d0 d1 q0 q1 zF z1 HR2 eg hl4 hfl4
    go_wp2_with fail
    refine (un HTOP).mono ?_
    rintro e w7 ⟨rfl,m,rfl⟩
    generalize hw7:(wz.setCell ⟨bs,1,none⟩ (.int .i64 k)).drewN m=w7
    have ho7:OwnVar base w7 bs V2 { (setFib s2 k { fibAt s2 k with caller:=(i:Int) }) with now:=(k:Int) }:=(un HO6).same (by rw [← hw7]; rfl)
    have hb7:Below base w w7:=by rw [← hw7]; exact below_drewN (un HB6) m
    have hfl4:=un HFL4
    have htat:({ (setFib s2 k { fibAt s2 k with caller:=(i:Int) }) with now:=(k:Int) }:St).top=frAt { (setFib s2 k { fibAt s2 k with caller:=(i:Int) }) with now:=(k:Int) } k (q - 1):=by
     unfold St.top
     show (St.fib _ (k:Int)).top=_
     rw [fib_fibAt,top_frAt,hfl4]
    have htr:frAt { (setFib s2 k { fibAt s2 k with caller:=(i:Int) }) with now:=(k:Int) } k (q - 1)=frAt s k ((fibAt s k).frames.length - 1):=by
     unfold frAt
     rw [un HF4]
     show (fibAt s2 k).frames.getD (q - 1) Fr.zero=_
     rw [hfq,un HQ]
    have hR:=un HR3
    rw [htat] at hR
    obtain ⟨g',cap',eg',_,_,f1,f2,f3,ffz,_⟩:=ho7.own.fr (un HL4) (j:=q - 1) (by rw [hfl4]; omega)
    rw [un HEG] at eg'
    obtain ⟨⟨rfl⟩,-,rfl⟩:=(by simpa using eg':(g=g')∧True∧cap=cap')
    have hlo:=ho7.own.loc (un HL4) (j:=q - 1) (by rw [hfl4]; omega)
    have hrun:Runs { (setFib s2 k { fibAt s2 k with caller:=(i:Int) }) with now:=(k:Int) } k:=by
     refine ⟨un HL4,by rw [hfl4]; omega,by rw [hfl4]; omega,?_⟩
     rw [hfl4,htr]
     have:=(un HFT).stack k (q - 1) hk2 (by rw [hfq,un HQ]; omega)
     have e:frAt s2 k (q - 1)=frAt s k ((fibAt s k).frames.length - 1):=by unfold frAt; rw [hfq,un HQ]
     rw [e] at this; exact this
    have hlc:(frAt s k ((fibAt s k).frames.length - 1)).at_=0→0 < (frAt s k ((fibAt s k).frames.length - 1)).locals.length:=(un HLOC) k hkL (un HNI) (by rw [un HQ]; omega)
    rw [← htr] at hlc
    generalize hs4:({ (setFib s2 k { fibAt s2 k with caller:=(i:Int) }) with now:=(k:Int) }:St)=s4 at *
    have HO7:=hide ho7
    have HB7:=hide hb7
    have HRN:=hide hrun
    clear hw7 ho7 hb7 eg' htat htr hrun HTOP HO6 HB6 HOZ HF4 hs4 HR3
    by_cases hat:(frAt s4 k (q - 1)).at_=0
    ·rw [if_pos hat] at hR
     obtain ⟨gl,cl,el,_,hcl,hfl,_⟩:=row_some hlo (hlc hat)
     rw [hat] at f1
     rw [el] at f2
     have hcell0:∃ u,w7.cell? ⟨gl,0,none⟩=some u:=⟨_,hcl 0 _ (ints_at (getD_of_lt _ 0 0 (hlc hat)))⟩
     obtain ⟨u0,hu0⟩:=hcell0
     have hz0:=hfl 0
     have hn1:(0:Int) < ((frAt s4 k (q - 1)).locals.length:Int):=by have:=hlc hat; omega
     have hfin:=(un HO7).setLocal (un HRN).lt (j:=q - 1) (q:=0) (by rw [hfl4]; omega) el v
     have HFIN:=hide hfin
     have HR4:=hide hR
     clear hR hfin hcl hfl hlo el
     go_wp2
     go_ret
     have hfin:=un HFIN
     refine ⟨by rw [← un HR4]; rfl,Below.trans (un HB7) hfin.2,fun _=>⟨V2,?_⟩⟩
     rw [← un HR4,turnTop_setFr,hfl4]
     exact hfin.1
    ·rw [if_neg hat] at hR
     have hab:((frAt s4 k (q - 1)).at_ == 0)=false:=by rw [beq_eq_false_iff_ne]; exact hat
     subst hR
     have hrun:=un HRN
     have hpush:=push_any base bs V2 s4 k v w7 (un HO7) hrun.lt hrun.fr hrun.frs hrun.st
     have HPU:=hide hpush
     clear hpush hrun hat hlo hlc
     go_wp2_with (go_at_call 91; refine (un HPU).mono ?_; rintro e w8 ⟨rfl,V8,ho8,hb8⟩; have HO8:=hide ho8; have HB8:=hide hb8; clear ho8 hb8)
     go_ret
     exact ⟨rfl,Below.trans (un HB7) (un HB8),fun _=>⟨V8,un HO8⟩⟩
 ·have hif:ixB n L=false:=by simpa using hix
  rw [hif] at hwb
  have hR:=un HR
  rw [if_neg hix] at hR
  subst hR
  clear hix hif
  go_wp2_with (go_at_call 26; refine (within_any _ _ _ _).mono ?_; rw [hwb]; rintro e w' ⟨rfl,rfl⟩)
  go_ret
  exact ⟨rfl,un HB2,fun e=>by cases e⟩
end Go.Proofs.YtogcfkmekdpmmaaDoor
