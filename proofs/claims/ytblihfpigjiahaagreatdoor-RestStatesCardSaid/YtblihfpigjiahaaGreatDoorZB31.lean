/- StepB, StepC, StepD, StateC, StepE -/
import Derived.Test.YtblihfpigjiahaaGreatDoorZB30
import Derived.StillTailTactics
import Derived.Test.YtblihfpigjiahaaGreatDoorZB12
import Derived.Test.YtblihfpigjiahaaGreatDoorZB17
import Derived.Test.YtblihfpigjiahaaGreatDoorZB01
set_option maxRecDepth 100000
set_option maxHeartbeats 8000000
namespace Go.Proofs.YtblihfpigjiahaaGreatDoor
open Go.RowKit
def Pulled (base bs:Nat) (s':St) (r:Value) (V:Key→Value) (i:Nat) (w:World) (e:Ending) (w':World):Prop :=
 e=.returned r∧∃ V',OwnVar base w' bs V' s'∧Below base w w'∧V' (.frames i)=V (.frames i)∧(∀ k,(V' k).ownBlock=(V k).ownBlock)∧∀ b,(V (.frames i)).ownBlock≠some b→w'.heap[b]?=w.heap[b]?
theorem Kj (base bs:Nat) (V:Key→Value) (s:St) (i:Nat) (w:World) (h:OwnVar base w bs V s) (hn:s.now=i) (hi:i < s.fibers.length) (hq:0 < (Za s i).frames.length) (hqs:(Za s i).frames.length≤1000) (hst:(frAt s i ((Za s i).frames.length - 1)).stack.length≤1000) (hst0:0 < (frAt s i ((Za s i).frames.length - 1)).stack.length) :
  Calls Tryz.prog 105 #[.pointer (some ⟨bs,0,none⟩)] w fun e w'=>Pulled base bs (Zc s) (.int .i64 (Zh s)) V i w e w':=by
 obtain ⟨g,cap,eg,htop⟩:=Qs h hi hq hqs
 have hlast:Zh s=(frAt s i ((Za s i).frames.length - 1)).stack.getD ((frAt s i ((Za s i).frames.length - 1)).stack.length - 1) 0:=by
  unfold Zh St.top St.fib
  rw [hn,Int.toNat_natCast,show s.fibers.getD i Fb.zero=Za s i from rfl,top_frAt,List.getLast?_eq_getElem?]
  rfl
 have hpull:Zc s=Xl s i ((Za s i).frames.length - 1) { frAt s i ((Za s i).frames.length - 1) with stack:=(frAt s i ((Za s i).frames.length - 1)).stack.dropLast }:=by
  unfold Zc
  rw [hn,Jm]
 rw [hpull]
 generalize hzz:Zh s=z at *
 clear hpull hzz
 generalize hj:(Za s i).frames.length - 1=j at *
 have hjl:j < (Za s i).frames.length:=by omega
 obtain ⟨_,c1,_,_⟩:=h.cells
 rw [hn] at c1
 have HT:=hide htop
 have HO:=hide h
 have HEG:=hide eg
 clear htop h
 go_enter Tryz.func105,Tryz.ntmps105
 go_wp2_with fail
 refine (un HT).mono ?_
 rintro e w1 ⟨rfl,m,rfl⟩
 generalize hw1:w.drewN m=w1
 have ho1:OwnVar base w1 bs V s:=(un HO).same (by rw [← hw1]; rfl)
 have hb1:Below base w w1:=by rw [← hw1]; exact below_drewN (Below.refl _ w) m
 have HSM:Hid (w1.heap=w.heap):=by rw [← hw1]; exact hide rfl
 obtain ⟨g',cap',eg',_,f0,f1,f2,f3,ffz,hbg⟩:=ho1.own.fr hi hjl
 rw [un HEG] at eg'
 obtain ⟨⟨rfl⟩,-,rfl⟩:=(by simpa using eg':(g=g')∧True∧cap=cap')
 have hs:=ho1.own.stk hi hjl
 obtain ⟨gs,cs,es,hcs,hcell,_,_⟩:=Jr hs hst0
 have hfz:=ffz (j * 4 + 3)
 have HO1:=hide ho1
 have HB1:=hide hb1
 rw [es] at f3 hs
 have HS:=hide hs
 have HES:=hide es
 have hlt:(frAt s i j).stack.length - 1 < (frAt s i j).stack.length:=by omega
 have hcl:=hcell ((frAt s i j).stack.length - 1) (.int .i64 ((frAt s i j).stack.getD ((frAt s i j).stack.length - 1) 0)) (ints_at (Zm _ _ 0 hlt))
 generalize hl:(frAt s i j).stack=l at *
 have HL:=hide hl
 obtain ⟨t,ht⟩:∃ t,l.length=t + 1:=⟨l.length - 1,by omega⟩
 rw [← hlast] at hcl
 rw [ht] at f3 hcl
 simp only [Nat.add_sub_cancel] at hcl
 have hw:IntKind.i64.wrap ((t:Int) + 1 - 1)=(t:Int):=by rw [IntKind.wrap_i64]; omega
 have hts:(t:Int) + 1 - 1=(t:Int):=by omega
 have ht1:(t:Int) < (t:Int) + 1:=by omega
 have ht0:(0:Int)≤(t:Int):=by omega
 have htc:(t:Int)≤(cs:Int):=by omega
 have HTL:=hide ht
 clear hw1 hb1 ho1 es hl hs f0 f1 f2 ffz eg' hcell hlast
 go_wp2
 go_quiet (fail)
 go_wp2
 generalize hw3:w1.drewN nq=w3
 have ho3:OwnVar base w3 bs V s:=(un HO1).same (by rw [← hw3]; rfl)
 have k3:w3.cell? ⟨g,j * 4 + 3,none⟩=some (.slice (some ⟨gs,0,none⟩) (t + 1) cs):=by rw [← hw3]; exact f3
 have kz:w3.frozen? ⟨g,j * 4 + 3,none⟩=false:=by rw [← hw3]; exact hfz
 have HB3:Hid (Below base w w3):=by rw [← hw3]; exact hide (below_drewN (un HB1) nq)
 have HSM3:Hid (w3.heap=w.heap):=by rw [← hw3]; exact hide (un HSM)
 have HO3:=hide ho3
 clear hw3 ho3 f3 hfz hcl HB1 HO1
 go_region
 all_goals go_wp2_with fail
 go_ret
 have hdl:l.dropLast=l.take t:=by rw [List.dropLast_eq_take,un HTL,Nat.add_sub_cancel]
 have hrow:w3.ownsRow base 3 1 (.slice (some ⟨gs,0,none⟩) t cs) (l.take t).length (ints (l.take t)):=by
  have h3:=(un HO3).own.stk hi hjl
  rw [un HES,un HL] at h3
  have hlt':(l.take t).length=t:=by rw [List.length_take]; have:=un HTL; omega
  rw [hlt']
  exact row_cut h3 rfl t (by have:=un HTL; omega)
 have hfin:=(un HO3).turnStack (w2:=w3) hi hjl (un HEG) (.slice (some ⟨gs,0,none⟩) t cs) (l.take t) (grown_refl _ _) hrow (.inl (by rw [un HES]; rfl))
 unfold Pulled
 refine ⟨rfl,upd V (.stack i j) (.slice (some ⟨gs,0,none⟩) t cs),?_,?_,Zl V _ (by simp),fun k=>?_,fun b hb=>?_⟩
 ·rw [un HL,hdl]
  exact OwnVar.same hfin.1 rfl
 ·exact Below.drew (Below.trans (un HB3) hfin.2)
 ·by_cases e:k=.stack i j
  ·subst e; rw [Xk,un HES]; rfl
  ·rw [Zl V _ e]
 ·show (w3.setCell _ _).heap[b]?=_
  rw [Below.heap_setCell _ _ _ _ (fun e=>hb (by rw [un HEG]; exact congrArg some e.symm)),un HSM3]
theorem pull_any (base bs:Nat) (V:Key→Value) (s:St) (i:Nat) (w:World) (h:OwnVar base w bs V s) (hn:s.now=i) (hi:i < s.fibers.length) (hq:0 < (Za s i).frames.length) (hqs:(Za s i).frames.length≤1000) (hst:(frAt s i ((Za s i).frames.length - 1)).stack.length≤1000) (hst0:0 < (frAt s i ((Za s i).frames.length - 1)).stack.length) :
  Calls Tryz.prog 105 #[.pointer (some ⟨bs,0,none⟩)] w fun e w'=>Turned base bs (Zc s) (.int .i64 (Zh s)) w e w' :=
 (Kj base bs V s i w h hn hi hq hqs hst hst0).mono fun _ _ ⟨h1,V',h2,h3,_⟩=>⟨h1,V',h2,h3⟩
def PutPost (base bs:Nat) (s:St) (v:Int) (w:World) (e:Ending) (w':World):Prop :=
 e=.returned (.int .i64 (putS s v).2)∧Below base w w'∧((putS s v).2=0→∃ V',OwnVar base w' bs V' (putS s v).1)
theorem put_any (base bs:Nat) (V:Key→Value) (s:St) (z:Int) (w:World) (h:OwnVar base w bs V s) (ho:s.out.length≤30) :
  Calls Tryz.prog 110 #[.pointer (some ⟨bs,0,none⟩),.int .i64 z] w fun e w'=>PutPost base bs s z w e w':=by
 obtain ⟨i0,hi0,hz0,hz1,hz2⟩:=info_parts infoInt
 obtain ⟨_,_,c2,fz⟩:=h.cells
 have hs:w.ownsRow base 3 1 (V .out) s.out.length (ints s.out):=h.own.piece .out trivial
 have hbsw:=lt_of_block h.var
 have hlow:=h.low
 have hbs:(V .out).ownBlock≠some bs:=h.off .out trivial
 have f2:=fz 2
 obtain ⟨oo,co,eo,hrow⟩:=Zo hs
 have HO:=hide h
 have HS:=hide hs
 have HEO:=hide eo
 rw [eo] at c2
 clear h fz hrow
 by_cases h30:s.out.length=30
 ·have hp:putS s z=(St.zero,2):=by unfold putS; rw [if_pos h30]
  have HP:=hide hp
  rw [h30] at c2
  clear hp h30
  go_enter Tryz.func110,Tryz.ntmps110
  go_wp2
  go_ret
  exact ⟨by rw [un HP]; rfl,Below.refl _ _,fun e=>by rw [un HP] at e; cases e⟩
 ·have hp:putS s z=({ s with out:=s.out++[z] },0):=by unfold putS; rw [if_neg h30]
  have HP:=hide hp
  have hb:((s.out.length:Int) == 30)=false:=by rw [beq_eq_false_iff_ne]; omega
  rw [eo] at hs hbs
  have HS2:=hide hs
  have hlw:base≤w.heap.size:=by omega
  clear hp hs
  generalize hl:s.out=l at *
  have HL:=hide hl
  clear hl
  go_enter Tryz.func110,Tryz.ntmps110
  go_wp2_with (at_builtin; refine wpList_append_own_at _ rfl _ _ 24 rfl base 3 i0 (.int .i64 0) 1 8 Tryz.underlying24 hi0 hz0 hz1 hz2 rfl (by decide) _ _ _ rfl ((un HS2).alloc _) ⟨w.heap.size,0,none⟩ 1 1 [.int .i64 z] rfl rfl (new_one _ _ _) (int_one _) (by unfold maxLen; omega) (by omega) (by simp; omega) ?_; intro v' w2 hown' hgrow _ hat; obtain ⟨o2,q2,rfl,-⟩:=Zo hown'; have g2:w2.cell? ⟨bs,2,none⟩=some (.slice oo l.length co):=hgrow.cell (((Kept.refl w).alloc _).cell c2) (fun e=>hbs e.symm); have gz:w2.frozen? ⟨bs,2,none⟩=false:=(World.frozen?_of_block (hgrow.block bs (by simp; omega) (fun e=>hbs e.symm))).trans ((World.frozen?_of_block (Below.heap_alloc w _ bs hbsw)).trans f2); have HOW:=hide hown'; have HGR:=hide hgrow; have HAT:=hide hat; clear hown' hgrow hat)
  go_ret
  have hfin:=((un HO).alloc (.cells #[.int .i64 z] 3)).turnOut (w2:=w2) (l++[z]) (.slice o2 (l.length + 1) q2) (by rw [un HEO]; exact un HGR) (by rw [ints_append,List.length_append]; exact un HOW) (by rw [un HEO]; exact un HAT)
  refine ⟨by rw [un HP]; rfl,Below.trans (Below.alloc (Below.refl _ w) hlw _) hfin.2,fun _=>⟨upd V .out (.slice o2 (l.length + 1) q2),?_⟩⟩
  rw [un HP]
  exact hfin.1
def Qc (base bs:Nat) (r:St × Int) (w:World) (e:Ending) (w':World):Prop :=
 e=.returned (.int .i64 r.2)∧Below base w w'∧(r.2=0→∃ V',OwnVar base w' bs V' r.1)
theorem yielded_any (base bs:Nat) (V:Key→Value) (s:St) (i:Nat) (w:World) (h:OwnVar base w bs V s) (hn:s.now=i) (hr:Runs s i) (hst0:0 < (frAt s i ((Za s i).frames.length - 1)).stack.length)
  (hc:∀ c:Int,(Za s i).caller=c→0≤c→∃ k:Nat,c=k∧k≠i∧Runs s k) :
  Calls Tryz.prog 109 #[.pointer (some ⟨bs,0,none⟩)] w fun e w'=>Qc base bs (Je s) w e w':=by
 have hpl:=pull_any base bs V s i w h hn hr.lt hr.fr hr.frs hr.st hst0
 have hps:=Qn hn
 have hcal:(Za (Zc s) i).caller=(Za s i).caller:=by rw [hps,Kh _ hr.lt]
 have hlen:(Zc s).fibers.length=s.fibers.length:=by rw [hps]; exact Zv _ _ _
 have hnow:(Zc s).now=i:=by rw [hps]; exact hn
 have hoth:∀ k,k≠i→Za (Zc s) k=Za s k:=fun k hk=>by rw [hps]; exact setFr_other _ (fun e=>hk e.symm)
 have hys:Je s=if (Za s i).caller < 0 then (St.zero,7) else (Zp { (Zf (Zc s) i { Za (Zc s) i with caller:=-1 }) with now:=(Za s i).caller } (Za s i).caller (Zh s),0):=by
  unfold Je
  simp only
  rw [hn,Qp,Qy,hcal]
 rw [hys]
 generalize hcc:(Za s i).caller=c at *
 have hc':=hc c rfl
 have HPL:=hide hpl
 have HLT:=hide hr.lt
 have HHO:=hide hoth
 clear hpl hps hys hc h
 generalize hs1:Zc s=s1 at *
 generalize Zh s=z at *
 have HC:=hide hc'
 clear hc' hr hst0 hs1 hcc
 generalize hL:s.fibers.length=L at *
 have HRK:Hid (∀ k,Runs s k→k≠i→Runs { (Zf s1 i { Za s1 i with caller:=-1 }) with now:=(k:Int) } k):=hide (fun k hrk hki=>by
  refine hrk.other ?_ ?_
  ·show (Zf s1 i _).fibers.length=_
   rw [Zv,hlen,hL]
  ·show Za (Zf s1 i _) k=_
   rw [Xr _ (fun e=>hki e.symm)]
   exact (un HHO) k hki)
 clear HHO hL
 generalize hR:(if c < 0 then (St.zero,(7:Int)) else (Zp { (Zf s1 i { Za s1 i with caller:=-1 }) with now:=c } c z,0))=R
 have HR:=hide hR
 clear hR
 go_enter Tryz.func109,Tryz.ntmps109
 go_wp2_with fail
 refine (un HPL).mono ?_
 rintro e w1 ⟨rfl,V1,ho1,hb1⟩
 obtain ⟨c0,c1,_,fz⟩:=ho1.cells
 obtain ⟨gF,capF,eF,hcF,_,k1,fzF,hbF⟩:=ho1.own.fib (i:=i) (by rw [hlen]; exact un HLT)
 rw [eF] at c0
 rw [hnow] at c1
 rw [hcal] at k1
 have hne:¬ gF=bs:=fun e=>ho1.off .fibers trivial (by rw [eF,← e]; rfl)
 have hne':¬ bs=gF:=fun e=>hne e.symm
 have hi1:(i:Int) < (L:Int):=by have:=un HLT; omega
 have hi0:(0:Int)≤(i:Int):=by omega
 rw [hlen] at c0
 have f1:=fz 1
 have fF:=fzF (i * 2 + 1)
 have HO1:=hide ho1
 have HB1:=hide hb1
 have HEF:=hide eF
 clear ho1 hb1 eF fz fzF
 by_cases hneg:c < 0
 ·have hR:=un HR
  rw [if_pos hneg] at hR
  subst hR
  have hd:decide (c < 0)=true:=decide_eq_true hneg
  go_wp2
  go_quiet (fail)
  go_wp2
  go_ret
  exact ⟨rfl,below_drewN (un HB1) _,fun e=>by cases e⟩
 ·have hd:decide (c < 0)=false:=decide_eq_false hneg
  obtain ⟨k,hk,hki,hrk⟩:=(un HC) (by omega)
  have hR:=un HR
  rw [if_neg hneg] at hR
  subst hR hk
  have HRK2:=hide ((un HRK) k hrk hki)
  clear hrk HC HRK HR
  go_wp2
  go_quiet (fail)
  go_wp2_with fail
  have hd1:OwnVar base (w1.drewN nq) bs V1 s1:=(un HO1).same rfl
  have ho2:=hd1.setNow (k:Int)
  obtain ⟨ho3,hb3⟩:=ho2.setCaller (i:=i) (by show i < s1.fibers.length; rw [hlen]; exact un HLT) (show V1 .fibers=.slice (some ⟨gF,0,none⟩) s1.fibers.length capF from un HEF) (-1)
  have hrk:=un HRK2
  refine (push_any base bs V1 _ k z _ ho3 hrk.lt hrk.fr hrk.frs hrk.st).mono ?_
  rintro e w4 ⟨rfl,V4,ho4,hb4⟩
  have hb5:Below base w w4:=Below.trans (Below.trans (Below.trans (below_drewN (un HB1) nq) (Below.setCell (Below.refl _ _) hd1.low _)) hb3) hb4
  have HB5:=hide hb5
  have HO4:=hide ho4
  clear ho2 ho3 hb3 hb4 hb5 ho4 hd1 hrk
  go_wp2
  go_ret
  exact ⟨rfl,un HB5,fun _=>⟨V4,un HO4⟩⟩
def Xb (s:St) (i:Nat):St:=Zf (Zc s) i { Za (Zc s) i with frames:=(Za (Zc s) i).frames.dropLast }
theorem givenS_eq {s:St} {i:Nat} (hn:s.now=i) (hi:i < s.fibers.length):givenS s =
  if (Xb s i).fibers.length=0∨(Za (Xb s i) i).frames=[] then
   (if (Za s i).caller < 0 then putS { Xb s i with now:=-1 } (Zh s)
    else (Zp { (Zf (Xb s i) i { Za (Xb s i) i with caller:=-1 }) with now:=(Za s i).caller } (Za s i).caller (Zh s),0))
  else (Zp (Xb s i) i (Zh s),0):=by
 have hps:=Qn hn
 have hcal:(Za (Zc s) i).caller=(Za s i).caller:=by rw [hps,Kh _ hi]
 have hlen:(Zc s).fibers.length=s.fibers.length:=by rw [hps]; exact Zv _ _ _
 have hlp:(Xb s i).fibers.length=s.fibers.length:=by unfold Xb; rw [Zv,hlen]
 have hcp:(Za (Xb s i) i).caller=(Za s i).caller:=by
  unfold Xb; rw [Xi _ (by rw [hlen]; exact hi)]; exact hcal
 unfold givenS
 simp only
 rw [hn,Qy]
 show (if ((Xb s i).fib (i:Int)).frames=[] then if ((Xb s i).fib (i:Int)).caller < 0 then _ else (Zp { ((Xb s i).turn (i:Int) _) with now:=((Xb s i).fib (i:Int)).caller } ((Xb s i).fib (i:Int)).caller (Zh s),0) else (Zp (Xb s i) (i:Int) (Zh s),0))=_
 rw [Qp,Qy,hcp]
 have h0:¬ (Xb s i).fibers.length=0:=by omega
 simp only [h0,false_or]
 rfl
theorem given_any (base bs:Nat) (V:Key→Value) (s:St) (i:Nat) (w:World) (h:OwnVar base w bs V s) (hn:s.now=i) (hr:Runs s i) (hst0:0 < (frAt s i ((Za s i).frames.length - 1)).stack.length)
  (ho:s.out.length≤30) (hbel:1 < (Za s i).frames.length→(frAt s i ((Za s i).frames.length - 2)).stack.length≤1000)
  (hc:∀ c:Int,(Za s i).caller=c→0≤c→∃ k:Nat,c=k∧k≠i∧Runs s k) :
  Calls Tryz.prog 107 #[.pointer (some ⟨bs,0,none⟩)] w fun e w'=>Qc base bs (givenS s) w e w':=by
 have hpl:=pull_any base bs V s i w h hn hr.lt hr.fr hr.frs hr.st hst0
 have hps:=Qn hn
 have hcal:(Za (Zc s) i).caller=(Za s i).caller:=by rw [hps,Kh _ hr.lt]
 have hlen:(Zc s).fibers.length=s.fibers.length:=by rw [hps]; exact Zv _ _ _
 have hnow:(Zc s).now=i:=by rw [hps]; exact hn
 have hout:(Zc s).out=s.out:=by rw [hps]; rfl
 have hfl:(Za (Zc s) i).frames.length=(Za s i).frames.length:=by rw [hps]; exact Jp _ hr.lt i
 have hlt1:i < (Zc s).fibers.length:=by rw [hlen]; exact hr.lt
 have hoth:∀ k,k≠i→Za (Xb s i) k=Za s k:=fun k hk=>by
  unfold Xb
  rw [Xr _ (fun e=>hk e.symm),hps]
  exact setFr_other _ (fun e=>hk e.symm)
 have hlp:(Xb s i).fibers.length=s.fibers.length:=by unfold Xb; rw [Zv,hlen]
 have hfp:Za (Xb s i) i={ Za (Zc s) i with frames:=(Za (Zc s) i).frames.dropLast }:=by unfold Xb; exact Xi _ hlt1
 have hfpl:(Za (Xb s i) i).frames.length=(Za s i).frames.length - 1:=by rw [hfp]; simp [hfl]
 have hrb:1 < (Za s i).frames.length→Runs (Xb s i) i:=fun h1=>by
  refine ⟨by rw [hlp]; exact hr.lt,by omega,by have:=hr.frs; omega,?_⟩
  have:frAt (Xb s i) i ((Za (Xb s i) i).frames.length - 1)=frAt s i ((Za s i).frames.length - 2):=by
   rw [hfpl]
   unfold frAt
   rw [hfp]
   simp only
   have hlt2:(Za s i).frames.length - 1 - 1 < (Za (Zc s) i).frames.length - 1:=by omega
   rw [show (Za s i).frames.length - 2=(Za s i).frames.length - 1 - 1 by omega]
   have e1:(Za (Zc s) i).frames.dropLast.getD ((Za s i).frames.length - 1 - 1) Fr.zero=(Za (Zc s) i).frames.getD ((Za s i).frames.length - 1 - 1) Fr.zero:=by
    have h2:(Za s i).frames.length - 1 - 1 < (Za (Zc s) i).frames.length:=by omega
    simp [List.getD,hlt2,h2]
   rw [e1]
   have:=frAt_ne (s:=s) (i:=i) (j:=(Za s i).frames.length - 1) (i':=i) (j':=(Za s i).frames.length - 1 - 1) { frAt s i ((Za s i).frames.length - 1) with stack:=(frAt s i ((Za s i).frames.length - 1)).stack.dropLast } hr.lt (by rintro ⟨_,e⟩; omega)
   rw [← hps] at this
   exact this
  rw [this]; exact hbel h1
 rw [givenS_eq hn hr.lt]
 have hemp:((Xb s i).fibers.length=0∨(Za (Xb s i) i).frames=[])↔(Za s i).frames.length=1:=by
  have:=hr.fr
  have:=hr.lt
  constructor
  ·rintro (e | e)
   ·omega
   ·have:=congrArg List.length e
    simp only [List.length_nil] at this
    omega
  ·intro e
   exact .inr (List.length_eq_zero_iff.1 (by omega))
 have hlop:=hr.lt
 have hq1:=hr.fr
 have hq2:=hr.frs
 have HRB:=hide hrb
 have HRK:Hid (∀ k,Runs s k→k≠i→Runs { (Zf (Xb s i) i { Za (Xb s i) i with caller:=-1 }) with now:=(k:Int) } k):=hide (fun k hrk hki=>by
  refine hrk.other ?_ ?_
  ·show (Zf (Xb s i) i _).fibers.length=_
   rw [Zv,hlp]
  ·show Za (Zf (Xb s i) i _) k=_
   rw [Xr _ (fun e=>hki e.symm)]
   exact hoth k hki)
 have hpout:(Xb s i).out.length≤30:=by
  have:(Xb s i).out=s.out:=hout
  rw [this]; exact ho
 have hpnow:(Xb s i).now=i:=hnow
 generalize hcc:(Za s i).caller=c at *
 have hc':=hc c rfl
 generalize hzz:Zh s=z at *
 generalize hR:(if (Xb s i).fibers.length=0∨(Za (Xb s i) i).frames=[] then (if c < 0 then putS { Xb s i with now:=-1 } z else (Zp { (Zf (Xb s i) i { Za (Xb s i) i with caller:=-1 }) with now:=c } c z,0)) else (Zp (Xb s i) i z,0))=R
 have HR:=hide hR
 have HEM:=hide hemp
 have HPL:=hide hpl
 have HC:=hide hc'
 have HS1:=hide hlt1
 have HFP:=hide (show Xb s i=Zf (Zc s) i { Za (Zc s) i with frames:=(Za (Zc s) i).frames.dropLast } from rfl)
 obtain ⟨t,ht⟩:∃ t,(Za s i).frames.length=t + 1:=⟨_,(Nat.sub_add_cancel hq1).symm⟩
 rw [ht] at hfl hq2 hemp
 have HT:=hide ht
 clear hR hemp hpl hps hc' hc h hr hrb hoth hfp hbel hcc hzz
 generalize hs1:Zc s=s1 at *
 generalize hL:s.fibers.length=L at *
 clear hs1
 go_enter Tryz.func107,Tryz.ntmps107
 go_wp2_with fail
 refine (un HPL).mono ?_
 rintro e w1 ⟨rfl,V1,ho1,hb1⟩
 obtain ⟨c0,c1,_,fz⟩:=ho1.cells
 obtain ⟨gF,capF,eF,hcF,k0,k1,fzF,hbF⟩:=ho1.own.fib (i:=i) hlt1
 obtain ⟨g,cap,eg,hcap,_⟩:=ho1.own.fr (i:=i) (j:=0) hlt1 (by omega)
 rw [eF] at c0
 rw [hnow] at c1
 rw [hcal] at k1
 rw [hlen] at c0
 rw [eg,hfl] at k0
 rw [hfl] at hcap
 have hne:¬ gF=bs:=fun e=>ho1.off .fibers trivial (by rw [eF,← e]; rfl)
 have hne':¬ bs=gF:=fun e=>hne e.symm
 have hi1:(i:Int) < (L:Int):=by omega
 have hi0:(0:Int)≤(i:Int):=by omega
 have hw:IntKind.i64.wrap ((t:Int) + 1 - 1)=(t:Int):=by rw [IntKind.wrap_i64]; omega
 have hts:(t:Int) + 1 - 1=(t:Int):=by omega
 have ht0:(0:Int)≤(t:Int):=by omega
 have htc:(t:Int)≤(cap:Int):=by omega
 have fF:=fzF (i * 2)
 have hdr:=ho1.dropFrame hlt1 eF eg
 rw [hfl,Nat.add_sub_cancel] at hdr
 have HDR:=hide hdr
 have HO1:=hide ho1
 have HB1:=hide hb1
 have HEF:=hide eF
 clear ho1 hb1 hdr
 go_wp2
 go_quiet (fail)
 go_wp2
 generalize hw2:w1.drewN nq=w2
 have y0:w2.cell? ⟨bs,0,none⟩=some (.slice (some ⟨gF,0,none⟩) L capF):=by rw [← hw2]; exact c0
 have y1:w2.cell? ⟨bs,1,none⟩=some (.int .i64 i):=by rw [← hw2]; exact c1
 have j0:w2.cell? ⟨gF,i * 2,none⟩=some (.slice (some ⟨g,0,none⟩) (t + 1) cap):=by rw [← hw2]; exact k0
 have j1:w2.cell? ⟨gF,i * 2 + 1,none⟩=some (.int .i64 c):=by rw [← hw2]; exact k1
 have jz:w2.frozen? ⟨gF,i * 2,none⟩=false:=by rw [← hw2]; exact fF
 have HDR2:Hid (OwnVar base (w2.setCell ⟨gF,i * 2,none⟩ (.slice (some ⟨g,0,none⟩) t cap)) bs (upd V1 (.frames i) (.slice (some ⟨g,0,none⟩) t cap)) (Xb s i)∧Below base w (w2.setCell ⟨gF,i * 2,none⟩ (.slice (some ⟨g,0,none⟩) t cap))):=by
  rw [← hw2]
  refine hide ⟨by rw [un HFP]; exact OwnVar.same (un HDR).1 rfl,?_⟩
  exact Below.setCell (below_drewN (un HB1) nq) hbF _
 clear hw2 c0 c1 k0 k1 fF HDR HB1 HO1 fz fzF
 go_region
 generalize hwz:(w2.setCell ⟨gF,i * 2,none⟩ (.slice (some ⟨g,0,none⟩) t cap)).drew=wz
 have hoz:OwnVar base wz bs (upd V1 (.frames i) (.slice (some ⟨g,0,none⟩) t cap)) (Xb s i):=by rw [← hwz]; exact OwnVar.same (un HDR2).1 rfl
 have hbz:Below base w wz:=by rw [← hwz]; exact Below.drew (un HDR2).2
 obtain ⟨x0,x1,_,xz⟩:=hoz.cells
 obtain ⟨gF',capF',eF',_,q0,q1,qz,_⟩:=hoz.own.fib (i:=i) (by rw [hlp]; exact hlop)
 rw [Zl V1 _ (by simp),un HEF] at eF'
 rw [Xk] at q0
 obtain ⟨⟨rfl⟩,-,rfl⟩:=(by simpa using eF':(gF=gF')∧s1.fibers.length=(Xb s i).fibers.length∧capF=capF')
 rw [Zl V1 _ (by simp),un HEF,hlen] at x0
 rw [hpnow] at x1
 have hcp:(Za (Xb s i) i).caller=c:=by
  rw [un HFP,Xi _ (un HS1)]; exact hcal
 rw [hcp] at q1
 have z1:=xz 1
 have zF:=qz (i * 2 + 1)
 have HOZ:=hide hoz
 have HBZ:=hide hbz
 clear hwz hoz hbz xz qz y0 y1 j0 j1 jz HDR2 eF' hcp
 by_cases hone:t=0
 ·subst hone
  have hem:=(un HEM).2 (un HT)
  have hR:=un HR
  rw [if_pos hem] at hR
  by_cases hneg:c < 0
  ·rw [if_pos hneg] at hR
   have hd:decide (c < 0)=true:=decide_eq_true hneg
   have HR2:=hide hR
   clear hR hem HC HRB HRK
   go_wp2_with fail
   have ho3:=(un HOZ).setNow (-1)
   refine (put_any base bs _ _ z _ ho3 hpout).mono ?_
   rintro e w4 ⟨rfl,hb4,hp4⟩
   rw [un HR2] at hp4 ⊢
   have HB4:=hide (Below.trans (Below.trans (un HBZ) (Below.setCell (Below.refl _ _) (un HOZ).low _)) hb4)
   have HP4:=hide hp4
   clear ho3 hb4 hp4
   go_wp2
   go_ret
   exact ⟨rfl,un HB4,un HP4⟩
  ·rw [if_neg hneg] at hR
   have hd:decide (c < 0)=false:=decide_eq_false hneg
   obtain ⟨k,hk,hki,hrk⟩:=(un HC) (by omega)
   subst hR hk
   have HRK2:=hide ((un HRK) k hrk hki)
   clear hem HC HRB HRK hrk HR
   go_wp2_with fail
   have ho2:=(un HOZ).setNow (k:Int)
   obtain ⟨ho3,hb3⟩:=ho2.setCaller (i:=i) (by show i < (Xb s i).fibers.length; rw [hlp]; exact hlop) (show (upd V1 (.frames i) (.slice (some ⟨g,0,none⟩) 0 cap)) .fibers=.slice (some ⟨gF,0,none⟩) (Xb s i).fibers.length capF by rw [Zl V1 _ (by simp),un HEF,hlen,hlp]) (-1)
   have hrk:=un HRK2
   refine (push_any base bs _ _ k z _ ho3 hrk.lt hrk.fr hrk.frs hrk.st).mono ?_
   rintro e w4 ⟨rfl,V4,ho4,hb4⟩
   have HB5:=hide (Below.trans (Below.trans (Below.trans (un HBZ) (Below.setCell (Below.refl _ _) (un HOZ).low _)) hb3) hb4)
   have HO4:=hide ho4
   clear ho2 ho3 hb3 hb4 ho4 hrk
   go_wp2
   go_ret
   exact ⟨rfl,un HB5,fun _=>⟨V4,un HO4⟩⟩
 ·have hem:¬ ((Xb s i).fibers.length=0∨(Za (Xb s i) i).frames=[]):=fun h=>by
   have:=(un HEM).1 h
   have:=un HT
   omega
  have hR:=un HR
  rw [if_neg hem] at hR
  subst hR
  have hd:decide ((0:Int) < (t:Int))=true:=decide_eq_true (by omega)
  have hrun:=(un HRB) (by have:=un HT; omega)
  have HRUN:=hide hrun
  clear hem HC HRB HRK hrun HR
  go_wp2_with fail
  have hrun:=un HRUN
  refine (push_any base bs _ _ i z _ (un HOZ) hrun.lt hrun.fr hrun.frs hrun.st).mono ?_
  rintro e w4 ⟨rfl,V4,ho4,hb4⟩
  have HB5:=hide (Below.trans (un HBZ) hb4)
  have HO4:=hide ho4
  clear hb4 ho4 hrun
  go_wp2
  go_ret
  exact ⟨rfl,un HB5,fun _=>⟨V4,un HO4⟩⟩
theorem has_any (l:List Int) (v:Value) (n:Int) (w:World) (h1:IntsAt w v l) :
  Calls Tryz.prog 33 #[v,.int .i64 n] w fun e w'=>e=.returned (.bool (decide (n∈l)))∧Kept w w':=by
 obtain ⟨oa,ca,rfl,n1,i1⟩:=h1
 have HI1:=hide i1
 clear i1
 go_enter Tryz.func33,Tryz.ntmps33
 go_wp2
 go_loopw [5] (fun s5 wr=>∃ k:Nat,k≤l.length∧s5=.int .i64 k∧Hid (∀ i,i < k→l.getD i 0≠n)∧Hid (Kept w wr)) (fun s5 _=>l.length - (intOf s5).toNat)
 case atStart=>exact ⟨0,Nat.zero_le _,rfl,(fun i hi=>by omega),Kept.refl _⟩
 case round =>
  obtain ⟨k,hkm,rfl,HA,HKr⟩:=hrel
  by_cases hlt:k < l.length
  ·obtain ⟨b1,o1,e1,c1⟩:=(un HI1) k _ (Zm l k 0 hlt)
   have d1:=(un HKr).cell c1
   generalize hz1:l.getD k 0=z1 at *
   have Z1:=hide hz1
   subst e1
   clear c1 hz1
   by_cases hz:z1=n
   ·have hzb:(z1 == n)=true:=by rw [beq_iff_eq]; exact hz
    have HZ:=hide hz
    clear hz
    go_wp2
    go_ret
    refine ⟨?_,un HKr⟩
    rw [decide_eq_true]
    ·rfl
    ·rw [← un HZ,← un Z1]
     exact List.mem_of_getElem? (Zm l k 0 hlt)
   ·have hzb:(z1 == n)=false:=by rw [beq_eq_false_iff_ne]; exact hz
    have HZ:=hide hz
    clear hz
    go_wp2
    go_roundw
    case rel =>
     refine ⟨k + 1,by omega,by go_num,?_,HKr⟩
     intro i hi
     by_cases e:i=k
     ·subst e; rw [un Z1]; exact un HZ
     ·exact (un HA) i (by omega)
    case measure=>simp [intOf]; omega
  ·go_wp2
   go_ret
   refine ⟨?_,un HKr⟩
   rw [decide_eq_false]
   ·rfl
   ·intro hm
    obtain ⟨i,hi,rfl⟩:=List.getElem_of_mem hm
    exact (un HA) i (by omega) (by simp [List.getD,hi])
def LinePost (s:St) (w:World) (e:Ending) (w':World):Prop :=
 ∃ v b,e=.returned (.tuple #[v,.bool b])∧Kept w w'∧(match Xm s with | none=>b=false | some l=>b=true∧IntsAt w' v l)
def sliceLen:Value→Nat | .slice _ n _=>n | _=>0
theorem line_step (fs:List Fb) (k:Nat) (n:Int) (acc:List Int) (h0:¬ n < 0) (h:n ∉ acc):Xe fs (k + 1) n acc=Xe fs k (Xf fs n) (acc++[n]):=by
 conv=>lhs; unfold Xe
 rw [if_neg h0,if_neg h]
theorem lineOf_any (s:St) (v:Value) (w:World) (hs:StAt w v s) (hnow:-1≤s.now∧s.now < s.fibers.length) (hcal:∀ b,b∈s.fibers→-1≤b.caller∧b.caller < s.fibers.length) (hlen:s.fibers.length≤1000) :
  Calls Tryz.prog 31 #[v] w fun e w'=>LinePost s w e w':=by
 obtain ⟨vf,vo,rfl,hf,ho⟩:=hs
 obtain ⟨oa,cap,rfl,_,hcell⟩:=hf
 obtain ⟨i0,hi0,hz0,hz1,hz2⟩:=info_parts infoInt
 have HC:=hide hcell
 have HCAL:=hide hcal
 have HNOW:=hide hnow
 clear hcell hcal ho
 generalize hN:s.fibers.length=N at *
 have HN:=hide hN
 clear hN
 obtain ⟨hnow1,hnow2⟩:=hnow
 go_enter Tryz.func31,Tryz.ntmps31
 go_wp2
 generalize hw0:w.alloc (.cells #[.slice oa N cap,.int .i64 s.now,vo] 26)=w0 at *
 have c0:w0.cell? ⟨w.heap.size,0,none⟩=some (.slice oa N cap):=by rw [← hw0]; simp
 have hk0:Kept w w0:=by rw [← hw0]; exact (Kept.refl w).alloc _
 have HK0:=hide hk0
 have C0:=hide c0
 clear hw0 c0 hk0
 go_loopw [4,5] (fun s4 s5 wr=>∃ (n:Int) (acc:List Int) (k:Nat),s5=.int .i64 n∧-1≤n∧n < N∧k + acc.length=N + 1∧Hid (wr.ownsRow w0.heap.size 3 1 s4 acc.length (ints acc))∧Hid (acc.Nodup)∧Hid (∀ z,z∈acc→0≤z∧z < N)∧Hid (Xe s.fibers k n acc=Xe s.fibers (N + 1) s.now [])∧Hid (Kept w0 wr)) (fun s4 _ _=>N + 1 - sliceLen s4)
 case atStart=>exact ⟨s.now,[],N + 1,rfl,hnow1,hnow2,by simp,World.ownsRow_nil _ _ _ _,List.nodup_nil,(fun z hz=>by cases hz),rfl,Kept.refl _⟩
 case round =>
  obtain ⟨n,acc,k,rfl,hn0,hn1,hka,HO,HND,HIN,HL,HK⟩:=hrel
  have hfew:=few (un HND) (un HIN)
  have hfw:acc.length≤N:=hfew
  have hk1:∃ k',k=k' + 1:=⟨k - 1,by omega⟩
  obtain ⟨k',rfl⟩:=hk1
  obtain ⟨os,cs,rfl,hrow⟩:=Zo (un HO)
  have HR:=hide hrow
  clear hrow hfew
  by_cases hpos:0≤n
  ·have HPOS:=hide hpos
   go_wp2
   go_loopw [6] (fun s6 wq=>∃ q:Nat,q≤acc.length∧s6=.int .i64 q∧Hid (∀ i,i < q→acc.getD i 0≠n)∧Hid (wr=wq)) (fun s6 _=>acc.length - (intOf s6).toNat)
   case atStart=>exact ⟨0,Nat.zero_le _,rfl,(fun i hi=>by omega),rfl⟩
   case round =>
    obtain ⟨q,hqm,rfl,HA,HW⟩:=hrel
    have hwq:=un HW
    subst hwq
    clear HW
    by_cases hlt:q < acc.length
    ·obtain ⟨g,rfl,hc⟩:=(un HR).resolve_left (fun h=>by have:=h.2; omega)
     have hcq:=hc q (.int .i64 (acc.getD q 0)) (ints_get (Zm acc q 0 hlt))
     have HZI:=hide (Zm acc q 0 hlt)
     clear hc
     generalize hz1:acc.getD q 0=z at *
     have Z1:=hide hz1
     clear hz1
     by_cases hz:z=n
     ·have hzb:(z == n)=true:=by rw [beq_iff_eq]; exact hz
      have HZ:=hide hz
      clear hz
      go_wp2
      go_ret2
      refine ⟨_,_,rfl,(un HK0).trans (un HK),?_⟩
      have hin:n∈acc:=by rw [← un HZ]; exact List.mem_of_getElem? (un HZI)
      have hno:Xe s.fibers (k' + 1) n acc=none:=by
       unfold Xe; rw [if_neg (by have:=un HPOS; omega),if_pos hin]
      have hls:Xm s=none:=by
       unfold Xm; rw [un HN,← un HL,hno]
      rw [hls]
     ·have hzb:(z == n)=false:=by rw [beq_eq_false_iff_ne]; exact hz
      have HZ:=hide hz
      clear hz
      go_wp2
      go_roundw
      case rel =>
       refine ⟨q + 1,by omega,by go_num,?_,trivial⟩
       intro i hi
       by_cases e:i=q
       ·subst e; rw [un Z1]; exact un HZ
       ·exact (un HA) i (by omega)
      case measure=>simp [intOf]; omega
    ·have hna:n ∉ acc:=by
      intro hm
      obtain ⟨i,hi,rfl⟩:=List.getElem_of_mem hm
      exact (un HA) i (by omega) (by simp [List.getD,hi])
     have hni:n.toNat < s.fibers.length:=by have:=un HN; omega
     obtain ⟨bf,of,vfr,e1,k0,k1,_⟩:=(un HC) n.toNat _ (Zm s.fibers n.toNat Fb.zero hni)
     have hcr:=(un HCAL) _ (List.mem_of_getElem? (Zm s.fibers n.toNat Fb.zero hni))
     have hst:=line_step s.fibers k' n acc (by omega) hna
     have hce:(s.fibers.getD n.toNat Fb.zero).caller=Xf s.fibers n:=rfl
     rw [hce] at k1 hcr
     generalize Xf s.fibers n=m at *
     have HST:=hide hst
     have HNA:=hide hna
     have K1:=hide k1
     obtain ⟨m1,m2⟩:=hcr
     clear hst hna k0 k1 hce HR HA HCAL HC
     subst e1
     have hown:=un HO
     have hbase:=(un HK).size
     go_wp2_with (at_builtin; refine wpList_append_own _ rfl _ _ 24 rfl w0.heap.size 3 i0 (.int .i64 0) 1 8 Tryz.underlying24 hi0 hz0 hz1 hz2 rfl (by decide) _ _ _ rfl (hown.alloc _) ⟨wr.heap.size,0,none⟩ 1 1 [.int .i64 n] rfl rfl (new_one _ _ _) (int_one _) (by unfold maxLen; omega) (by omega) (by simp; omega) ?_; intro v' w7 hown' hgrow _; have hk7:Kept w0 w7:=Below.grown ((un HK).alloc _) hgrow (by simp; omega) (row_low hown); have HK7:=hide hk7; have HO7:=hide hown'; have cb:=hk7.cell (un C0); have cc:=hk7.cell ((un HK0).cell (un K1)); clear hk7 hown' hgrow hown K1)
     go_roundw
     case rel =>
      refine ⟨m,acc++[n],k',rfl,m1,m2,by simp; omega,?_,?_,?_,?_,HK7⟩
      ·show World.ownsRow _ _ _ _ _ _ _
       rw [ints_append,List.length_append]
       exact un HO7
      ·show List.Nodup _
       rw [List.nodup_append]
       refine ⟨un HND,by simp,?_⟩
       intro a ha b hb e
       simp at hb
       subst hb e
       exact (un HNA) ha
      ·intro z hz
       rcases List.mem_append.1 hz with hz | hz
       ·exact (un HIN) z hz
       ·simp at hz; subst hz; exact ⟨by omega,hn1⟩
      ·exact (un HST).symm.trans (un HL)
     case measure =>
      obtain ⟨o7,c7,e7,_⟩:=Zo (un HO7)
      subst e7
      simp [sliceLen]
      omega
  ·have hls:Xe s.fibers (N + 1) s.now []=some acc:=by
    rw [← un HL]
    unfold Xe
    rw [if_pos (by omega)]
   have HLS:=hide hls
   clear hls
   by_cases hz:acc=[]
   ·subst hz
    have hzb:(((0:Nat):Int) == 0)=true:=rfl
    go_wp2
    go_quiet (fail)
    go_wp2
    go_ret2
    refine ⟨_,_,rfl,((un HK0).trans (un HK)).drewN _,?_⟩
    have:Xm s=some []:=by
     unfold Xm; rw [un HN,un HLS]; rfl
    rw [this]
    exact ⟨rfl,os,cs,rfl,by simp,fun i z h=>by simp at h⟩
   ·have hpos:0 < acc.length:=List.length_pos_iff.2 hz
    obtain ⟨g,rfl,hc⟩:=(un HR).resolve_left (fun h=>by have:=h.2; omega)
    have hlt:acc.length - 1 < acc.length:=by omega
    have hcq:=hc (acc.length - 1) (.int .i64 (acc.getD (acc.length - 1) 0)) (ints_get (Zm acc _ 0 hlt))
    have hla:acc.getLast?=some (acc.getD (acc.length - 1) 0):=by
     rw [List.getLast?_eq_getElem?]; exact Zm acc _ 0 hlt
    have HLA:=hide hla
    have HZ0:=hide hz
    have hia:IntsAt wr (.slice (some ⟨g,0,none⟩) acc.length cs) acc:=⟨_,cs,rfl,by omega,fun i z hz=>⟨g,0,rfl,by rw [Nat.zero_add]; exact hc i _ (ints_get hz)⟩⟩
    have HIA:=hide hia
    have hlb:((acc.length:Int) == 0)=false:=by rw [beq_eq_false_iff_ne]; omega
    clear hla hz hc hia
    generalize hzz:acc.getD (acc.length - 1) 0=z at *
    clear hzz
    generalize hml:acc.length=m at *
    have HML:=hide hml
    clear hml
    by_cases hz:z=0
    ·subst hz
     have hzb:((0:Int) == 0)=true:=rfl
     go_wp2
     go_quiet (fail)
     go_wp2
     go_ret2
     refine ⟨_,_,rfl,((un HK0).trans (un HK)).drewN _,?_⟩
     have:Xm s=some acc:=by
      unfold Xm; rw [un HN,un HLS]
      simp only
      rw [if_pos (.inr (un HLA))]
     rw [this]
     exact ⟨rfl,(un HIA).kept ((Kept.refl _).drewN _)⟩
    ·have hzb:(z == 0)=false:=by rw [beq_eq_false_iff_ne]; exact hz
     have HZ:=hide hz
     clear hz
     go_wp2
     go_quiet (fail)
     go_wp2
     go_ret2
     refine ⟨_,_,rfl,((un HK0).trans (un HK)).drewN _,?_⟩
     have:Xm s=none:=by
      unfold Xm; rw [un HN,un HLS]
      simp only
      rw [if_neg]
      rintro (h | h)
      ·exact (un HZ0) h
      ·rw [un HLA] at h; exact (un HZ) (by simpa using h)
     rw [this]
theorem Jv {s:St} {i:Nat} (hn:s.now=i) (hi:i < s.fibers.length) (hf:0 < (Za s i).frames.length) :
  (Zc s).fibers.length=s.fibers.length∧(Zc s).now=i∧(Zc s).out=s.out∧(∀ k,(Za (Zc s) k).caller=(Za s k).caller)∧(∀ k,(Za (Zc s) k).frames.length=(Za s k).frames.length) ∧
  (frAt (Zc s) i ((Za s i).frames.length - 1)).stack=(frAt s i ((Za s i).frames.length - 1)).stack.dropLast∧(∀ k,k≠i→Za (Zc s) k=Za s k):=by
 have hps:=Qn hn
 refine ⟨by rw [hps]; exact Zv _ _ _,by rw [hps]; exact hn,by rw [hps]; rfl,fun k=>by rw [hps,Kh _ hi],fun k=>by rw [hps]; exact Jp _ hi k,?_,fun k hk=>by rw [hps]; exact setFr_other _ (fun e=>hk e.symm)⟩
 rw [hps,Jb _ hi (by omega)]
theorem Runs.pull {s:St} {i:Nat} (h:Runs s i) (hn:s.now=i):Runs (Zc s) i:=by
 obtain ⟨h1,_,_,_,h5,h6,_⟩:=Jv hn h.lt h.fr
 refine ⟨by rw [h1]; exact h.lt,by rw [h5]; exact h.fr,by rw [h5]; exact h.frs,?_⟩
 rw [h5,h6,List.length_dropLast]
 have:=h.st
 omega
theorem pull_line {s:St} {i:Nat} (hn:s.now=i) (hi:i < s.fibers.length) (hf:0 < (Za s i).frames.length) (k:Nat) (n:Int) (acc:List Int):Xe (Zc s).fibers k n acc=Xe s.fibers k n acc:=by
 obtain ⟨_,_,_,h4,_⟩:=Jv hn hi hf
 exact lineF_congr (fun n=>h4 n.toNat) k n acc
structure Fits (s:St):Prop where
 fibers:s.fibers.length≤1000
 out:s.out.length≤30
 frames:∀ i,i < s.fibers.length→(Za s i).frames.length≤1000
 locals:∀ i j,i < s.fibers.length→j < (Za s i).frames.length→(frAt s i j).locals.length≤1000
 stack:∀ i j,i < s.fibers.length→j < (Za s i).frames.length→(frAt s i j).stack.length≤1000
theorem Fits.small {s:St} (h:Fits s):Small s:=by
 refine ⟨h.fibers,by have:=h.out; omega,fun b hb=>?_⟩
 obtain ⟨i,hi,rfl⟩:=List.getElem_of_mem hb
 have hbi:Za s i=s.fibers[i]:=by simp [Za,List.getD,hi]
 refine ⟨by rw [← hbi]; exact h.frames i hi,fun f hf=>?_⟩
 obtain ⟨j,hj,rfl⟩:=List.getElem_of_mem hf
 have hj':j < (Za s i).frames.length:=by rw [hbi]; exact hj
 have hfj:frAt s i j=s.fibers[i].frames[j]:=by unfold frAt; rw [hbi]; simp [List.getD,hj]
 rw [← hfj]
 exact ⟨h.locals i j hi hj',h.stack i j hi hj'⟩
theorem Fits.pull {s:St} {i:Nat} (h:Fits s) (hn:s.now=i) (hi:i < s.fibers.length) (hf:0 < (Za s i).frames.length):Fits (Zc s):=by
 obtain ⟨h1,_,h3,_,h5,h6,h7⟩:=Jv hn hi hf
 have hps:=Qn hn
 have hfr:∀ a b,(frAt (Zc s) a b).locals=(frAt s a b).locals∧(frAt (Zc s) a b).stack.length≤(frAt s a b).stack.length:=fun a b=>by
  by_cases e:i=a∧(Za s i).frames.length - 1=b
  ·obtain ⟨rfl,rfl⟩:=e
   rw [hps,Jb _ hi (by omega)]
   exact ⟨rfl,by simp⟩
  ·rw [hps,frAt_ne _ hi e]; exact ⟨rfl,Nat.le_refl _⟩
 refine ⟨by rw [h1]; exact h.fibers,by rw [h3]; exact h.out,fun a ha=>?_,fun a b ha hb=>?_,fun a b ha hb=>?_⟩
 ·rw [h5]; rw [h1] at ha; exact h.frames a ha
 ·rw [(hfr a b).1]; rw [h1] at ha; rw [h5] at hb; exact h.locals a b ha hb
 ·rw [h1] at ha; rw [h5] at hb; exact Nat.le_trans (hfr a b).2 (h.stack a b ha hb)
end Go.Proofs.YtblihfpigjiahaaGreatDoor
