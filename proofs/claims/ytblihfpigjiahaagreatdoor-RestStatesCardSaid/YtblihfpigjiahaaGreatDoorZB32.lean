/- StepF, StepG, StepI, StepK, StepJ, StepH, StepL -/
import Derived.Test.YtblihfpigjiahaaGreatDoorZB30
import Derived.Test.YtblihfpigjiahaaGreatDoorZB31
import Derived.Test.YtblihfpigjiahaaGreatDoorZB22
import Derived.Test.YtblihfpigjiahaaGreatDoorZB18
import Derived.Deep.RegionHeld3
import Derived.StillTailTactics
import Derived.Test.YtblihfpigjiahaaGreatDoorZB13
import Derived.Test.YtblihfpigjiahaaGreatDoorZB08
set_option maxRecDepth 100000
set_option maxHeartbeats 8000000
namespace Go.Proofs.YtblihfpigjiahaaGreatDoor
open Go.RowKit
theorem resumedS_eq {s:St} {i:Nat} (hn:s.now=i) (hr:Runs s i) {l:List Int} (hl:Xm s=some l):Jo s =
  if ixB (Zh (Zc s)) s.fibers.length=true then
   (if Zh (Zc s)∈l∨((Zc (Zc s)).fib (Zh (Zc s))).frames=[] then (St.zero,6)
    else if ({ ((Zc (Zc s)).turn (Zh (Zc s)) fun b=>{ b with caller:=(i:Int) }) with now:=Zh (Zc s) }:St).top.at_=0
     then (({ ((Zc (Zc s)).turn (Zh (Zc s)) fun b=>{ b with caller:=(i:Int) }) with now:=Zh (Zc s) }:St).turnTop (Zh (Zc s)) fun f=>{ f with locals:=f.locals.set 0 (Zh s) },0)
     else (Zp { ((Zc (Zc s)).turn (Zh (Zc s)) fun b=>{ b with caller:=(i:Int) }) with now:=Zh (Zc s) } (Zh (Zc s)) (Zh s),0))
  else (St.zero,5):=by
 obtain ⟨a1,a2,_⟩:=Jv hn hr.lt hr.fr
 have hr1:=hr.pull hn
 obtain ⟨b1,b2,_⟩:=Jv a2 hr1.lt hr1.fr
 have hlf:Xe s.fibers (s.fibers.length + 1) s.now []=some l:=by
  unfold Xm at hl
  cases hx:Xe s.fibers (s.fibers.length + 1) s.now [] with
  | none=>rw [hx] at hl; cases hl
  | some l' =>
   rw [hx] at hl
   simp only at hl
   split at hl
   ·cases hl; rfl
   ·cases hl
 unfold Jo
 simp only
 rw [b1,a1,b2,pull_line a2 hr1.lt hr1.fr,pull_line hn hr.lt hr.fr,← hn,hlf]
 rfl
theorem resumed_any (base bs:Nat) (V:Key→Value) (s:St) (i:Nat) (w:World) (l:List Int) (h:OwnVar base w bs V s) (hn:s.now=i) (hr:Runs s i) (hst2:1 < (frAt s i ((Za s i).frames.length - 1)).stack.length)
  (hft:Fits s) (hcal:∀ b,b∈s.fibers→-1≤b.caller∧b.caller < s.fibers.length) (hl:Xm s=some l) (hil:(i:Int)∈l)
  (hloc:∀ k:Nat,k < s.fibers.length→(k:Int) ∉ l→0 < (Za s k).frames.length→(frAt s k ((Za s k).frames.length - 1)).at_=0→0 < (frAt s k ((Za s k).frames.length - 1)).locals.length) :
  Calls Tryz.prog 108 #[.pointer (some ⟨bs,0,none⟩)] w fun e w'=>Qc base bs (Jo s) w e w':=by
 have hpl:=pull_any base bs V s i w h hn hr.lt hr.fr hr.frs hr.st (by omega)
 obtain ⟨a1,a2,a3,a4,a5,a6,a7⟩:=Jv hn hr.lt hr.fr
 have hr1:=hr.pull hn
 obtain ⟨b1,b2,b3,b4,b5,b6,b7⟩:=Jv a2 hr1.lt hr1.fr
 have hst1:0 < (frAt (Zc s) i ((Za (Zc s) i).frames.length - 1)).stack.length:=by
  rw [a5,a6,List.length_dropLast]; omega
 have hpl2:=fun (V':Key→Value) (u:World) (hu:OwnVar base u bs V' (Zc s))=>pull_any base bs V' (Zc s) i u hu a2 hr1.lt hr1.fr hr1.frs hr1.st hst1
 have hft2:Fits (Zc (Zc s)):=(hft.pull hn hr.lt hr.fr).pull a2 hr1.lt hr1.fr
 have hlen2:(Zc (Zc s)).fibers.length=s.fibers.length:=by rw [b1,a1]
 have hcal2:∀ k,k < s.fibers.length→-1≤(Za (Zc (Zc s)) k).caller∧(Za (Zc (Zc s)) k).caller < s.fibers.length:=fun k hk=>by
  rw [b4,a4]
  exact hcal _ (List.mem_of_getElem? (Zm s.fibers k Fb.zero hk))
 have hline2:Xm (Zc (Zc s))=some l:=by
  unfold Xm at hl ⊢
  rw [b1,a1,b2,pull_line a2 hr1.lt hr1.fr,pull_line hn hr.lt hr.fr,← hn]
  exact hl
 have hoth2:∀ k,k≠i→Za (Zc (Zc s)) k=Za s k:=fun k hk=>by rw [b7 k hk,a7 k hk]
 rw [resumedS_eq hn hr hl]
 generalize hs2:Zc (Zc s)=s2 at *
 generalize hv:Zh s=v at *
 generalize hnn:Zh (Zc s)=n at *
 generalize hR:(if ixB n s.fibers.length=true then (if n∈l∨(s2.fib n).frames=[] then (St.zero,(6:Int)) else if ({ (s2.turn n fun b=>{ b with caller:=(i:Int) }) with now:=n }:St).top.at_=0 then (({ (s2.turn n fun b=>{ b with caller:=(i:Int) }) with now:=n }:St).turnTop n fun f=>{ f with locals:=f.locals.set 0 v },0) else (Zp { (s2.turn n fun b=>{ b with caller:=(i:Int) }) with now:=n } n v,0)) else (St.zero,5))=R
 have HR:=hide hR
 have HPL:=hide hpl
 have HPL2:=hide hpl2
 have HFT:=hide hft2
 have HCAL:=hide hcal2
 have HLN:=hide hline2
 have HOT:=hide hoth2
 have HLOC:=hide hloc
 have HIL:=hide hil
 have hlt:=hr.lt
 have hL5:=hft.fibers
 have hnow2:s2.now=i:=b2
 clear hR hpl hpl2 hft hft2 hcal hcal2 hl hline2 hloc hil h hr hr1 hst1 hst2 a3 a4 a5 a6 a7 b3 b4 b5 b6 b7 hoth2 b2
 generalize hL:s.fibers.length=L at *
 go_enter Tryz.func108,Tryz.ntmps108
 go_wp2_with fail
 refine (un HPL).mono ?_
 rintro e w1 ⟨rfl,V1,ho1,hb1⟩
 have hp2:=(un HPL2) V1 w1 ho1
 have HP2:=hide hp2
 have HB1:=hide hb1
 clear hp2 ho1 hb1 HPL HPL2
 go_wp2_with fail
 refine (un HP2).mono ?_
 rintro e w2 ⟨rfl,V2,ho2,hb2⟩
 obtain ⟨c0,c1,c2,fz⟩:=ho2.cells
 obtain ⟨gF,capF,eF,hcF,_,_,fzF,hbF⟩:=ho2.own.fib (i:=i) (by rw [hlen2]; exact hlt)
 rw [eF,hlen2] at c0
 rw [hnow2] at c1
 have HO2:=hide ho2
 have HB2:=hide (Below.trans (un HB1) hb2)
 have HEF:=hide eF
 clear ho2 hb2 eF HP2 HB1
 have hwl:IntKind.i64.wrap ((L:Int) - 1)=(L:Int) - 1:=by rw [IntKind.wrap_i64]; omega
 have hwb:=inB_ixB n L
 by_cases hix:ixB n L=true
 ·rw [hix] at hwb
  obtain ⟨k,hk⟩:∃ k:Nat,n=k:=⟨n.toNat,by have:=Qb.1 hix; omega⟩
  have hkL:k < L:=by have:=Qb.1 hix; omega
  have hR:=un HR
  rw [if_pos hix] at hR
  subst hk
  have hrd:=(un HO2).own.reads (un HFT).small
  rw [un HEF,hlen2,hnow2] at hrd
  have hln:=lineOf_any s2 _ w2 hrd (by rw [hnow2,hlen2]; omega) (fun b hb=>by
   obtain ⟨q,hq,rfl⟩:=List.getElem_of_mem hb
   have:=(un HCAL) q (by rw [← hlen2]; exact hq)
   have e:Za s2 q=s2.fibers[q]:=by simp [Za,List.getD,hq]
   rw [e] at this
   rw [hlen2]; exact this) (by rw [hlen2]; omega)
  unfold LinePost at hln
  rw [un HLN] at hln
  have HLO:=hide hln
  have HR1:=hide hR
  clear hrd hln hR hix HCAL HR
  go_wp2_with (first | (go_at_call 30; refine (Xc _ _ _ _).mono ?_; rw [hwb]; rintro e w' ⟨rfl,rfl⟩) | (go_at_call 31; refine (un HLO).mono ?_; rintro e w3 ⟨vl,bl,rfl,hk3,rfl,hil3⟩; have HK3:=hide hk3; have HI3:=hide hil3; clear hk3 hil3))
  have hha:=has_any l vl k w3 (un HI3)
  by_cases hin:(k:Int)∈l
  ·rw [decide_eq_true hin] at hha
   have hR:=un HR1
   rw [if_pos (.inl hin)] at hR
   subst hR
   refine hha.mono ?_
   rintro e w4 ⟨rfl,hk4⟩
   have HB4:=hide (Below.trans (un HB2) ((un HO2).below ((un HK3).trans hk4)))
   clear hha hk4 hin
   go_wp2
   go_ret
   exact ⟨rfl,un HB4,fun e=>by cases e⟩
  ·rw [decide_eq_false hin] at hha
   have HNI:=hide hin
   refine hha.mono ?_
   rintro e w4 ⟨rfl,hk4⟩
   have hk24:=(un HK3).trans hk4
   have ho4:=(un HO2).kept hk24
   have hb4:=Below.trans (un HB2) ((un HO2).below hk24)
   have hki:k≠i:=fun e=>hin (by rw [e]; exact un HIL)
   obtain ⟨d0,d1,_,dz⟩:=ho4.cells
   obtain ⟨gF',capF',eF',_,q0,q1,qz,_⟩:=ho4.own.fib (i:=k) (by rw [hlen2]; exact hkL)
   rw [un HEF] at eF' d0
   obtain ⟨⟨rfl⟩,-,rfl⟩:=(by simpa using eF':(gF=gF')∧True∧capF=capF')
   rw [hlen2] at d0
   rw [hnow2] at d1
   obtain ⟨xs,hrow,-⟩:=ho4.own.piece (.frames k) (by show k < s2.fibers.length; rw [hlen2]; exact hkL)
   obtain ⟨ofr,cfr,efr,-⟩:=Zo hrow
   rw [efr] at q0
   have hfq:Za s2 k=Za s k:=(un HOT) k hki
   have hne:¬ gF=bs:=fun e=>ho4.off .fibers trivial (by rw [un HEF,← e]; rfl)
   have hne':¬ bs=gF:=fun e=>hne e.symm
   have hk1:(k:Int) < (L:Int):=by omega
   have hkz:(0:Int)≤(k:Int):=by omega
   have hR:=un HR1
   have HO4:=hide ho4
   have HB4:=hide hb4
   have zF:=qz (k * 2 + 1)
   have z1:=dz 1
   rw [hfq] at q0
   generalize hqq:(Za s k).frames.length=q at *
   have HQ:=hide hqq
   clear hha hk4 hin hk24 ho4 hb4 eF' hrow dz qz c0 c1 c2 fz fzF hqq xs
   by_cases hq0:q=0
   ·subst hq0
    have hemp:(s2.fib (k:Int)).frames=[]:=by
     rw [Qp,hfq]; exact List.length_eq_zero_iff.1 (un HQ)
    rw [if_pos (.inr hemp)] at hR
    subst hR
    clear hemp
    go_wp2
    go_ret
    exact ⟨rfl,un HB4,fun e=>by cases e⟩
   ·have hqb:((q:Int) == 0)=false:=by rw [beq_eq_false_iff_ne]; omega
    have hnemp:¬ ((k:Int)∈l∨(s2.fib (k:Int)).frames=[]):=by
     rintro (e | e)
     ·exact (un HNI) e
     ·rw [Qp,hfq] at e
      have:=congrArg List.length e
      rw [un HQ] at this
      exact hq0 this
    rw [if_neg hnemp] at hR
    have HR2:=hide hR
    clear hR hnemp HR1
    go_wp2
    go_region
    generalize hwz:(w4.setCell ⟨gF,k * 2 + 1,none⟩ (.int .i64 i)).drew=wz
    have hk2:k < s2.fibers.length:=by rw [hlen2]; exact hkL
    obtain ⟨ho5,hb5⟩:=(un HO4).setCaller hk2 (un HEF) (i:Int)
    have hoz:OwnVar base wz bs V2 (Zf s2 k { Za s2 k with caller:=(i:Int) }):=by rw [← hwz]; exact OwnVar.same ho5 rfl
    have hbz:Below base w wz:=by rw [← hwz]; exact Below.drew (Below.trans (un HB4) hb5)
    obtain ⟨x0,x1,_,xz⟩:=hoz.cells
    have z1':=xz 1
    have ho6:=hoz.setNow (k:Int)
    have hb6:Below base w (wz.setCell ⟨bs,1,none⟩ (.int .i64 k)):=Below.trans hbz (Below.setCell (Below.refl _ _) hoz.low _)
    have hf4:Za { (Zf s2 k { Za s2 k with caller:=(i:Int) }) with now:=(k:Int) } k={ Za s2 k with caller:=(i:Int) }:=Xi _ hk2
    have hfl4:(Za { (Zf s2 k { Za s2 k with caller:=(i:Int) }) with now:=(k:Int) } k).frames.length=q:=by rw [hf4]; show (Za s2 k).frames.length=q; rw [hfq]; exact un HQ
    have hl4:k < ({ (Zf s2 k { Za s2 k with caller:=(i:Int) }) with now:=(k:Int) }:St).fibers.length:=by show k < (Zf s2 k _).fibers.length; rw [Zv]; exact hk2
    have hq1000:q≤1000:=by have:=(un HFT).frames k hk2; rw [hfq,un HQ] at this; exact this
    obtain ⟨g,cap,eg,htop⟩:=Qs ho6 (i:=k) hl4 (by rw [hfl4]; omega) (by rw [hfl4]; omega)
    have hR:=un HR2
    rw [Qy] at hR
    have HOZ:=hide hoz
    have HO6:=hide ho6
    have HB6:=hide hb6
    have HTOP:=hide htop
    have HEG:=hide eg
    have HR3:=hide hR
    have HF4:=hide hf4
    have HFL4:=hide hfl4
    have HL4:=hide hl4
    clear hwz ho5 hb5 hoz hbz ho6 hb6 htop hR hf4 xz d0 d1 q0 q1 zF z1 HR2 eg hl4 hfl4
    go_wp2_with fail
    refine (un HTOP).mono ?_
    rintro e w7 ⟨rfl,m,rfl⟩
    generalize hw7:(wz.setCell ⟨bs,1,none⟩ (.int .i64 k)).drewN m=w7
    have ho7:OwnVar base w7 bs V2 { (Zf s2 k { Za s2 k with caller:=(i:Int) }) with now:=(k:Int) }:=(un HO6).same (by rw [← hw7]; rfl)
    have hb7:Below base w w7:=by rw [← hw7]; exact below_drewN (un HB6) m
    have hfl4:=un HFL4
    have htat:({ (Zf s2 k { Za s2 k with caller:=(i:Int) }) with now:=(k:Int) }:St).top=frAt { (Zf s2 k { Za s2 k with caller:=(i:Int) }) with now:=(k:Int) } k (q - 1):=by
     unfold St.top
     show (St.fib _ (k:Int)).top=_
     rw [Qp,top_frAt,hfl4]
    have htr:frAt { (Zf s2 k { Za s2 k with caller:=(i:Int) }) with now:=(k:Int) } k (q - 1)=frAt s k ((Za s k).frames.length - 1):=by
     unfold frAt
     rw [un HF4]
     show (Za s2 k).frames.getD (q - 1) Fr.zero=_
     rw [hfq,un HQ]
    have hR:=un HR3
    rw [htat] at hR
    obtain ⟨g',cap',eg',_,_,f1,f2,f3,ffz,_⟩:=ho7.own.fr (un HL4) (j:=q - 1) (by rw [hfl4]; omega)
    rw [un HEG] at eg'
    obtain ⟨⟨rfl⟩,-,rfl⟩:=(by simpa using eg':(g=g')∧True∧cap=cap')
    have hlo:=ho7.own.loc (un HL4) (j:=q - 1) (by rw [hfl4]; omega)
    have hrun:Runs { (Zf s2 k { Za s2 k with caller:=(i:Int) }) with now:=(k:Int) } k:=by
     refine ⟨un HL4,by rw [hfl4]; omega,by rw [hfl4]; omega,?_⟩
     rw [hfl4,htr]
     have:=(un HFT).stack k (q - 1) hk2 (by rw [hfq,un HQ]; omega)
     have e:frAt s2 k (q - 1)=frAt s k ((Za s k).frames.length - 1):=by unfold frAt; rw [hfq,un HQ]
     rw [e] at this; exact this
    have hlc:(frAt s k ((Za s k).frames.length - 1)).at_=0→0 < (frAt s k ((Za s k).frames.length - 1)).locals.length:=(un HLOC) k hkL (un HNI) (by rw [un HQ]; omega)
    rw [← htr] at hlc
    generalize hs4:({ (Zf s2 k { Za s2 k with caller:=(i:Int) }) with now:=(k:Int) }:St)=s4 at *
    have HO7:=hide ho7
    have HB7:=hide hb7
    have HRN:=hide hrun
    clear hw7 ho7 hb7 eg' htat htr hrun HTOP HO6 HB6 HOZ HF4 hs4 HR3
    by_cases hat:(frAt s4 k (q - 1)).at_=0
    ·rw [if_pos hat] at hR
     obtain ⟨gl,cl,el,_,hcl,hfl,_⟩:=Jr hlo (hlc hat)
     rw [hat] at f1
     rw [el] at f2
     have hcell0:∃ u,w7.cell? ⟨gl,0,none⟩=some u:=⟨_,hcl 0 _ (ints_at (Zm _ 0 0 (hlc hat)))⟩
     obtain ⟨u0,hu0⟩:=hcell0
     have hz0:=hfl 0
     have hn1:(0:Int) < ((frAt s4 k (q - 1)).locals.length:Int):=by have:=hlc hat; omega
     have hfin:=(un HO7).setLocal (un HRN).lt (j:=q - 1) (q:=0) (by rw [hfl4]; omega) el v
     have HFIN:=hide hfin
     have HR4:=hide hR
     clear hR hfin hcl hfl hlo el
     go_wp2
     go_ret
     have hfin:=un HFIN
     refine ⟨by rw [← un HR4]; rfl,Below.trans (un HB7) hfin.2,fun _=>⟨V2,?_⟩⟩
     rw [← un HR4,Jm,hfl4]
     exact hfin.1
    ·rw [if_neg hat] at hR
     have hab:((frAt s4 k (q - 1)).at_ == 0)=false:=by rw [beq_eq_false_iff_ne]; exact hat
     subst hR
     have hrun:=un HRN
     have hpush:=push_any base bs V2 s4 k v w7 (un HO7) hrun.lt hrun.fr hrun.frs hrun.st
     have HPU:=hide hpush
     clear hpush hrun hat hlo hlc
     go_wp2_with (go_at_call 104; refine (un HPU).mono ?_; rintro e w8 ⟨rfl,V8,ho8,hb8⟩; have HO8:=hide ho8; have HB8:=hide hb8; clear ho8 hb8)
     go_ret
     exact ⟨rfl,Below.trans (un HB7) (un HB8),fun _=>⟨V8,un HO8⟩⟩
 ·have hif:ixB n L=false:=by simpa using hix
  rw [hif] at hwb
  have hR:=un HR
  rw [if_neg hix] at hR
  subst hR
  clear hix hif
  go_wp2_with (go_at_call 30; refine (Xc _ _ _ _).mono ?_; rw [hwb]; rintro e w' ⟨rfl,rfl⟩)
  go_ret
  exact ⟨rfl,un HB2,fun e=>by cases e⟩
def Qo (l:List Int) (a lo t:Nat):List Int:=(List.range lo).map fun q=>if a - t≤q∧q < a then l.getD (l.length - a + q) 0 else 0
theorem filled_len (l:List Int) (a lo t:Nat):(Qo l a lo t).length=lo:=by simp [Qo]
theorem filled_zero (l:List Int) (a lo:Nat):Qo l a lo 0=List.replicate lo 0:=by
 apply List.ext_getElem
 ·simp [Qo]
 ·intro k h1 h2
  simp [Qo]
  intro h3 h4
  omega
theorem filled_step (l:List Int) {a lo t:Nat} (ht:t < a) (hl:a≤l.length):(Qo l a lo t).set (a - 1 - t) (l.getD (l.length - t - 1) 0)=Qo l a lo (t + 1):=by
 apply List.ext_getElem
 ·simp [Qo]
 ·intro k h1 h2
  rw [List.getElem_set]
  simp only [Qo,List.getElem_map,List.getElem_range]
  split
  ·rename_i e
   subst e
   rw [if_pos (by omega)]
   congr 1
   omega
  ·rename_i e
   by_cases hk:a - t≤k∧k < a
   ·rw [if_pos hk,if_pos (by omega)]
   ·rw [if_neg hk,if_neg (by omega)]
theorem filled_all (l:List Int) {a lo:Nat} (ha:a≤lo) (hl:a≤l.length):Qo l a lo a=l.drop (l.length - a)++List.replicate (lo - (l.drop (l.length - a)).length) 0:=by
 have hdl:(l.drop (l.length - a)).length=a:=by simp; omega
 rw [hdl]
 apply List.ext_getElem
 ·simp [Qo]; omega
 ·intro k h1 h2
  simp only [Qo,List.getElem_map,List.getElem_range]
  by_cases hk:k < a
  ·rw [if_pos (by omega),List.getElem_append_left (by omega),List.getElem_drop]
   have:l.length - a + k < l.length:=by omega
   simp [List.getD,this]
  ·rw [if_neg (by omega),List.getElem_append_right (by omega)]
   simp
theorem ints_arr {l:List Int} {i:Nat} {z:Int} (h:l[i]?=some z):(ints l).toArray[i]?=some (.int .i64 z):=by
 rw [List.getElem?_toArray]; exact ints_at h
theorem OwnVar.setOff {base bs:Nat} {w:World} {V:Key→Value} {s:St} (h:OwnVar base w bs V s) {b j:Nat} (hb:Own.off V s b) (hne:bs≠b) (u:Value):OwnVar base (w.setCell ⟨b,j,none⟩ u) bs V s :=
 ⟨by rw [Below.heap_setCell _ _ _ _ hne]; exact h.var,h.own.setOff (a:=⟨b,j,none⟩) hb u,h.off,h.low⟩
theorem cell_other {w:World} {b i B j:Nat} {v:Value} (h:w.cell? ⟨b,i,none⟩=some v) (hne:b≠B) (u:Value):(w.setCell ⟨B,j,none⟩ u).cell? ⟨b,i,none⟩=some v:=by
 rw [World.cell?_of_block (w:=w)]
 ·exact h
 ·exact Below.heap_setCell w _ _ _ hne
theorem frame_added (base bs:Nat) (V:Key→Value) (s:St) (i gF capF BL lo:Nat) (w:World) (h:OwnVar base w bs V s) (hi:i < s.fibers.length) (hF:V .fibers=.slice (some ⟨gF,0,none⟩) s.fibers.length capF)
  (hfr:(Za s i).frames.length≤1000) (f:Fr) (hst:f.stack=[]) (hlen:f.locals.length=lo) (hlo:lo≤1000) (hBL:w.heap[BL]?=some (.cells (ints f.locals).toArray 3)) (hoff:Own.off V s BL) (hlow:base≤BL) (hbsL:bs≠BL) :
  ∃ v' w',(Builtin.append_ #[44,44] 44 #[V (.frames i),.slice (some ⟨w.heap.size,0,none⟩) 1 1]).run Tryz.prog (w.alloc (.cells #[.int .i64 f.fn,.int .i64 f.at_,.slice (some ⟨BL,0,none⟩) lo lo,.slice none 0 0] 48)).drew=.ok v' w' ∧
   (∃ o c,v'=.slice o ((Za s i).frames.length + 1) c)∧(∃ V',OwnVar base (w'.setCell ⟨gF,i * 2,none⟩ v') bs V' (Zf s i { Za s i with frames:=(Za s i).frames++[f] }))∧Below base w w' ∧
   (∀ b,b < w.heap.size→(V (.frames i)).ownBlock≠some b→w'.heap[b]?=w.heap[b]?):=by
 subst hlen
 have hku:Kept w (w.alloc (.cells #[.int .i64 f.fn,.int .i64 f.at_,.slice (some ⟨BL,0,none⟩) f.locals.length f.locals.length,.slice none 0 0] 48)).drew:=((Kept.refl w).alloc _).drew
 have hu:=h.kept hku
 obtain ⟨v',w',V',h1,h2,h3,h4,_⟩:=frame_comes hu hi hF hfr f hst hlo (Zt (Zg hBL _)) hoff hlow hbsL (Zt (Zd rfl))
 exact ⟨v',w',h1,h2,⟨V',h3⟩,Below.grown (h.below hku) h4 (by have:=h.low; have:=lt_of_block hu.var; omega) (fun r hr=>((hu.own.piece (.frames i) hi).block r hr).1),fun b hb hne=>(h4.block b (Nat.lt_of_lt_of_le hb hku.size) (fun e=>hne e.symm)).trans (hku.block b hb)⟩
theorem called_any (base bs:Nat) (V:Key→Value) (s:St) (i fi n cp bp op a lo:Nat) (w:World) (h:OwnVar base w bs V s) (hn:s.now=i) (hr:Runs s i)
  (hpc:∀ u,Below base w u→u.cell? ⟨bp,op + fi * 3,none⟩=some (.int .i64 a)∧u.cell? ⟨bp,op + fi * 3 + 1,none⟩=some (.int .i64 lo)) (hfi:fi < n) (hal:a≤lo) (hlo:lo≤1000) (hst:a≤(frAt s i ((Za s i).frames.length - 1)).stack.length) (hf6:(Za s i).frames.length≤6) (R:St × Int)
  (hR:(if (Za s i).frames.length=6 then (St.zero,(2:Int)) else (Zf (Xj s i a) i { Za (Xj s i a) i with frames:=(Za (Xj s i a) i).frames++[⟨fi,0,(frAt s i ((Za s i).frames.length - 1)).stack.drop ((frAt s i ((Za s i).frames.length - 1)).stack.length - a)++List.replicate (lo - ((frAt s i ((Za s i).frames.length - 1)).stack.drop ((frAt s i ((Za s i).frames.length - 1)).stack.length - a)).length) 0,[]⟩] },0))=R) :
  Calls Tryz.prog 106 #[.slice (some ⟨bp,op,none⟩) n cp,.pointer (some ⟨bs,0,none⟩),.int .i64 fi] w fun e w'=>Qc base bs R w e w':=by
 have hmk:=make_ints lo (by omega)
 have hbw:=lt_of_block h.var
 have hlow:=h.low
 obtain ⟨p0,p1⟩:=hpc w (Below.refl _ _)
 have hlp:=Xd p0
 simp only at hlp
 have HO:=hide h
 have HR:=hide hR
 have HRU:=hide hr
 have HPC:=hide hpc
 have hf1:(fi:Int) < (n:Int):=by omega
 have hf0:(0:Int)≤(fi:Int):=by omega
 have hwa:IntKind.i64.wrap ((a:Int) - 1)=(a:Int) - 1:=by rw [IntKind.wrap_i64]; omega
 clear h hR hpc
 go_enter Tryz.func106,Tryz.ntmps106
 go_wp2
 have hrep:Array.replicate lo (Value.int .i64 0)=(ints (Qo (frAt s i ((Za s i).frames.length - 1)).stack a lo 0)).toArray:=by rw [filled_zero]; simp [ints]
 rw [hrep]
 generalize hw1:(w.alloc (.cells (ints (Qo (frAt s i ((Za s i).frames.length - 1)).stack a lo 0)).toArray 3)).alloc (.cells #[.int .i64 fi,.int .i64 0,.slice (some ⟨w.heap.size,0,none⟩) lo lo,.slice none 0 0] 48)=w1 at *
 generalize hBL:w.heap.size=BL at *
 generalize hBX:BL + 1=BX at *
 have L0:w1.heap[BL]?=some (.cells (ints (Qo (frAt s i ((Za s i).frames.length - 1)).stack a lo 0)).toArray 3):=by rw [← hw1]; exact Zg (Zd hBL) _
 have L1:w1.heap[BX]?=some (.cells #[.int .i64 fi,.int .i64 0,.slice (some ⟨BL,0,none⟩) lo lo,.slice none 0 0] 48):=by rw [← hw1]; exact Zd (by simp [hBL,hBX])
 have ho1:OwnVar base w1 bs V s:=by rw [← hw1]; exact ((un HO).alloc _).alloc _
 have hb1:Below base w w1:=by rw [← hw1]; exact Below.alloc (Below.alloc (Below.refl _ w) (by omega) _) (by simp; omega) _
 have hoffL:Own.off V s BL:=(un HO).own.new_off (.inl (by omega))
 have HOL:=hide hoffL
 have HL0:=hide L0
 have HL1:=hide L1
 have HO1:=hide ho1
 have HB1:=hide hb1
 have HBW:Hid (w.heap.size=BL∧BX=BL + 1):=hide ⟨hBL,hBX.symm⟩
 generalize hst':(frAt s i ((Za s i).frames.length - 1)).stack=l at *
 have HST:=hide hst'
 clear hw1 L0 L1 ho1 hb1 hoffL hrep hBL hBX hst' p0 p1 hlp
 go_loopw [8] (fun s8 wr=>∃ (t:Nat) (V':Key→Value),t≤a∧s8=.int .i64 ((a:Int) - 1 - t)∧Hid (OwnVar base wr bs V' (Xj s i t))∧Hid (V' (.frames i)=V (.frames i))∧Hid (∀ k,(V' k).ownBlock=(V k).ownBlock)∧Hid (wr.heap[BL]?=some (.cells (ints (Qo l a lo t)).toArray 3))∧Hid (wr.heap[BX]?=some (.cells #[.int .i64 fi,.int .i64 0,.slice (some ⟨BL,0,none⟩) lo lo,.slice none 0 0] 48))∧Hid (Below base w wr)) (fun s8 _=>(intOf s8 + 1).toNat)
 case atStart=>exact ⟨0,V,Nat.zero_le _,by simp,hide (by rw [takeTop_zero (un HRU)]; exact un HO1),rfl,hide (fun _=>rfl),HL0,HL1,HB1⟩
 case round =>
  obtain ⟨t,V2,hta,rfl,HO2,HVF,HVB,HL2,HX2,HB2⟩:=hrel
  obtain ⟨g,cap,eg,_⟩:=(un HO).own.fr (i:=i) (j:=0) (un HRU).lt (un HRU).fr
  have hgw:g < w.heap.size:=(((un HO).own.piece (.frames i) (un HRU).lt).block g (by rw [eg]; rfl)).2
  have hgL:g≠BL∧g≠BX:=by have:=un HBW; omega
  have hVg:(V2 (.frames i)).ownBlock=some g:=by rw [un HVF,eg]; rfl
  have HGL:=hide hgL
  have HVG:=hide hVg
  obtain ⟨f1,f2,f3,f4,f5,f6⟩:=takeTop_facts (un HRU) t
  clear hgL hVg eg hgw
  by_cases hlt:t < a
  ·obtain ⟨k,hk⟩:∃ k:Nat,(a:Int) - 1 - t=k:=⟨a - 1 - t,by omega⟩
   have hka:k=a - 1 - t:=by omega
   have hkl:k < lo:=by omega
   obtain ⟨hpt,hlv⟩:=pull_take hn (un HRU) (t:=t) (by rw [un HST]; omega)
   have hpull:=fun (u:World) (hu:u.heap=wr.heap)=>Kj base bs V2 (Xj s i t) i u ((un HO2).same hu) (by rw [f2]; exact hn) f6.lt f6.fr f6.frs f6.st (by rw [f4,f5,List.length_take,un HST]; omega)
   rw [hpt,hlv,un HST] at hpull
   have HPU:=hide hpull
   have x2:wr.cell? ⟨BX,2,none⟩=some (.slice (some ⟨BL,0,none⟩) lo lo):=Zk (un HX2) rfl
   have HX:=hide x2
   have hk1:(k:Int) < (lo:Int):=by omega
   have hkz:(0:Int)≤(k:Int):=by omega
   have hwk:IntKind.i64.wrap ((k:Int) - 1)=(k:Int) - 1:=by rw [IntKind.wrap_i64]; omega
   have hfs:=filled_step l (a:=a) (lo:=lo) (t:=t) hlt (by rw [← un HST]; rw [un HST]; exact hst)
   rw [← hka] at hfs
   have HFS:=hide hfs
   generalize hz:l.getD (l.length - t - 1) 0=z at *
   rw [hk]
   have HKA:=hide hka
   have HHK:=hide hk
   clear hpull hpt hlv x2 hfs f1 f2 f3 f4 f5 f6 hz hka hk
   go_wp2_with fail
   go_region_held3 (fun u=>u.cell? ⟨BX,2,none⟩=some (.slice (some ⟨BL,0,none⟩) lo lo))
    (first | exact (cell_other (Zk hXA rfl) (by have:=un HBW; omega) _) | exact Zk hXA rfl | exact un HX)
    (first | (go_at_call 105; refine ((un HPU) wr.drew rfl).mono ?_; rintro e wA ⟨rfl,VA,hoA,hbA,hvfA,hvbA,hheap⟩; have hXA:wA.heap[BX]?=_:=(hheap BX (by rw [un HVG]; intro e; exact (un HGL).2 (by cases e; rfl))).trans (un HX2); have hLA:wA.heap[BL]?=_:=(hheap BL (by rw [un HVG]; intro e; exact (un HGL).1 (by cases e; rfl))).trans (un HL2); have yk:wA.cell? ⟨BL,k,none⟩=some (.int .i64 ((Qo l a lo t).getD k 0)):=Zk hLA (ints_arr (Zm _ _ 0 (by rw [filled_len]; exact hkl))); have zk:=Zi hLA k))
   all_goals go_wp2_with fail
   have hoff:Own.off VA (Xj s i (t + 1)) BL:=fun kk hkk e=>by
    rw [hvbA,un HVB] at e
    exact (un HOL) kk ((Ja _ (un HRU).lt kk).1 hkk) e
   have hbsL:bs≠BL:=by have:=un HBW; omega
   refine ⟨⟨t + 1,VA,by omega,by have:=un HHK; congr 1; omega,hide (hoA.setOff hoff hbsL _),hide (hvfA.trans (un HVF)),hide (fun kk=>(hvbA kk).trans ((un HVB) kk)),hide ?_,hide ?_,hide ?_⟩,?_⟩
   ·have:=Zs hLA k (.int .i64 z)
    rw [this,← un HFS]
    simp [ints,List.map_set]
   ·rw [Below.heap_setCell _ _ _ _ (by have:=un HBW; simp only; omega)]
    exact hXA
   ·exact Below.setCell (Below.trans (un HB2) (Below.trans (Below.drew (Below.refl _ wr)) hbA)) (by have:=un HBW; simp only; omega) _
   ·simp only [intOf]; omega
  ·obtain rfl:t=a:=by omega
   obtain ⟨c0,c1,_,fz⟩:=(un HO2).cells
   obtain ⟨gF,capF,eF,_,k0,k1,fzF,hbF⟩:=(un HO2).own.fib (i:=i) f6.lt
   obtain ⟨g',cap',eg',hcap,_⟩:=(un HO2).own.fr (i:=i) (j:=0) f6.lt f6.fr
   rw [eF,f1] at c0
   rw [f2,hn] at c1
   rw [eg',f4] at k0
   have hi1:(i:Int) < (s.fibers.length:Int):=by have:=(un HRU).lt; omega
   have hi0:(0:Int)≤(i:Int):=by omega
   have hge:decide ((0:Int)≤(t:Int) - 1 - (t:Int))=false:=decide_eq_false (by omega)
   have hR:=un HR
   generalize hq:(Za s i).frames.length=q at *
   have HQ:=hide hq
   by_cases h6:q=6
   ·subst h6
    rw [if_pos rfl] at hR
    subst hR
    go_wp2
    go_quiet (fail)
    go_wp2
    go_ret
    exact ⟨rfl,below_drewN (un HB2) _,fun e=>by cases e⟩
   ·rw [if_neg h6] at hR
    have hb6:((q:Int) == 6)=false:=by rw [beq_eq_false_iff_ne]; omega
    have HR2:=hide hR
    clear hR
    go_wp2
    go_quiet (fail)
    go_wp2
    generalize hw3:wr.drewN nq=w3
    have hsm:w3.heap=wr.heap:=by rw [← hw3]; rfl
    have ho3:OwnVar base w3 bs V2 (Xj s i t):=(un HO2).same hsm
    have hb3:Below base w w3:=by rw [← hw3]; exact below_drewN (un HB2) nq
    have d0:w3.cell? ⟨bs,0,none⟩=some (.slice (some ⟨gF,0,none⟩) s.fibers.length capF):=by rw [← hw3]; exact c0
    have d1:w3.cell? ⟨bs,1,none⟩=some (.int .i64 i):=by rw [← hw3]; exact c1
    have e0:w3.cell? ⟨gF,i * 2,none⟩=some (.slice (some ⟨g',0,none⟩) q cap'):=by rw [← hw3]; exact k0
    have LX:w3.heap[BX]?=some (.cells #[.int .i64 fi,.int .i64 0,.slice (some ⟨BL,0,none⟩) lo lo,.slice none 0 0] 48):=by rw [hsm]; exact un HX2
    have x0:w3.cell? ⟨BX,0,none⟩=some (.int .i64 fi):=Zk LX rfl
    have x1:w3.cell? ⟨BX,1,none⟩=some (.int .i64 0):=Zk LX rfl
    have x2:w3.cell? ⟨BX,2,none⟩=some (.slice (some ⟨BL,0,none⟩) lo lo):=Zk LX rfl
    have x3:w3.cell? ⟨BX,3,none⟩=some (.slice none 0 0):=Zk LX rfl
    clear hw3 c0 c1 k0 LX
    have HYS:Hid (∀ u,Kept w3 u→u.cell? ⟨bs,0,none⟩=some (.slice (some ⟨gF,0,none⟩) s.fibers.length capF)∧u.cell? ⟨bs,1,none⟩=some (.int .i64 i)∧u.cell? ⟨BX,0,none⟩=some (.int .i64 fi)∧u.cell? ⟨BX,1,none⟩=some (.int .i64 0)∧u.cell? ⟨BX,2,none⟩=some (.slice (some ⟨BL,0,none⟩) lo lo)∧u.cell? ⟨BX,3,none⟩=some (.slice none 0 0)∧u.cell? ⟨gF,i * 2,none⟩=some (.slice (some ⟨g',0,none⟩) q cap')):=hide (fun u hu=>⟨hu.cell d0,hu.cell d1,hu.cell x0,hu.cell x1,hu.cell x2,hu.cell x3,hu.cell e0⟩)
    have hoffL3:Own.off V2 (Xj s i t) BL:=fun kk hkk e=>by
     rw [un HVB] at e
     exact (un HOL) kk ((Ja _ (un HRU).lt kk).1 hkk) e
    have hF3:V2 .fibers=.slice (some ⟨gF,0,none⟩) (Xj s i t).fibers.length capF:=eF
    have hgb:(V2 (.frames i)).ownBlock=some g':=by rw [eg']; rfl
    have hg1:g'≠bs:=fun e=>ho3.off (.frames i) f6.lt (by rw [hgb,e])
    have hg2:g'≠gF:=fun e=>by have:=ho3.own.apart (.frames i) .fibers gF f6.lt trivial (by rw [hgb,e]) (by rw [eF]; rfl); cases this
    have hgw:g < BL:=by have:=(((un HO).own.piece (.frames i) (un HRU).lt).block g (by rw [← un HVB]; exact un HVG)).2; have:=un HBW; omega
    have hgg:g'=g:=by have:=un HVG; rw [hgb] at this; exact Option.some.inj this
    have hg3:g'≠BX:=by have:=un HBW; omega
    have hlbs:=Xd d0
    have hlBX:=Xd x0
    have hlgF:=Xd e0
    simp only at hlbs hlBX hlgF
    obtain ⟨v5,w5,hr5,⟨o5,c5,rfl⟩,ho5,hb5,hk5⟩:=frame_added base bs V2 (Xj s i t) i gF capF BL lo w3 ho3 f6.lt hF3 (by rw [f4]; omega) ⟨fi,0,Qo l t lo t,[]⟩ rfl (filled_len _ _ _ _) hlo (by rw [hsm]; exact un HL2) hoffL3 (by have:=un HBW; omega) (by have:=un HBW; omega)
    rw [hgb] at hk5
    rw [f4] at ho5 hr5
    rw [eg',f4] at hr5
    dsimp only at hr5
    have HR5:=hide hr5
    have HO5:=hide ho5
    have HB5:=hide (Below.trans hb3 hb5)
    have sm:∀ {b j:Nat} {vv:Value},b < w3.heap.size→g'≠b→w3.cell? ⟨b,j,none⟩=some vv→w5.cell? ⟨b,j,none⟩=some vv:=fun h1 h2 h3=>(World.cell?_of_block (w:=w3) (hk5 _ h1 (fun e=>h2 (Option.some.inj e)))).trans h3
    have HS5:Hid (w5.cell? ⟨bs,0,none⟩=some (.slice (some ⟨gF,0,none⟩) s.fibers.length capF)∧w5.cell? ⟨bs,1,none⟩=some (.int .i64 i)∧w5.cell? ⟨BX,0,none⟩=some (.int .i64 fi)∧w5.cell? ⟨BX,1,none⟩=some (.int .i64 0)∧w5.cell? ⟨BX,2,none⟩=some (.slice (some ⟨BL,0,none⟩) lo lo)∧w5.cell? ⟨BX,3,none⟩=some (.slice none 0 0)∧w5.cell? ⟨gF,i * 2,none⟩=some (.slice (some ⟨g',0,none⟩) q cap')):=hide ⟨sm hlbs hg1 d0,sm hlbs hg1 d1,sm hlBX hg3 x0,sm hlBX hg3 x1,sm hlBX hg3 x2,sm hlBX hg3 x3,sm hlgF hg2 e0⟩
    have fz5:w5.frozen? ⟨gF,i * 2,none⟩=false:=(World.frozen?_of_block (w:=w3) (hk5 gF hlgF (fun e=>hg2 (Option.some.inj e)))).trans ((World.frozen?_of_block (w:=wr) (a:=⟨gF,i * 2,none⟩) (by rw [hsm])).trans (fzF _))
    have HFZ:=hide fz5
    have HFA:Hid (Qo l t lo t=l.drop (l.length - t)++List.replicate (lo - (l.drop (l.length - t)).length) 0):=hide (filled_all l hal hst)
    clear hsm
    clear hr5 ho5 hb5 hk5 sm fz5 hoffL3 hF3 hgb hg1 hg2 hg3 hgw hgg hlbs hlBX hlgF
    refine Kf 24 (fun u=>u.cell? ⟨bs,0,none⟩=some (.slice (some ⟨gF,0,none⟩) s.fibers.length capF)∧u.cell? ⟨bs,1,none⟩=some (.int .i64 i)∧u.cell? ⟨BX,0,none⟩=some (.int .i64 fi)∧u.cell? ⟨BX,1,none⟩=some (.int .i64 0)∧u.cell? ⟨BX,2,none⟩=some (.slice (some ⟨BL,0,none⟩) lo lo)∧u.cell? ⟨BX,3,none⟩=some (.slice none 0 0)∧u.cell? ⟨gF,i * 2,none⟩=some (.slice (some ⟨g',0,none⟩) q cap')) (by kernel_rfl) ?_
    have hHeld:=(un HYS) _ (Kept.refl w3).drew
    refine takeT (i:=0) (v:=?_) rfl (by kernel_rfl) (by kernel_rfl) (by kernel_rfl) (by kernel_rfl) (fun _ _ _ h=>h) (by rfl) (fun u hSu=>?_) hHeld ?_
    rotate_left
    ·((try dsimp only at hSu); go_simp) <;> with_reducible rfl
    simp only [PS]
    refine takeT (i:=1) (v:=?_) rfl (by kernel_rfl) (by kernel_rfl) (by kernel_rfl) (by kernel_rfl) (fun _ _ _ h=>h) (by rfl) (fun u hSu=>?_) hHeld ?_
    rotate_left
    ·((try dsimp only at hSu); go_simp) <;> with_reducible rfl
    simp only [PS]
    refine takeT (i:=2) (v:=?_) rfl (by kernel_rfl) (by kernel_rfl) (by kernel_rfl) (by kernel_rfl) (fun _ _ _ h=>h) (by rfl) (fun u hSu=>?_) hHeld ?_
    rotate_left
    ·((try dsimp only at hSu); go_simp) <;> with_reducible rfl
    simp only [PS]
    refine takeT (i:=3) (v:=?_) rfl (by kernel_rfl) (by kernel_rfl) (by kernel_rfl) (by kernel_rfl) (fun _ _ _ h=>h) (by rfl) (fun u hSu=>?_) hHeld ?_
    rotate_left
    ·((try dsimp only at hSu); go_simp) <;> with_reducible rfl
    simp only [PS]
    refine takeT (i:=4) (v:=?_) rfl (by kernel_rfl) (by kernel_rfl) (by kernel_rfl) (by kernel_rfl) (fun _ _ _ h=>h) (by rfl) (fun u hSu=>?_) hHeld ?_
    rotate_left
    ·((try dsimp only at hSu); go_simp) <;> with_reducible rfl
    simp only [PS]
    refine takeT (i:=5) (v:=?_) rfl (by kernel_rfl) (by kernel_rfl) (by kernel_rfl) (by kernel_rfl) (fun _ _ _ h=>h) (by rfl) (fun u hSu=>?_) hHeld ?_
    rotate_left
    ·((try dsimp only at hSu); go_simp) <;> with_reducible rfl
    simp only [PS]
    refine takeT (i:=6) (v:=?_) rfl (by kernel_rfl) (by kernel_rfl) (by kernel_rfl) (by kernel_rfl) (fun _ _ _ h=>h) (by rfl) (fun u hSu=>?_) hHeld ?_
    rotate_left
    ·((try dsimp only at hSu); go_simp) <;> with_reducible rfl
    simp only [PS]
    refine takeT (i:=7) (v:=?_) rfl (by kernel_rfl) (by kernel_rfl) (by kernel_rfl) (by kernel_rfl) (fun _ _ _ h=>h) (by rfl) (fun u hSu=>?_) hHeld ?_
    rotate_left
    ·((try dsimp only at hSu); go_simp) <;> with_reducible rfl
    simp only [PS]
    refine takeT (i:=8) (v:=?_) rfl (by kernel_rfl) (by kernel_rfl) (by kernel_rfl) (by kernel_rfl) (fun _ _ _ h=>h) (by rfl) (fun u hSu=>?_) hHeld ?_
    rotate_left
    ·((try dsimp only at hSu); go_simp) <;> with_reducible rfl
    simp only [PS]
    refine takeT (i:=9) (v:=?_) rfl (by kernel_rfl) (by kernel_rfl) (by kernel_rfl) (by kernel_rfl) (fun _ _ _ h=>h) (by rfl) (fun u hSu=>?_) hHeld ?_
    rotate_left
    ·((try dsimp only at hSu); go_simp) <;> with_reducible rfl
    simp only [PS]
    refine takeT (i:=10) (v:=?_) rfl (by kernel_rfl) (by kernel_rfl) (by kernel_rfl) (by kernel_rfl) (fun _ _ _ h=>h) (by rfl) (fun u hSu=>?_) hHeld ?_
    rotate_left
    ·((try dsimp only at hSu); go_simp) <;> with_reducible rfl
    simp only [PS]
    refine takeT (i:=11) (v:=?_) rfl (by kernel_rfl) (by kernel_rfl) (by kernel_rfl) (by kernel_rfl) (fun _ _ _ h=>h) (by rfl) (fun u hSu=>?_) hHeld ?_
    rotate_left
    ·((try dsimp only at hSu); go_simp) <;> with_reducible rfl
    simp only [PS]
    refine takeT (i:=12) (v:=?_) rfl (by kernel_rfl) (by kernel_rfl) (by kernel_rfl) (by kernel_rfl) (fun _ _ _ h=>h) (by rfl) (fun u hSu=>?_) hHeld ?_
    rotate_left
    ·((try dsimp only at hSu); go_simp) <;> with_reducible rfl
    simp only [PS]
    refine takeT (i:=13) (v:=?_) rfl (by kernel_rfl) (by kernel_rfl) (by kernel_rfl) (by kernel_rfl) (fun _ _ _ h=>h) (by rfl) (fun u hSu=>?_) hHeld ?_
    rotate_left
    ·((try dsimp only at hSu); go_simp) <;> with_reducible rfl
    simp only [PS]
    refine takeT (i:=14) (v:=?_) rfl (by kernel_rfl) (by kernel_rfl) (by kernel_rfl) (by kernel_rfl) (fun _ _ _ h=>h) (by rfl) (fun u hSu=>?_) hHeld ?_
    rotate_left
    ·((try dsimp only at hSu); go_simp) <;> with_reducible rfl
    simp only [PS]
    refine takeT (i:=15) (v:=?_) rfl (by kernel_rfl) (by kernel_rfl) (by kernel_rfl) (by kernel_rfl) (fun _ _ _ h=>h) (by rfl) (fun u hSu=>?_) hHeld ?_
    rotate_left
    ·((try dsimp only at hSu); go_simp) <;> with_reducible rfl
    simp only [PS]
    refine takeT (i:=16) (v:=?_) rfl (by kernel_rfl) (by kernel_rfl) (by kernel_rfl) (by kernel_rfl) (fun _ _ _ h=>h) (by rfl) (fun u hSu=>?_) hHeld ?_
    rotate_left
    ·((try dsimp only at hSu); go_simp) <;> with_reducible rfl
    simp only [PS]
    refine takeT (i:=17) (v:=?_) rfl (by kernel_rfl) (by kernel_rfl) (by kernel_rfl) (by kernel_rfl) (fun _ _ _ h=>h) (by rfl) (fun u hSu=>?_) hHeld ?_
    rotate_left
    ·((try dsimp only at hSu); go_simp) <;> with_reducible rfl
    simp only [PS]
    refine takeT (i:=18) (v:=?_) rfl (by kernel_rfl) (by kernel_rfl) (by kernel_rfl) (by kernel_rfl) (fun _ _ _ h=>h) (by rfl) (fun u hSu=>?_) hHeld ?_
    rotate_left
    ·((try dsimp only at hSu); go_simp) <;> with_reducible rfl
    simp only [PS]
    refine takeT (i:=19) (v:=?_) rfl (by kernel_rfl) (by kernel_rfl) (by kernel_rfl) (by kernel_rfl) (fun _ _ _ h=>h) (by rfl) (fun u hSu=>?_) hHeld ?_
    rotate_left
    ·((try dsimp only at hSu); go_simp) <;> with_reducible rfl
    simp only [PS]
    refine Zn (i:=20) rfl (by kernel_rfl) (fun K hK=>?_)
    go_simp
    refine hK.out _ _ (fun _=>(un HYS) _ (((Kept.refl w3).alloc _).drew)) ?_
    clear hK K
    try simp only [PS]
    refine Zn (i:=21) rfl (by kernel_rfl) (fun K hK=>?_)
    rw [if_pos (by rfl)]
    refine Qq (v:=.slice (some ⟨g',0,none⟩) q cap') _ _ _ 44 rfl rfl rfl (un HR5) ?_
    refine hK.out _ _ (fun _=>un HS5) ?_
    clear hK K
    try simp only [PS]
    refine Zn (i:=22) rfl (by kernel_rfl) (fun K hK=>?_)
    go_simp
    refine hK.out _ _ (fun _=>un HS5) ?_
    clear hK K
    try simp only [PS]
    refine Zn (i:=23) rfl (by kernel_rfl) (fun K hK=>?_)
    go_simp
    refine hK.out _ _ (fun _=>un HS5) ?_
    clear hK K
    try simp only [PS]
    have g5:=(un HS5).2.2.2.2.2.2
    have fz5:=un HFZ
    refine Zn (i:=24) rfl (by kernel_rfl) (fun K hK=>?_)
    go_simp
    refine hK.out _ _ (fun h=>absurd rfl h) ?_
    clear hK K
    refine Xx (by kernel_rfl) ?_ _
    clear g5 fz5
    go_wp2
    go_ret
    obtain ⟨V5,hov⟩:=un HO5
    refine ⟨?_,?_,fun _=>⟨V5,?_⟩⟩
    ·rw [← un HR2]; rfl
    ·exact Below.setCell (un HB5) hbF _
    ·rw [← un HR2,← un HFA]
     exact hov
theorem truth_any (b:Bool) (w:World):Calls Tryz.prog 133 #[.bool b] w fun e w'=>e=.returned (.int .i64 (truthS b))∧w=w':=by
 cases b with
 | true =>
  go_enter Tryz.func133,Tryz.ntmps133
  go_wp2
  go_ret
  exact ⟨rfl,rfl⟩
 | false =>
  go_enter Tryz.func133,Tryz.ntmps133
  go_wp2
  go_ret
  exact ⟨rfl,rfl⟩
theorem reckoned_any (kd a b:Int) (w:World):Calls Tryz.prog 111 #[.int .i64 kd,.int .i64 a,.int .i64 b] w fun e w'=>e=.returned (.int .i64 (Qd kd a b))∧w=w':=by
 unfold Qd
 by_cases h4:kd=4
 ·subst h4
  rw [if_pos rfl,← wrap64_S]
  go_enter Tryz.func111,Tryz.ntmps111
  go_wp2
  go_ret
  exact ⟨rfl,rfl⟩
 rw [if_neg h4]
 have b4:(kd == 4)=false:=by rw [beq_eq_false_iff_ne]; exact h4
 clear h4
 by_cases h5:kd=5
 ·subst h5
  rw [if_pos rfl,← wrap64_S]
  go_enter Tryz.func111,Tryz.ntmps111
  go_wp2
  go_ret
  exact ⟨rfl,rfl⟩
 rw [if_neg h5]
 have b5:(kd == 5)=false:=by rw [beq_eq_false_iff_ne]; exact h5
 clear h5
 by_cases h6:kd=6
 ·subst h6
  rw [if_pos rfl,← wrap64_S]
  go_enter Tryz.func111,Tryz.ntmps111
  go_wp2
  go_ret
  exact ⟨rfl,rfl⟩
 rw [if_neg h6]
 have b6:(kd == 6)=false:=by rw [beq_eq_false_iff_ne]; exact h6
 clear h6
 by_cases h7:kd=7
 ·subst h7
  rw [if_pos rfl]
  go_enter Tryz.func111,Tryz.ntmps111
  go_wp2_with (go_at_call 133; refine (truth_any _ _).mono ?_; rintro e w' ⟨rfl,rfl⟩)
  go_ret
  exact ⟨rfl,rfl⟩
 rw [if_neg h7]
 have b7:(kd == 7)=false:=by rw [beq_eq_false_iff_ne]; exact h7
 clear h7
 go_enter Tryz.func111,Tryz.ntmps111
 go_wp2_with (go_at_call 133; refine (truth_any _ _).mono ?_; rintro e w' ⟨rfl,rfl⟩)
 go_ret
 exact ⟨rfl,rfl⟩
theorem next_fits {s:St} {i:Nat} (hn:s.now=i) (hr:Runs s i) (ai:Nat) (h:Fits s):Fits (Ze s i ai):=by
 obtain ⟨h1,h2,h3,h4,h5,h6,h7,h8⟩:=Qv hn hr ai
 refine ⟨by rw [h2]; exact h.fibers,by rw [h3]; exact h.out,fun a ha=>by rw [h5]; rw [h2] at ha; exact h.frames a ha,fun a b ha hb=>?_,fun a b ha hb=>?_⟩
 ·rw [(next_fr hr ai a b).2.1]; rw [h2] at ha; rw [h5] at hb; exact h.locals a b ha hb
 ·rw [(next_fr hr ai a b).1]; rw [h2] at ha; rw [h5] at hb; exact h.stack a b ha hb
theorem next_callers {s:St} {i:Nat} (hn:s.now=i) (hr:Runs s i) (ai:Nat) (h:∀ b,b∈s.fibers→-1≤b.caller∧b.caller < s.fibers.length):∀ b,b∈(Ze s i ai).fibers→-1≤b.caller∧b.caller < (Ze s i ai).fibers.length:=by
 obtain ⟨h1,h2,h3,h4,h5,h6,h7,h8⟩:=Qv hn hr ai
 intro b hb
 obtain ⟨q,hq,rfl⟩:=List.getElem_of_mem hb
 have e1:Za (Ze s i ai) q=(Ze s i ai).fibers[q]:=by simp [Za,List.getD,hq]
 have hq':q < s.fibers.length:=by rw [← h2]; exact hq
 have e2:Za s q=s.fibers[q]:=by simp [Za,List.getD,hq']
 rw [← e1,h4,e2,h2]
 exact h _ (List.getElem_mem hq')
theorem next_line {s:St} {i:Nat} (hn:s.now=i) (hr:Runs s i) (ai:Nat):Xm (Ze s i ai)=Xm s:=by
 obtain ⟨h1,h2,h3,h4,h5,h6,h7,h8⟩:=Qv hn hr ai
 unfold Xm
 rw [h2,h1,hn]
 rw [lineF_congr (fs:=(Ze s i ai).fibers) (fs':=s.fibers) (fun n=>h4 n.toNat)]
end Go.Proofs.YtblihfpigjiahaaGreatDoor
