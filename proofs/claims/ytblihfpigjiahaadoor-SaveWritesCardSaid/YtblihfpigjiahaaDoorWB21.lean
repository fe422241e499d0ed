/- StateI -/
import Derived.Test.YtblihfpigjiahaaDoorWB15
import Derived.Test.YtblihfpigjiahaaDoorWB13
import Derived.Test.YtblihfpigjiahaaDoorWB16
import Derived.Test.YtblihfpigjiahaaDoorWB20
set_option maxRecDepth 100000
set_option maxHeartbeats 8000000
namespace Go.Proofs.YtblihfpigjiahaaDoor
open Go.RowKit
theorem Zma {s:St} (h:¬ (s.fibers.length≤5∧s.out.length≤30)):Qt s=2:=by unfold Qt;rw [if_neg h]
theorem Zps {s:St} (h:s.fibers.length≤5∧s.out.length≤30) {k:Nat} (hk:k<s.fibers.length) (hf:¬ (s.fibers.getD k Fb.zero).frames.length≤6):Qt s=2:=by
 unfold Qt
 rw [if_pos h,if_neg]
 intro ha
 have:=Zad (d:=Fb.zero) ha hk
 exact hf (by simpa using this)
theorem Zjx {α:Type} {l:List α} {P:α→Bool} {d:α} (h:∀ k,k<l.length→P (l.getD k d)=true):l.all P=true:=by
 rw [List.all_eq_true]
 intro x hx
 obtain ⟨i,hi⟩:=List.getElem?_of_mem hx
 have hil:=(List.getElem?_eq_some_iff.1 hi).1
 have:=h i hil
 rwa [List.getD_eq_getElem?_getD,hi] at this
theorem Znb {s:St} (h:s.fibers.length≤5∧s.out.length≤30) (hf:∀ k,k<s.fibers.length→(s.fibers.getD k Fb.zero).frames.length≤6) :
  Qt s=if 0<s.fibers.length then (if inB s.now (-1) (s.fibers.length - 1)=true then (if (s.fibers.all fun b=>inB b.caller (-1) (s.fibers.length - 1))=true then 0 else 3) else 3) else 5:=by
 conv=>lhs;unfold Qt
 rw [if_pos h,if_pos (Zjx (d:=Fb.zero) (fun k hk=>decide_eq_true (hf k hk)))]
def Wq (p:List Fn) (s:St) (l:List Int) (k:Nat):Bool:=Jd p (s.fibers.getD k Fb.zero) (decide ((k:Int)∈l)) (decide ((k:Int)=s.now)) && !(decide (k=0) && (!decide ((0:Int)∈l) && !(s.fibers.getD 0 Fb.zero).frames.isEmpty))
theorem Zhc {p:List Fn} {s:St} {l:List Int} (h:Qj s=some l):Yo p s=(!(decide (s.now=-1) && !(s.fibers.getD 0 Fb.zero).frames.isEmpty) && (List.range s.fibers.length).all (Wq p s l)):=by
 unfold Yo
 rw [h]
 rfl
theorem Zvc {p:List Fn} {s:St} (h:Qj s=none):Yo p s=false:=by
 unfold Yo
 rw [h]
theorem Zfa {α:Type} (l:List α):l.isEmpty=decide (l.length=0):=by cases l <;> simp
theorem Zyf {p:List Fn} {s:St} {l:List Int} (h:Qj s=some l) (hn:s.now=-1) (hq:0<(s.fibers.getD 0 Fb.zero).frames.length):Yo p s=false:=by
 rw [Zhc h,hn,Zfa,decide_eq_false (show ¬ (s.fibers.getD 0 Fb.zero).frames.length=0 by omega)]
 rfl
theorem form_k {p:List Fn} {s:St} {l:List Int} (h:Qj s=some l) {k:Nat} (hk:k<s.fibers.length) (hf:Wq p s l k=false):Yo p s=false:=by
 rw [Zhc h,Bool.and_eq_false_iff]
 right
 rw [Bool.eq_false_iff]
 intro ha
 rw [Uc.1 ha k hk] at hf
 cases hf
theorem Zzm {p:List Fn} {s:St} {l:List Int} (h:Qj s=some l) (hn:¬ (s.now=-1∧0<(s.fibers.getD 0 Fb.zero).frames.length)) (hk:∀ k,k<s.fibers.length→Wq p s l k=true):Yo p s=true:=by
 rw [Zhc h,Uc.2 hk,Bool.and_true,Zfa]
 by_cases h1:s.now=-1
 ·rw [decide_eq_true (show (s.fibers.getD 0 Fb.zero).frames.length=0 by omega)];simp
 ·rw [decide_eq_false h1];rfl
theorem Zdl {p:List Fn} {s:St} {z:Int} (hp:Xh p=0) (hz:Qt s=z) (h0:z≠0):Xa p s=z:=by
 unfold Xa
 rw [if_pos hp,if_neg (by rw [hz];exact h0),hz]
theorem Zxm {p:List Fn} {s:St} (hp:Xh p=0) (hz:Qt s=0) {r:Bool} (hr:Yo p s=r):Xa p s=if r=true then 0 else 1:=by
 unfold Xa
 rw [if_pos hp,if_pos hz,hr]
theorem Zvy (p:List Fn) (vp v1 v2 v3:Value) (w:World) (hp:Zw w vp p) (hz:Xh p≠0) :
  Calls Tryd.prog 6 #[vp,.agg #[v1,v2,v3]] w fun e w'=>e=.returned (.int .i64 (Xh p))∧Zb w w':=by
 have HC:Hid (∀ u,Zb w u→Calls Tryd.prog 9 #[vp] u fun e w'=>e=.returned (.int .i64 (Xh p))∧Zb u w'):=Za (fun u hu=>Zfb p vp u (hp.kept hu))
 have hzb:(Xh p != 0)=true:=by rw [bne_iff_ne];exact hz
 generalize Xh p=r at *
 clear hp hz
 go_enter Tryd.func6,Tryd.ntmps6
 go_wp2_with fail
 refine ((un HC) _ ((Zb.refl w).alloc _)).mono ?_
 rintro e w1 ⟨rfl,hk1⟩
 have HK:=Za (((Zb.refl w).alloc _).trans hk1)
 clear hk1
 go_wp2
 go_ret
 exact ⟨rfl,un HK⟩
theorem Zzu (p:List Fn) (vp:Value) (s:St) (b o cap:Nat) (vo:Value) (w:World) (hp:Zw w vp p) (hh:Zah w vp p) (hz:Xh p=0) (hN0:0<s.fibers.length)
  (hf:Wu w (.slice (some ⟨b,o,none⟩) s.fibers.length cap) s.fibers) (ho:Xn w vo s.out) :
  Calls Tryd.prog 6 #[vp,.agg #[.slice (some ⟨b,o,none⟩) s.fibers.length cap,.int .i64 s.now,vo]] w fun e w'=>e=.returned (.int .i64 (Xa p s))∧Zb w w':=by
 have HC:Hid (∀ u,Zb w u→Calls Tryd.prog 9 #[vp] u fun e w'=>e=.returned (.int .i64 0)∧Zb u w'):=Za (fun u hu=>by have:=Zfb p vp u (hp.kept hu);rwa [hz] at this)
 have HST:Hid (Zy w (.agg #[.slice (some ⟨b,o,none⟩) s.fibers.length cap,.int .i64 s.now,vo]) s):=Za ⟨_,_,rfl,hf,ho⟩
 obtain ⟨oo,co,rfl,hol,_⟩:=ho
 have hcl:∀ i,i<s.fibers.length→∃ vf,w.cell? ⟨b,o+i*2,none⟩=some vf∧w.cell? ⟨b,o+i*2+1,none⟩=some (.int .i64 (s.fibers.getD i Fb.zero).caller)∧Ys w vf (s.fibers.getD i Fb.zero).frames:=by
  intro i hi
  obtain ⟨oa,cap',e,_,hc⟩:=id hf
  obtain ⟨b',o',vf,e1,r⟩:=hc i _ (Zq s.fibers i Fb.zero hi)
  subst e1
  obtain ⟨⟨rfl,rfl⟩,-,-⟩:=(by simpa using e:(b=b'∧o=o')∧s.fibers.length=s.fibers.length∧cap=cap')
  exact ⟨vf,r⟩
 have HCL:=Za hcl
 have R1:=Za (fun h=>Zdl hz (Zma (s:=s) h) (by decide))
 have R2:=Za (fun h k hk hf=>Zdl hz (Zps (s:=s) h (k:=k) hk hf) (by decide))
 have R3:=Za (fun h hf=>Znb (s:=s) h hf)
 have R4:Hid (∀ z,Qt s=z→z≠0→Xa p s=z):=Za (fun z h h0=>Zdl hz h h0)
 have R5:Hid (∀ r,Qt s=0→Yo p s=r→Xa p s=if r=true then 0 else 1):=Za (fun r h hr=>Zxm hz h hr)
 have HP:=Za hp
 have HH:=Za hh
 have HZ:=Za hz
 generalize Xa p s=r at *
 generalize hN:s.fibers.length=N at *
 generalize hM:s.out.length=M at *
 have HN:=Za hN
 clear hp hh hz hf hcl hN hM
 have hNb:((N:Int) == 0)=false:=by rw [beq_eq_false_iff_ne];omega
 go_enter Tryd.func6,Tryd.ntmps6
 go_wp2_with fail
 refine ((un HC) _ ((Zb.refl w).alloc _)).mono ?_
 rintro e w1 ⟨rfl,hk1⟩
 have x0:=hk1.cell (show (w.alloc (.cells #[.slice (some ⟨b,o,none⟩) N cap,.int .i64 s.now,.slice oo M co] 26)).cell? ⟨w.heap.size,0,none⟩=some (.slice (some ⟨b,o,none⟩) N cap) by simp)
 have x1:=hk1.cell (show (w.alloc (.cells #[.slice (some ⟨b,o,none⟩) N cap,.int .i64 s.now,.slice oo M co] 26)).cell? ⟨w.heap.size,1,none⟩=some (.int .i64 s.now) by simp)
 have x2:=hk1.cell (show (w.alloc (.cells #[.slice (some ⟨b,o,none⟩) N cap,.int .i64 s.now,.slice oo M co] 26)).cell? ⟨w.heap.size,2,none⟩=some (.slice oo M co) by simp)
 have HK1:=Za (((Zb.refl w).alloc _).trans hk1)
 clear hk1 HC
 by_cases h5:N≤5
 ·have i5:¬ (5:Int)<(N:Int):=by omega
  by_cases h30:M≤30
  ·have i30:¬ (30:Int)<(M:Int):=by omega
   go_wp2
   go_loopw [6] (fun s6 wr=>∃ k:Nat,k≤N∧s6=.int .i64 k∧Hid (∀ i,i<k→(s.fibers.getD i Fb.zero).frames.length≤6)∧Hid (w1=wr)) (fun s6 _=>N - (intOf s6).toNat)
   case atStart=>exact ⟨0,Nat.zero_le _,rfl,(fun i hi=>by omega),rfl⟩
   case round =>
    obtain ⟨k,hkm,rfl,HA,HW⟩:=hrel
    have hw:=un HW
    subst hw
    clear HW
    by_cases hlt:k<N
    ·obtain ⟨vf,c0,c1,hfr⟩:=(un HCL) k hlt
     obtain ⟨of,cf,rfl,_,_⟩:=hfr
     have d0:=(un HK1).cell c0
     have hk1:(k:Int)<(N:Int):=by omega
     have hkz:(0:Int)≤(k:Int):=by omega
     have HAk:Hid ((s.fibers.getD k Fb.zero).frames.length≤6→∀ i,i<k+1→(s.fibers.getD i Fb.zero).frames.length≤6):=Za (fun h i hi=>by
      by_cases e:i=k
      ·subst e;exact h
      ·exact (un HA) i (by omega))
     have R2k:Hid (¬ (s.fibers.getD k Fb.zero).frames.length≤6→r=2):=Za (fun h=>(un R2) ⟨h5,h30⟩ k hlt h)
     generalize (s.fibers.getD k Fb.zero).frames.length=q at *
     clear c0 c1
     by_cases h6:q≤6
     ·have i6:¬ (6:Int)<(q:Int):=by omega
      go_wp2
      go_roundw
      case rel=>exact ⟨k+1,by omega,by go_num,Za ((un HAk) h6),Za trivial⟩
      case measure=>simp [intOf];omega
     ·have i6:(6:Int)<(q:Int):=by omega
      have hr2:=(un R2k) h6
      subst hr2
      go_wp2
      go_ret
      exact ⟨rfl,un HK1⟩
    ·have hk1:¬ ((k:Int)<(N:Int)):=by omega
     have HALL:Hid (∀ i,i<N→(s.fibers.getD i Fb.zero).frames.length≤6):=Za (fun i hi=>(un HA) i (by omega))
     have R3':=Za ((un R3) ⟨h5,h30⟩ (un HALL))
     clear R1 R2 R3 HA
     have hwn:IntKind.i64.wrap ((N:Int) - 1)=(N:Int) - 1:=Wa _ (by omega) (by omega)
     cases hib:inB s.now (-1) ((N:Int) - 1) with
     | false =>
      have hr3:r=3:=(un R4) 3 (by rw [un R3',if_pos hN0,hib];rfl) (by decide)
      subst hr3
      have HWI:Hid (∀ u,Calls Tryd.prog 15 #[.int .i64 s.now,.int .i64 (-1),.int .i64 ((N:Int) - 1)] u fun e w'=>e=.returned (.bool false)∧u=w'):=Za (fun u=>by have:=Xm s.now (-1) ((N:Int) - 1) u;rwa [hib] at this)
      clear hib
      go_wp2_with fail
      refine ((un HWI) _).mono ?_
      rintro e w2 ⟨rfl,rfl⟩
      go_wp2
      go_ret
      exact ⟨rfl,un HK1⟩
     | true =>
      have HWI:Hid (∀ u,Calls Tryd.prog 15 #[.int .i64 s.now,.int .i64 (-1),.int .i64 ((N:Int) - 1)] u fun e w'=>e=.returned (.bool true)∧u=w'):=Za (fun u=>by have:=Xm s.now (-1) ((N:Int) - 1) u;rwa [hib] at this)
      have HNOW:Hid (-1≤s.now∧s.now<N):=Za (by have:=Zbb.1 hib;omega)
      have R6:Hid (Qt s=if (s.fibers.all fun b=>inB b.caller (-1) ((N:Int) - 1))=true then 0 else 3):=Za (by rw [un R3',if_pos hN0,if_pos hib])
      clear hib R3'
      go_wp2_with fail
      refine ((un HWI) _).mono ?_
      rintro e w2 ⟨rfl,rfl⟩
      have X0:=Za x0
      have X1:=Za x1
      have X2:=Za x2
      go_wp2
      clear x0 x1 x2 HWI
      go_loopw [7] (fun s7 wr=>∃ k:Nat,k≤N∧s7=.int .i64 k∧Hid (∀ i,i<k→inB (s.fibers.getD i Fb.zero).caller (-1) ((N:Int) - 1)=true)∧Hid (Zb w1 wr)) (fun s7 _=>N - (intOf s7).toNat)
      case atStart=>exact ⟨0,Nat.zero_le _,rfl,(fun i hi=>by omega),Zb.refl _⟩
      case round =>
       obtain ⟨j,hjm,rfl,HB,HKr⟩:=hrel
       have dx:=(un HKr).cell (un X0)
       have dx1:=(un HKr).cell (un X1)
       by_cases hjl:j<N
       ·obtain ⟨vf,c0,c1,hfr⟩:=(un HCL) j hjl
        have d1:=(un HKr).cell ((un HK1).cell c1)
        have hj1:(j:Int)<(N:Int):=by omega
        have hjz:(0:Int)≤(j:Int):=by omega
        clear c0 c1 hfr
        have HBj:Hid (inB (s.fibers.getD j Fb.zero).caller (-1) ((N:Int) - 1)=true→∀ i,i<j+1→inB (s.fibers.getD i Fb.zero).caller (-1) ((N:Int) - 1)=true):=Za (fun h i hi=>by
         by_cases e:i=j
         ·subst e;exact h
         ·exact (un HB) i (by omega))
        have R7:Hid (inB (s.fibers.getD j Fb.zero).caller (-1) ((N:Int) - 1)=false→r=3):=Za (fun h=>(un R4) 3 (by
         rw [un R6,if_neg]
         intro ha
         have:=Zad (d:=Fb.zero) ha (k:=j) (by rw [un HN];exact hjl)
         rw [h] at this
         cases this) (by decide))
        generalize (s.fibers.getD j Fb.zero).caller=ca at *
        cases hic:inB ca (-1) ((N:Int) - 1) with
        | true =>
         have HWC:Hid (∀ u,Calls Tryd.prog 15 #[.int .i64 ca,.int .i64 (-1),.int .i64 ((N:Int) - 1)] u fun e w'=>e=.returned (.bool true)∧w'=u):=Za (fun u=>by have:=Zcf ca (-1) ((N:Int) - 1) u;rwa [hic] at this)
         have HBJ:=Za ((un HBj) hic)
         clear hic
         go_wp2_with fail
         go_quiet ((go_at_call 15;refine Calls.quiet_of_same ((un HWC) _)))
         go_wp2
         go_roundw
         case rel=>exact ⟨j+1,by omega,by go_num,HBJ,Za ((un HKr).drewN _)⟩
         case measure=>simp [intOf];omega
        | false =>
         have HWC:Hid (∀ u,Calls Tryd.prog 15 #[.int .i64 ca,.int .i64 (-1),.int .i64 ((N:Int) - 1)] u fun e w'=>e=.returned (.bool false)∧w'=u):=Za (fun u=>by have:=Zcf ca (-1) ((N:Int) - 1) u;rwa [hic] at this)
         have hr3:=(un R7) hic
         subst hr3
         clear hic
         go_wp2_with fail
         go_quiet ((go_at_call 15;refine Calls.quiet_of_same ((un HWC) _)))
         go_wp2
         go_ret
         exact ⟨rfl,(un HK1).trans ((un HKr).drewN _)⟩
       ·have hj1:¬ ((j:Int)<(N:Int)):=by omega
        have HCAL:Hid (∀ i,i<N→inB (s.fibers.getD i Fb.zero).caller (-1) ((N:Int) - 1)=true):=Za (fun i hi=>(un HB) i (by omega))
        have hl0:Qt s=0:=by
         rw [un R6,if_pos]
         exact Zjx (d:=Fb.zero) (fun i hi=>(un HCAL) i (by rw [un HN] at hi;exact hi))
        have hlz:=Zbj hl0
        have hkw:=(un HK1).trans (un HKr)
        have HLO:Hid (∀ u,Zb wr u→Calls Tryd.prog 16 #[.agg #[.slice (some ⟨b,o,none⟩) N cap,.int .i64 s.now,.slice oo M co]] u fun e w'=>Zgr s u e w') :=
         Za (fun u hu=>Zjw s _ u ((un HST).kept (hkw.trans hu)) hlz.2.2.2.2.1 hlz.2.2.2.2.2 (by rw [un HN];omega))
        have dx2:=(un HKr).cell (un X2)
        obtain ⟨vf0,c00,_,hfr0⟩:=(un HCL) 0 hN0
        obtain ⟨of0,cf0,rfl,_,_⟩:=hfr0
        have R8:Hid (∀ rb,Yo p s=rb→r=if rb=true then 0 else 1):=Za (fun rb h=>(un R5) rb hl0 h)
        have c0':w.cell? ⟨b,o,none⟩=some (.slice of0 (s.fibers.getD 0 Fb.zero).frames.length cf0):=by simpa using c00
        have C00:=Za (hkw.cell c0')
        have HKW:=Za hkw
        have HFL:Hid (∀ i,i<N→(s.fibers.getD i Fb.zero).frames.length≤1000):=Za (fun i hi=>by have:=(un HALL) i hi;omega)
        clear hlz hkw c00 c0' hl0 R4 R5 R6 HB HALL
        go_wp2_with fail
        refine ((un HLO) _ (Zb.refl _)).mono ?_
        rintro e w2 ⟨vl,isb,rfl,hk2,hline⟩
        have e0:=hk2.cell dx
        have e1:=hk2.cell dx1
        have e2:=hk2.cell (un C00)
        have HK2:=Za ((un HKW).trans hk2)
        clear hk2 dx dx1 dx2 C00 HLO
        cases hls:Qj s with
        | none =>
         rw [hls] at hline
         obtain rfl:isb=false:=hline
         have hr1:r=1:=(un R8) false (Zvc hls)
         subst hr1
         go_wp2
         go_ret
         exact ⟨rfl,un HK2⟩
        | some l =>
         rw [hls] at hline
         obtain ⟨rfl,hla⟩:=hline
         have HLA:=Za hla
         have HLS:=Za hls
         generalize hq0:(s.fibers.getD 0 Fb.zero).frames.length=q0 at *
         have HQ0:=Za hq0
         clear hla hls hq0
         have hN1:(0:Int)<(N:Int):=by omega
         by_cases hbad:s.now=-1∧0<q0
         ·have g1:(s.now == -1)=true:=by rw [beq_iff_eq];exact hbad.1
          have g2:(0:Int)<(q0:Int):=by omega
          have hr1:r=1:=(un R8) false (Zyf (un HLS) hbad.1 (by rw [un HQ0];exact hbad.2))
          subst hr1
          clear hbad
          go_wp2
          go_ret
          exact ⟨rfl,un HK2⟩
         ·have R9:Hid ((∀ k,k<N→Wq p s l k=true)→r=0):=Za (fun h=>(un R8) true (Zzm (un HLS) (by rw [un HQ0];exact hbad) (fun k hk=>h k (by rw [un HN] at hk;exact hk))))
          have R10:Hid (∀ k,k<N→Wq p s l k=false→r=1):=Za (fun k hk h=>(un R8) false (form_k (un HLS) (k:=k) (by rw [un HN];exact hk) h))
          have hgood:((s.now == -1)=true∧¬ (0:Int)<(q0:Int))∨((s.now == -1)=false∧True):=by
           by_cases hn:s.now=-1
           ·exact .inl ⟨by rw [beq_iff_eq];exact hn,by omega⟩
           ·exact .inr ⟨by rw [beq_eq_false_iff_ne];exact hn,trivial⟩
          have E0:=Za e0
          have E1:=Za e1
          have E2:=Za e2
          clear hbad R8
          rcases hgood with ⟨g1,g2⟩ | ⟨g1,g2⟩
          ·obtain rfl:q0=0:=by omega
           go_wp2
           clear e0 e1 e2 g1 g2
           go_loopw [10] (fun s10 wq=>∃ k:Nat,k≤N∧s10=.int .i64 k∧Hid (∀ i,i<k→Wq p s l i=true)∧Hid (Zb w2 wq)) (fun s10 _=>N - (intOf s10).toNat)
           case atStart=>exact ⟨0,Nat.zero_le _,rfl,(fun i hi=>by omega),Zb.refl _⟩
           case round =>
            obtain ⟨k,hkm,rfl,HA,HKq⟩:=hrel
            have dx:=(un HKq).cell (un E0)
            by_cases hlt:k<N
            ·obtain ⟨vf,c0,c1,hfr⟩:=(un HCL) k hlt
             have hfv:FbV w (.agg #[vf,.int .i64 (s.fibers.getD k Fb.zero).caller]) (s.fibers.getD k Fb.zero):=⟨_,rfl,hfr⟩
             have hkw:=(un HK2).trans (un HKq)
             have hfl:=(un HFL) k hlt
             obtain ⟨kr,hkr⟩:∃ kr,((k:Int) == s.now)=kr:=⟨_,rfl⟩
             obtain ⟨kon,hkon⟩:∃ kon,decide ((k:Int)∈l)=kon:=⟨_,rfl⟩
             have hkr':decide ((k:Int)=s.now)=kr:=by rw [← hkr,Bool.eq_iff_iff];simp
             have HHAS:Hid (∀ u,Zb wr u→Calls Tryd.prog 18 #[vl,.int .i64 k] u fun e w'=>e=.returned (.bool kon)∧Zb u w'):=Za (fun u hu=>by
              have:=Zdc l vl k u ((un HLA).kept ((un HKq).trans hu))
              rwa [hkon] at this)
             have HFF0:Hid (∀ u,Zb wr u→Calls Tryd.prog 17 #[vp,.agg #[vf,.int .i64 (s.fibers.getD k Fb.zero).caller],.bool kon,.bool kr] u fun e w'=>e=.returned (.bool (Jd p (s.fibers.getD k Fb.zero) kon kr))∧Zb u w') :=
              Za (fun u hu=>Zoc p vp _ _ kon kr u ((un HP).kept (hkw.trans hu)) ((un HH).kept (hkw.trans hu)) (Zig (un HZ)) (Zhm (un HZ)) (hfv.kept (hkw.trans hu)) hfl)
             have hok:Wq p s l k=(Jd p (s.fibers.getD k Fb.zero) kon kr && !(decide (k=0) && (!decide ((0:Int)∈l) && !decide (0=0)))):=by
              unfold Wq
              rw [hkon,hkr',Zfa,un HQ0]
             obtain ⟨of,cf,rfl,_,_⟩:=hfr
             have HY:Hid (∀ u,Zb wr u→u.cell? ⟨w.heap.size,0,none⟩=some (.slice (some ⟨b,o,none⟩) N cap)∧u.cell? ⟨w.heap.size,1,none⟩=some (.int .i64 s.now)∧u.cell? ⟨b,o+k*2,none⟩=some (.slice of (s.fibers.getD k Fb.zero).frames.length cf)∧u.cell? ⟨b,o+k*2+1,none⟩=some (.int .i64 (s.fibers.getD k Fb.zero).caller)∧u.cell? ⟨b,o,none⟩=some (.slice of0 0 cf0)) :=
              Za (fun u hu=>⟨hu.cell dx,hu.cell ((un HKq).cell (un E1)),hu.cell (hkw.cell c0),hu.cell (hkw.cell c1),hu.cell ((un HKq).cell (un E2))⟩)
             have hk1:(k:Int)<(N:Int):=by omega
             have hkz:(0:Int)≤(k:Int):=by omega
             have HKW2:=Za hkw
             have HOK:=Za hok
             have RB:=Za ((un R10) k hlt)
             have HNX:Hid (Wq p s l k=true→∀ i,i<k+1→Wq p s l i=true):=Za (fun h i hi=>by
              by_cases e:i=k
              ·subst e;exact h
              ·exact (un HA) i (by omega))
             generalize (s.fibers.getD k Fb.zero).caller=ca at *
             generalize (s.fibers.getD k Fb.zero).frames.length=q at *
             clear c0 c1 hfv hkw hok hkon hkr'
             generalize Jd p (s.fibers.getD k Fb.zero) kon kr=fb at *
             have HFF:=HFF0
             cases fb with
             | false =>
              have hr1:r=1:=(un RB) (by rw [un HOK];rfl)
              subst hr1
              clear HFF0 RB HNX HOK R9 R10
              go_wp2_with fail
              refine wp_region_held_drew (S:=fun u=>u.cell? ⟨w.heap.size,0,none⟩=some (.slice (some ⟨b,o,none⟩) N cap)∧u.cell? ⟨w.heap.size,1,none⟩=some (.int .i64 s.now)∧u.cell? ⟨b,o+k*2,none⟩=some (.slice of q cf)∧u.cell? ⟨b,o+k*2+1,none⟩=some (.int .i64 ca)∧u.cell? ⟨b,o,none⟩=some (.slice of0 0 cf0)) (by kernel_rfl) ((un HY) _ (Zb.drew (Zb.refl _))) (fun hHeld=>?_)
              refine Xd [0,1,2,3,4,5,6,7,9,10,11,12] ?_
              repeat
               refine Xe (v:=?_) hHeld (fun u hSu=>?_) ?_
               rotate_left
               ·((try dsimp only at hSu);go_simp) <;> with_reducible rfl
               try simp only [PS]
              refine Xc ?_
              refine Xw (i:=8) rfl (by kernel_rfl) (fun K hK=>?_)
              go_simp
              refine ((un HHAS) _ (Zb.drew (Zb.refl _))).mono ?_
              rintro e wA ⟨rfl,hkA⟩
              refine hK.out _ _ ((un HY) _ (Zb.trans (Zb.drew (Zb.refl _)) hkA)) (fun hHeld=>?_)
              clear hK K
              try simp only [PS]
              refine Xw (i:=13) rfl (by kernel_rfl) (fun K hK=>?_)
              go_simp
              refine ((un HFF) _ (Zb.trans (Zb.drew (Zb.refl _)) hkA)).mono ?_
              rintro e wB ⟨rfl,hkB⟩
              refine hK.out _ _ ((un HY) _ (Zb.trans (Zb.trans (Zb.drew (Zb.refl _)) hkA) hkB)) (fun hHeld=>?_)
              clear hK K
              try simp only [PS]
              refine Xd [14,15] ?_
              repeat
               refine Xe (v:=?_) hHeld (fun u hSu=>?_) ?_
               rotate_left
               ·((try dsimp only at hSu);go_simp) <;> with_reducible rfl
               try simp only [PS]
              refine Xc ?_
              refine Up [16,17,18,19,20,21,22,23,24,25,26,27,28,29,30,31] ?_
              repeat
               refine Uz hHeld ?_
               try simp only [PS]
              refine Uv ?_
              refine Xd [32] ?_
              repeat
               refine Xe (v:=?_) hHeld (fun u hSu=>?_) ?_
               rotate_left
               ·((try dsimp only at hSu);go_simp) <;> with_reducible rfl
               try simp only [PS]
              refine Xc ?_
              refine wpAnyH_done (by kernel_rfl) ?_ _
              go_wp2_with fail
              go_ret
              exact ⟨rfl,(un HKW2).trans (Zb.trans (Zb.trans (Zb.drew (Zb.refl _)) hkA) hkB)⟩
             | true =>
              by_cases hk0:k=0
              ·have hkb:((k:Int) == 0)=true:=by rw [hk0];rfl
               obtain ⟨h0,hh0⟩:∃ h0,decide ((0:Int)∈l)=h0:=⟨_,rfl⟩
               have HHAS0:Hid (∀ u,Zb wr u→Calls Tryd.prog 18 #[vl,.int .i64 0] u fun e w'=>e=.returned (.bool h0)∧Zb u w'):=Za (fun u hu=>by
                have:=Zdc l vl 0 u ((un HLA).kept ((un HKq).trans hu))
                rwa [hh0] at this)
               rw [hh0,decide_eq_true hk0] at HOK
               clear hh0 hk0
               cases h0 with
               | true =>
                have HN1:=Za ((un HNX) (by rw [un HOK];rfl))
                clear HFF0 RB HNX HOK
                go_wp2_with fail
                refine wp_region_held_drew (S:=fun u=>u.cell? ⟨w.heap.size,0,none⟩=some (.slice (some ⟨b,o,none⟩) N cap)∧u.cell? ⟨w.heap.size,1,none⟩=some (.int .i64 s.now)∧u.cell? ⟨b,o+k*2,none⟩=some (.slice of q cf)∧u.cell? ⟨b,o+k*2+1,none⟩=some (.int .i64 ca)∧u.cell? ⟨b,o,none⟩=some (.slice of0 0 cf0)) (by kernel_rfl) ((un HY) _ (Zb.drew (Zb.refl _))) (fun hHeld=>?_)
                refine Xd [0,1,2,3,4,5,6,7,9,10,11,12] ?_
                repeat
                 refine Xe (v:=?_) hHeld (fun u hSu=>?_) ?_
                 rotate_left
                 ·((try dsimp only at hSu);go_simp) <;> with_reducible rfl
                 try simp only [PS]
                refine Xc ?_
                refine Xw (i:=8) rfl (by kernel_rfl) (fun K hK=>?_)
                go_simp
                refine ((un HHAS) _ (Zb.drew (Zb.refl _))).mono ?_
                rintro e wA ⟨rfl,hkA⟩
                refine hK.out _ _ ((un HY) _ (Zb.trans (Zb.drew (Zb.refl _)) hkA)) (fun hHeld=>?_)
                clear hK K
                try simp only [PS]
                refine Xw (i:=13) rfl (by kernel_rfl) (fun K hK=>?_)
                go_simp
                refine ((un HFF) _ (Zb.trans (Zb.drew (Zb.refl _)) hkA)).mono ?_
                rintro e wB ⟨rfl,hkB⟩
                refine hK.out _ _ ((un HY) _ (Zb.trans (Zb.trans (Zb.drew (Zb.refl _)) hkA) hkB)) (fun hHeld=>?_)
                clear hK K
                try simp only [PS]
                refine Xd [14,15,16,17,18,19] ?_
                repeat
                 refine Xe (v:=?_) hHeld (fun u hSu=>?_) ?_
                 rotate_left
                 ·((try dsimp only at hSu);go_simp) <;> with_reducible rfl
                 try simp only [PS]
                refine Xc ?_
                refine Xw (i:=20) rfl (by kernel_rfl) (fun K hK=>?_)
                go_simp
                refine ((un HHAS0) _ (Zb.trans (Zb.trans (Zb.drew (Zb.refl _)) hkA) hkB)).mono ?_
                rintro e wC ⟨rfl,hkC⟩
                refine hK.out _ _ ((un HY) _ (Zb.trans (Zb.trans (Zb.trans (Zb.drew (Zb.refl _)) hkA) hkB) hkC)) (fun hHeld=>?_)
                clear hK K
                try simp only [PS]
                refine Xd [21,22,23] ?_
                repeat
                 refine Xe (v:=?_) hHeld (fun u hSu=>?_) ?_
                 rotate_left
                 ·((try dsimp only at hSu);go_simp) <;> with_reducible rfl
                 try simp only [PS]
                refine Xc ?_
                refine Up [24,25,26,27,28,29,30] ?_
                repeat
                 refine Uz hHeld ?_
                 try simp only [PS]
                refine Uv ?_
                refine Xd [31,32] ?_
                repeat
                 refine Xe (v:=?_) hHeld (fun u hSu=>?_) ?_
                 rotate_left
                 ·((try dsimp only at hSu);go_simp) <;> with_reducible rfl
                 try simp only [PS]
                refine Xc ?_
                refine wpAnyH_done (by kernel_rfl) ?_ _
                go_wp2_with fail
                go_roundw
                case rel=>exact ⟨k+1,by omega,by go_num,HN1,Za ((un HKq).trans (Zb.trans (Zb.trans (Zb.trans (Zb.drew (Zb.refl _)) hkA) hkB) hkC))⟩
                case measure=>simp [intOf];omega
               | false =>
                by_cases hq:0=0
                ·have g2:¬ (0:Int)<(0:Int):=by omega
                 have HN1:=Za ((un HNX) (by rw [un HOK,decide_eq_true hq];rfl))
                 clear HFF0 RB HNX HOK hq
                 go_wp2_with fail
                 refine wp_region_held_drew (S:=fun u=>u.cell? ⟨w.heap.size,0,none⟩=some (.slice (some ⟨b,o,none⟩) N cap)∧u.cell? ⟨w.heap.size,1,none⟩=some (.int .i64 s.now)∧u.cell? ⟨b,o+k*2,none⟩=some (.slice of q cf)∧u.cell? ⟨b,o+k*2+1,none⟩=some (.int .i64 ca)∧u.cell? ⟨b,o,none⟩=some (.slice of0 0 cf0)) (by kernel_rfl) ((un HY) _ (Zb.drew (Zb.refl _))) (fun hHeld=>?_)
                 refine Xd [0,1,2,3,4,5,6,7,9,10,11,12] ?_
                 repeat
                  refine Xe (v:=?_) hHeld (fun u hSu=>?_) ?_
                  rotate_left
                  ·((try dsimp only at hSu);go_simp) <;> with_reducible rfl
                  try simp only [PS]
                 refine Xc ?_
                 refine Xw (i:=8) rfl (by kernel_rfl) (fun K hK=>?_)
                 go_simp
                 refine ((un HHAS) _ (Zb.drew (Zb.refl _))).mono ?_
                 rintro e wA ⟨rfl,hkA⟩
                 refine hK.out _ _ ((un HY) _ (Zb.trans (Zb.drew (Zb.refl _)) hkA)) (fun hHeld=>?_)
                 clear hK K
                 try simp only [PS]
                 refine Xw (i:=13) rfl (by kernel_rfl) (fun K hK=>?_)
                 go_simp
                 refine ((un HFF) _ (Zb.trans (Zb.drew (Zb.refl _)) hkA)).mono ?_
                 rintro e wB ⟨rfl,hkB⟩
                 refine hK.out _ _ ((un HY) _ (Zb.trans (Zb.trans (Zb.drew (Zb.refl _)) hkA) hkB)) (fun hHeld=>?_)
                 clear hK K
                 try simp only [PS]
                 refine Xd [14,15,16,17,18,19] ?_
                 repeat
                  refine Xe (v:=?_) hHeld (fun u hSu=>?_) ?_
                  rotate_left
                  ·((try dsimp only at hSu);go_simp) <;> with_reducible rfl
                  try simp only [PS]
                 refine Xc ?_
                 refine Xw (i:=20) rfl (by kernel_rfl) (fun K hK=>?_)
                 go_simp
                 refine ((un HHAS0) _ (Zb.trans (Zb.trans (Zb.drew (Zb.refl _)) hkA) hkB)).mono ?_
                 rintro e wC ⟨rfl,hkC⟩
                 refine hK.out _ _ ((un HY) _ (Zb.trans (Zb.trans (Zb.trans (Zb.drew (Zb.refl _)) hkA) hkB) hkC)) (fun hHeld=>?_)
                 clear hK K
                 try simp only [PS]
                 refine Xd [21,22,23,24,25,26,27,28,29,30,31,32] ?_
                 repeat
                  refine Xe (v:=?_) hHeld (fun u hSu=>?_) ?_
                  rotate_left
                  ·((try dsimp only at hSu);go_simp) <;> with_reducible rfl
                  try simp only [PS]
                 refine Xc ?_
                 refine wpAnyH_done (by kernel_rfl) ?_ _
                 go_wp2_with fail
                 go_roundw
                 case rel=>exact ⟨k+1,by omega,by go_num,HN1,Za ((un HKq).trans (Zb.trans (Zb.trans (Zb.trans (Zb.drew (Zb.refl _)) hkA) hkB) hkC))⟩
                 case measure=>simp [intOf];omega
                ·exact absurd rfl hq
              ·have hkb:((k:Int) == 0)=false:=by rw [beq_eq_false_iff_ne];omega
               have HN1:=Za ((un HNX) (by rw [un HOK,decide_eq_false hk0];rfl))
               clear HFF0 RB HNX HOK
               go_wp2_with fail
               refine wp_region_held_drew (S:=fun u=>u.cell? ⟨w.heap.size,0,none⟩=some (.slice (some ⟨b,o,none⟩) N cap)∧u.cell? ⟨w.heap.size,1,none⟩=some (.int .i64 s.now)∧u.cell? ⟨b,o+k*2,none⟩=some (.slice of q cf)∧u.cell? ⟨b,o+k*2+1,none⟩=some (.int .i64 ca)∧u.cell? ⟨b,o,none⟩=some (.slice of0 0 cf0)) (by kernel_rfl) ((un HY) _ (Zb.drew (Zb.refl _))) (fun hHeld=>?_)
               refine Xd [0,1,2,3,4,5,6,7,9,10,11,12] ?_
               repeat
                refine Xe (v:=?_) hHeld (fun u hSu=>?_) ?_
                rotate_left
                ·((try dsimp only at hSu);go_simp) <;> with_reducible rfl
                try simp only [PS]
               refine Xc ?_
               refine Xw (i:=8) rfl (by kernel_rfl) (fun K hK=>?_)
               go_simp
               refine ((un HHAS) _ (Zb.drew (Zb.refl _))).mono ?_
               rintro e wA ⟨rfl,hkA⟩
               refine hK.out _ _ ((un HY) _ (Zb.trans (Zb.drew (Zb.refl _)) hkA)) (fun hHeld=>?_)
               clear hK K
               try simp only [PS]
               refine Xw (i:=13) rfl (by kernel_rfl) (fun K hK=>?_)
               go_simp
               refine ((un HFF) _ (Zb.trans (Zb.drew (Zb.refl _)) hkA)).mono ?_
               rintro e wB ⟨rfl,hkB⟩
               refine hK.out _ _ ((un HY) _ (Zb.trans (Zb.trans (Zb.drew (Zb.refl _)) hkA) hkB)) (fun hHeld=>?_)
               clear hK K
               try simp only [PS]
               refine Xd [14,15,16,17,18] ?_
               repeat
                refine Xe (v:=?_) hHeld (fun u hSu=>?_) ?_
                rotate_left
                ·((try dsimp only at hSu);go_simp) <;> with_reducible rfl
                try simp only [PS]
               refine Xc ?_
               refine Up [19,20,21] ?_
               repeat
                refine Uz hHeld ?_
                try simp only [PS]
               refine Uv ?_
               refine Xd [22,23] ?_
               repeat
                refine Xe (v:=?_) hHeld (fun u hSu=>?_) ?_
                rotate_left
                ·((try dsimp only at hSu);go_simp) <;> with_reducible rfl
                try simp only [PS]
               refine Xc ?_
               refine Up [24,25,26,27,28,29,30] ?_
               repeat
                refine Uz hHeld ?_
                try simp only [PS]
               refine Uv ?_
               refine Xd [31,32] ?_
               repeat
                refine Xe (v:=?_) hHeld (fun u hSu=>?_) ?_
                rotate_left
                ·((try dsimp only at hSu);go_simp) <;> with_reducible rfl
                try simp only [PS]
               refine Xc ?_
               refine wpAnyH_done (by kernel_rfl) ?_ _
               go_wp2_with fail
               go_roundw
               case rel=>exact ⟨k+1,by omega,by go_num,HN1,Za ((un HKq).trans (Zb.trans (Zb.trans (Zb.drew (Zb.refl _)) hkA) hkB))⟩
               case measure=>simp [intOf];omega
            ·have hk1:¬ ((k:Int)<(N:Int)):=by omega
             have hr0:r=0:=(un R9) (fun i hi=>(un HA) i (by omega))
             subst hr0
             go_wp2
             go_ret
             exact ⟨rfl,(un HK2).trans (un HKq)⟩
          ·go_wp2
           clear e0 e1 e2 g1 g2
           go_loopw [10] (fun s10 wq=>∃ k:Nat,k≤N∧s10=.int .i64 k∧Hid (∀ i,i<k→Wq p s l i=true)∧Hid (Zb w2 wq)) (fun s10 _=>N - (intOf s10).toNat)
           case atStart=>exact ⟨0,Nat.zero_le _,rfl,(fun i hi=>by omega),Zb.refl _⟩
           case round =>
            obtain ⟨k,hkm,rfl,HA,HKq⟩:=hrel
            have dx:=(un HKq).cell (un E0)
            by_cases hlt:k<N
            ·obtain ⟨vf,c0,c1,hfr⟩:=(un HCL) k hlt
             have hfv:FbV w (.agg #[vf,.int .i64 (s.fibers.getD k Fb.zero).caller]) (s.fibers.getD k Fb.zero):=⟨_,rfl,hfr⟩
             have hkw:=(un HK2).trans (un HKq)
             have hfl:=(un HFL) k hlt
             obtain ⟨kr,hkr⟩:∃ kr,((k:Int) == s.now)=kr:=⟨_,rfl⟩
             obtain ⟨kon,hkon⟩:∃ kon,decide ((k:Int)∈l)=kon:=⟨_,rfl⟩
             have hkr':decide ((k:Int)=s.now)=kr:=by rw [← hkr,Bool.eq_iff_iff];simp
             have HHAS:Hid (∀ u,Zb wr u→Calls Tryd.prog 18 #[vl,.int .i64 k] u fun e w'=>e=.returned (.bool kon)∧Zb u w'):=Za (fun u hu=>by
              have:=Zdc l vl k u ((un HLA).kept ((un HKq).trans hu))
              rwa [hkon] at this)
             have HFF0:Hid (∀ u,Zb wr u→Calls Tryd.prog 17 #[vp,.agg #[vf,.int .i64 (s.fibers.getD k Fb.zero).caller],.bool kon,.bool kr] u fun e w'=>e=.returned (.bool (Jd p (s.fibers.getD k Fb.zero) kon kr))∧Zb u w') :=
              Za (fun u hu=>Zoc p vp _ _ kon kr u ((un HP).kept (hkw.trans hu)) ((un HH).kept (hkw.trans hu)) (Zig (un HZ)) (Zhm (un HZ)) (hfv.kept (hkw.trans hu)) hfl)
             have hok:Wq p s l k=(Jd p (s.fibers.getD k Fb.zero) kon kr && !(decide (k=0) && (!decide ((0:Int)∈l) && !decide (q0=0)))):=by
              unfold Wq
              rw [hkon,hkr',Zfa,un HQ0]
             obtain ⟨of,cf,rfl,_,_⟩:=hfr
             have HY:Hid (∀ u,Zb wr u→u.cell? ⟨w.heap.size,0,none⟩=some (.slice (some ⟨b,o,none⟩) N cap)∧u.cell? ⟨w.heap.size,1,none⟩=some (.int .i64 s.now)∧u.cell? ⟨b,o+k*2,none⟩=some (.slice of (s.fibers.getD k Fb.zero).frames.length cf)∧u.cell? ⟨b,o+k*2+1,none⟩=some (.int .i64 (s.fibers.getD k Fb.zero).caller)∧u.cell? ⟨b,o,none⟩=some (.slice of0 q0 cf0)) :=
              Za (fun u hu=>⟨hu.cell dx,hu.cell ((un HKq).cell (un E1)),hu.cell (hkw.cell c0),hu.cell (hkw.cell c1),hu.cell ((un HKq).cell (un E2))⟩)
             have hk1:(k:Int)<(N:Int):=by omega
             have hkz:(0:Int)≤(k:Int):=by omega
             have HKW2:=Za hkw
             have HOK:=Za hok
             have RB:=Za ((un R10) k hlt)
             have HNX:Hid (Wq p s l k=true→∀ i,i<k+1→Wq p s l i=true):=Za (fun h i hi=>by
              by_cases e:i=k
              ·subst e;exact h
              ·exact (un HA) i (by omega))
             generalize (s.fibers.getD k Fb.zero).caller=ca at *
             generalize (s.fibers.getD k Fb.zero).frames.length=q at *
             clear c0 c1 hfv hkw hok hkon hkr'
             generalize Jd p (s.fibers.getD k Fb.zero) kon kr=fb at *
             have HFF:=HFF0
             cases fb with
             | false =>
              have hr1:r=1:=(un RB) (by rw [un HOK];rfl)
              subst hr1
              clear HFF0 RB HNX HOK R9 R10
              go_wp2_with fail
              refine wp_region_held_drew (S:=fun u=>u.cell? ⟨w.heap.size,0,none⟩=some (.slice (some ⟨b,o,none⟩) N cap)∧u.cell? ⟨w.heap.size,1,none⟩=some (.int .i64 s.now)∧u.cell? ⟨b,o+k*2,none⟩=some (.slice of q cf)∧u.cell? ⟨b,o+k*2+1,none⟩=some (.int .i64 ca)∧u.cell? ⟨b,o,none⟩=some (.slice of0 q0 cf0)) (by kernel_rfl) ((un HY) _ (Zb.drew (Zb.refl _))) (fun hHeld=>?_)
              refine Xd [0,1,2,3,4,5,6,7,9,10,11,12] ?_
              repeat
               refine Xe (v:=?_) hHeld (fun u hSu=>?_) ?_
               rotate_left
               ·((try dsimp only at hSu);go_simp) <;> with_reducible rfl
               try simp only [PS]
              refine Xc ?_
              refine Xw (i:=8) rfl (by kernel_rfl) (fun K hK=>?_)
              go_simp
              refine ((un HHAS) _ (Zb.drew (Zb.refl _))).mono ?_
              rintro e wA ⟨rfl,hkA⟩
              refine hK.out _ _ ((un HY) _ (Zb.trans (Zb.drew (Zb.refl _)) hkA)) (fun hHeld=>?_)
              clear hK K
              try simp only [PS]
              refine Xw (i:=13) rfl (by kernel_rfl) (fun K hK=>?_)
              go_simp
              refine ((un HFF) _ (Zb.trans (Zb.drew (Zb.refl _)) hkA)).mono ?_
              rintro e wB ⟨rfl,hkB⟩
              refine hK.out _ _ ((un HY) _ (Zb.trans (Zb.trans (Zb.drew (Zb.refl _)) hkA) hkB)) (fun hHeld=>?_)
              clear hK K
              try simp only [PS]
              refine Xd [14,15] ?_
              repeat
               refine Xe (v:=?_) hHeld (fun u hSu=>?_) ?_
               rotate_left
               ·((try dsimp only at hSu);go_simp) <;> with_reducible rfl
               try simp only [PS]
              refine Xc ?_
              refine Up [16,17,18,19,20,21,22,23,24,25,26,27,28,29,30,31] ?_
              repeat
               refine Uz hHeld ?_
               try simp only [PS]
              refine Uv ?_
              refine Xd [32] ?_
              repeat
               refine Xe (v:=?_) hHeld (fun u hSu=>?_) ?_
               rotate_left
               ·((try dsimp only at hSu);go_simp) <;> with_reducible rfl
               try simp only [PS]
              refine Xc ?_
              refine wpAnyH_done (by kernel_rfl) ?_ _
              go_wp2_with fail
              go_ret
              exact ⟨rfl,(un HKW2).trans (Zb.trans (Zb.trans (Zb.drew (Zb.refl _)) hkA) hkB)⟩
             | true =>
              by_cases hk0:k=0
              ·have hkb:((k:Int) == 0)=true:=by rw [hk0];rfl
               obtain ⟨h0,hh0⟩:∃ h0,decide ((0:Int)∈l)=h0:=⟨_,rfl⟩
               have HHAS0:Hid (∀ u,Zb wr u→Calls Tryd.prog 18 #[vl,.int .i64 0] u fun e w'=>e=.returned (.bool h0)∧Zb u w'):=Za (fun u hu=>by
                have:=Zdc l vl 0 u ((un HLA).kept ((un HKq).trans hu))
                rwa [hh0] at this)
               rw [hh0,decide_eq_true hk0] at HOK
               clear hh0 hk0
               cases h0 with
               | true =>
                have HN1:=Za ((un HNX) (by rw [un HOK];rfl))
                clear HFF0 RB HNX HOK
                go_wp2_with fail
                refine wp_region_held_drew (S:=fun u=>u.cell? ⟨w.heap.size,0,none⟩=some (.slice (some ⟨b,o,none⟩) N cap)∧u.cell? ⟨w.heap.size,1,none⟩=some (.int .i64 s.now)∧u.cell? ⟨b,o+k*2,none⟩=some (.slice of q cf)∧u.cell? ⟨b,o+k*2+1,none⟩=some (.int .i64 ca)∧u.cell? ⟨b,o,none⟩=some (.slice of0 q0 cf0)) (by kernel_rfl) ((un HY) _ (Zb.drew (Zb.refl _))) (fun hHeld=>?_)
                refine Xd [0,1,2,3,4,5,6,7,9,10,11,12] ?_
                repeat
                 refine Xe (v:=?_) hHeld (fun u hSu=>?_) ?_
                 rotate_left
                 ·((try dsimp only at hSu);go_simp) <;> with_reducible rfl
                 try simp only [PS]
                refine Xc ?_
                refine Xw (i:=8) rfl (by kernel_rfl) (fun K hK=>?_)
                go_simp
                refine ((un HHAS) _ (Zb.drew (Zb.refl _))).mono ?_
                rintro e wA ⟨rfl,hkA⟩
                refine hK.out _ _ ((un HY) _ (Zb.trans (Zb.drew (Zb.refl _)) hkA)) (fun hHeld=>?_)
                clear hK K
                try simp only [PS]
                refine Xw (i:=13) rfl (by kernel_rfl) (fun K hK=>?_)
                go_simp
                refine ((un HFF) _ (Zb.trans (Zb.drew (Zb.refl _)) hkA)).mono ?_
                rintro e wB ⟨rfl,hkB⟩
                refine hK.out _ _ ((un HY) _ (Zb.trans (Zb.trans (Zb.drew (Zb.refl _)) hkA) hkB)) (fun hHeld=>?_)
                clear hK K
                try simp only [PS]
                refine Xd [14,15,16,17,18,19] ?_
                repeat
                 refine Xe (v:=?_) hHeld (fun u hSu=>?_) ?_
                 rotate_left
                 ·((try dsimp only at hSu);go_simp) <;> with_reducible rfl
                 try simp only [PS]
                refine Xc ?_
                refine Xw (i:=20) rfl (by kernel_rfl) (fun K hK=>?_)
                go_simp
                refine ((un HHAS0) _ (Zb.trans (Zb.trans (Zb.drew (Zb.refl _)) hkA) hkB)).mono ?_
                rintro e wC ⟨rfl,hkC⟩
                refine hK.out _ _ ((un HY) _ (Zb.trans (Zb.trans (Zb.trans (Zb.drew (Zb.refl _)) hkA) hkB) hkC)) (fun hHeld=>?_)
                clear hK K
                try simp only [PS]
                refine Xd [21,22,23] ?_
                repeat
                 refine Xe (v:=?_) hHeld (fun u hSu=>?_) ?_
                 rotate_left
                 ·((try dsimp only at hSu);go_simp) <;> with_reducible rfl
                 try simp only [PS]
                refine Xc ?_
                refine Up [24,25,26,27,28,29,30] ?_
                repeat
                 refine Uz hHeld ?_
                 try simp only [PS]
                refine Uv ?_
                refine Xd [31,32] ?_
                repeat
                 refine Xe (v:=?_) hHeld (fun u hSu=>?_) ?_
                 rotate_left
                 ·((try dsimp only at hSu);go_simp) <;> with_reducible rfl
                 try simp only [PS]
                refine Xc ?_
                refine wpAnyH_done (by kernel_rfl) ?_ _
                go_wp2_with fail
                go_roundw
                case rel=>exact ⟨k+1,by omega,by go_num,HN1,Za ((un HKq).trans (Zb.trans (Zb.trans (Zb.trans (Zb.drew (Zb.refl _)) hkA) hkB) hkC))⟩
                case measure=>simp [intOf];omega
               | false =>
                by_cases hq:q0=0
                ·have g2:¬ (0:Int)<(q0:Int):=by omega
                 have HN1:=Za ((un HNX) (by rw [un HOK,decide_eq_true hq];rfl))
                 clear HFF0 RB HNX HOK hq
                 go_wp2_with fail
                 refine wp_region_held_drew (S:=fun u=>u.cell? ⟨w.heap.size,0,none⟩=some (.slice (some ⟨b,o,none⟩) N cap)∧u.cell? ⟨w.heap.size,1,none⟩=some (.int .i64 s.now)∧u.cell? ⟨b,o+k*2,none⟩=some (.slice of q cf)∧u.cell? ⟨b,o+k*2+1,none⟩=some (.int .i64 ca)∧u.cell? ⟨b,o,none⟩=some (.slice of0 q0 cf0)) (by kernel_rfl) ((un HY) _ (Zb.drew (Zb.refl _))) (fun hHeld=>?_)
                 refine Xd [0,1,2,3,4,5,6,7,9,10,11,12] ?_
                 repeat
                  refine Xe (v:=?_) hHeld (fun u hSu=>?_) ?_
                  rotate_left
                  ·((try dsimp only at hSu);go_simp) <;> with_reducible rfl
                  try simp only [PS]
                 refine Xc ?_
                 refine Xw (i:=8) rfl (by kernel_rfl) (fun K hK=>?_)
                 go_simp
                 refine ((un HHAS) _ (Zb.drew (Zb.refl _))).mono ?_
                 rintro e wA ⟨rfl,hkA⟩
                 refine hK.out _ _ ((un HY) _ (Zb.trans (Zb.drew (Zb.refl _)) hkA)) (fun hHeld=>?_)
                 clear hK K
                 try simp only [PS]
                 refine Xw (i:=13) rfl (by kernel_rfl) (fun K hK=>?_)
                 go_simp
                 refine ((un HFF) _ (Zb.trans (Zb.drew (Zb.refl _)) hkA)).mono ?_
                 rintro e wB ⟨rfl,hkB⟩
                 refine hK.out _ _ ((un HY) _ (Zb.trans (Zb.trans (Zb.drew (Zb.refl _)) hkA) hkB)) (fun hHeld=>?_)
                 clear hK K
                 try simp only [PS]
                 refine Xd [14,15,16,17,18,19] ?_
                 repeat
                  refine Xe (v:=?_) hHeld (fun u hSu=>?_) ?_
                  rotate_left
                  ·((try dsimp only at hSu);go_simp) <;> with_reducible rfl
                  try simp only [PS]
                 refine Xc ?_
                 refine Xw (i:=20) rfl (by kernel_rfl) (fun K hK=>?_)
                 go_simp
                 refine ((un HHAS0) _ (Zb.trans (Zb.trans (Zb.drew (Zb.refl _)) hkA) hkB)).mono ?_
                 rintro e wC ⟨rfl,hkC⟩
                 refine hK.out _ _ ((un HY) _ (Zb.trans (Zb.trans (Zb.trans (Zb.drew (Zb.refl _)) hkA) hkB) hkC)) (fun hHeld=>?_)
                 clear hK K
                 try simp only [PS]
                 refine Xd [21,22,23,24,25,26,27,28,29,30,31,32] ?_
                 repeat
                  refine Xe (v:=?_) hHeld (fun u hSu=>?_) ?_
                  rotate_left
                  ·((try dsimp only at hSu);go_simp) <;> with_reducible rfl
                  try simp only [PS]
                 refine Xc ?_
                 refine wpAnyH_done (by kernel_rfl) ?_ _
                 go_wp2_with fail
                 go_roundw
                 case rel=>exact ⟨k+1,by omega,by go_num,HN1,Za ((un HKq).trans (Zb.trans (Zb.trans (Zb.trans (Zb.drew (Zb.refl _)) hkA) hkB) hkC))⟩
                 case measure=>simp [intOf];omega
                ·have g2:(0:Int)<(q0:Int):=by omega
                 have hr1:r=1:=(un RB) (by rw [un HOK,decide_eq_false hq];rfl)
                 subst hr1
                 clear HFF0 RB HNX HOK hq R9 R10
                 go_wp2_with fail
                 refine wp_region_held_drew (S:=fun u=>u.cell? ⟨w.heap.size,0,none⟩=some (.slice (some ⟨b,o,none⟩) N cap)∧u.cell? ⟨w.heap.size,1,none⟩=some (.int .i64 s.now)∧u.cell? ⟨b,o+k*2,none⟩=some (.slice of q cf)∧u.cell? ⟨b,o+k*2+1,none⟩=some (.int .i64 ca)∧u.cell? ⟨b,o,none⟩=some (.slice of0 q0 cf0)) (by kernel_rfl) ((un HY) _ (Zb.drew (Zb.refl _))) (fun hHeld=>?_)
                 refine Xd [0,1,2,3,4,5,6,7,9,10,11,12] ?_
                 repeat
                  refine Xe (v:=?_) hHeld (fun u hSu=>?_) ?_
                  rotate_left
                  ·((try dsimp only at hSu);go_simp) <;> with_reducible rfl
                  try simp only [PS]
                 refine Xc ?_
                 refine Xw (i:=8) rfl (by kernel_rfl) (fun K hK=>?_)
                 go_simp
                 refine ((un HHAS) _ (Zb.drew (Zb.refl _))).mono ?_
                 rintro e wA ⟨rfl,hkA⟩
                 refine hK.out _ _ ((un HY) _ (Zb.trans (Zb.drew (Zb.refl _)) hkA)) (fun hHeld=>?_)
                 clear hK K
                 try simp only [PS]
                 refine Xw (i:=13) rfl (by kernel_rfl) (fun K hK=>?_)
                 go_simp
                 refine ((un HFF) _ (Zb.trans (Zb.drew (Zb.refl _)) hkA)).mono ?_
                 rintro e wB ⟨rfl,hkB⟩
                 refine hK.out _ _ ((un HY) _ (Zb.trans (Zb.trans (Zb.drew (Zb.refl _)) hkA) hkB)) (fun hHeld=>?_)
                 clear hK K
                 try simp only [PS]
                 refine Xd [14,15,16,17,18,19] ?_
                 repeat
                  refine Xe (v:=?_) hHeld (fun u hSu=>?_) ?_
                  rotate_left
                  ·((try dsimp only at hSu);go_simp) <;> with_reducible rfl
                  try simp only [PS]
                 refine Xc ?_
                 refine Xw (i:=20) rfl (by kernel_rfl) (fun K hK=>?_)
                 go_simp
                 refine ((un HHAS0) _ (Zb.trans (Zb.trans (Zb.drew (Zb.refl _)) hkA) hkB)).mono ?_
                 rintro e wC ⟨rfl,hkC⟩
                 refine hK.out _ _ ((un HY) _ (Zb.trans (Zb.trans (Zb.trans (Zb.drew (Zb.refl _)) hkA) hkB) hkC)) (fun hHeld=>?_)
                 clear hK K
                 try simp only [PS]
                 refine Xd [21,22,23,24,25,26,27,28,29,30,31,32] ?_
                 repeat
                  refine Xe (v:=?_) hHeld (fun u hSu=>?_) ?_
                  rotate_left
                  ·((try dsimp only at hSu);go_simp) <;> with_reducible rfl
                  try simp only [PS]
                 refine Xc ?_
                 refine wpAnyH_done (by kernel_rfl) ?_ _
                 go_wp2_with fail
                 go_ret
                 exact ⟨rfl,(un HKW2).trans (Zb.trans (Zb.trans (Zb.trans (Zb.drew (Zb.refl _)) hkA) hkB) hkC)⟩
              ·have hkb:((k:Int) == 0)=false:=by rw [beq_eq_false_iff_ne];omega
               have HN1:=Za ((un HNX) (by rw [un HOK,decide_eq_false hk0];rfl))
               clear HFF0 RB HNX HOK
               go_wp2_with fail
               refine wp_region_held_drew (S:=fun u=>u.cell? ⟨w.heap.size,0,none⟩=some (.slice (some ⟨b,o,none⟩) N cap)∧u.cell? ⟨w.heap.size,1,none⟩=some (.int .i64 s.now)∧u.cell? ⟨b,o+k*2,none⟩=some (.slice of q cf)∧u.cell? ⟨b,o+k*2+1,none⟩=some (.int .i64 ca)∧u.cell? ⟨b,o,none⟩=some (.slice of0 q0 cf0)) (by kernel_rfl) ((un HY) _ (Zb.drew (Zb.refl _))) (fun hHeld=>?_)
               refine Xd [0,1,2,3,4,5,6,7,9,10,11,12] ?_
               repeat
                refine Xe (v:=?_) hHeld (fun u hSu=>?_) ?_
                rotate_left
                ·((try dsimp only at hSu);go_simp) <;> with_reducible rfl
                try simp only [PS]
               refine Xc ?_
               refine Xw (i:=8) rfl (by kernel_rfl) (fun K hK=>?_)
               go_simp
               refine ((un HHAS) _ (Zb.drew (Zb.refl _))).mono ?_
               rintro e wA ⟨rfl,hkA⟩
               refine hK.out _ _ ((un HY) _ (Zb.trans (Zb.drew (Zb.refl _)) hkA)) (fun hHeld=>?_)
               clear hK K
               try simp only [PS]
               refine Xw (i:=13) rfl (by kernel_rfl) (fun K hK=>?_)
               go_simp
               refine ((un HFF) _ (Zb.trans (Zb.drew (Zb.refl _)) hkA)).mono ?_
               rintro e wB ⟨rfl,hkB⟩
               refine hK.out _ _ ((un HY) _ (Zb.trans (Zb.trans (Zb.drew (Zb.refl _)) hkA) hkB)) (fun hHeld=>?_)
               clear hK K
               try simp only [PS]
               refine Xd [14,15,16,17,18] ?_
               repeat
                refine Xe (v:=?_) hHeld (fun u hSu=>?_) ?_
                rotate_left
                ·((try dsimp only at hSu);go_simp) <;> with_reducible rfl
                try simp only [PS]
               refine Xc ?_
               refine Up [19,20,21] ?_
               repeat
                refine Uz hHeld ?_
                try simp only [PS]
               refine Uv ?_
               refine Xd [22,23] ?_
               repeat
                refine Xe (v:=?_) hHeld (fun u hSu=>?_) ?_
                rotate_left
                ·((try dsimp only at hSu);go_simp) <;> with_reducible rfl
                try simp only [PS]
               refine Xc ?_
               refine Up [24,25,26,27,28,29,30] ?_
               repeat
                refine Uz hHeld ?_
                try simp only [PS]
               refine Uv ?_
               refine Xd [31,32] ?_
               repeat
                refine Xe (v:=?_) hHeld (fun u hSu=>?_) ?_
                rotate_left
                ·((try dsimp only at hSu);go_simp) <;> with_reducible rfl
                try simp only [PS]
               refine Xc ?_
               refine wpAnyH_done (by kernel_rfl) ?_ _
               go_wp2_with fail
               go_roundw
               case rel=>exact ⟨k+1,by omega,by go_num,HN1,Za ((un HKq).trans (Zb.trans (Zb.trans (Zb.drew (Zb.refl _)) hkA) hkB))⟩
               case measure=>simp [intOf];omega
            ·have hk1:¬ ((k:Int)<(N:Int)):=by omega
             have hr0:r=0:=(un R9) (fun i hi=>(un HA) i (by omega))
             subst hr0
             go_wp2
             go_ret
             exact ⟨rfl,(un HK2).trans (un HKq)⟩
  ·have i30:(30:Int)<(M:Int):=by omega
   have hr2:=(un R1) (by omega)
   subst hr2
   go_wp2
   go_ret
   exact ⟨rfl,un HK1⟩
 ·have i5:(5:Int)<(N:Int):=by omega
  have hr2:=(un R1) (by omega)
  subst hr2
  go_wp2
  go_ret
  exact ⟨rfl,un HK1⟩
theorem Zpl (p:List Fn) (vp:Value) (oa oo:Option Addr) (cap M co:Nat) (now:Int) (w:World) (hp:Zw w vp p) (hz:Xh p=0) (r:Int) (hr:(if M≤30 then 5 else 2)=r) :
  Calls Tryd.prog 6 #[vp,.agg #[.slice oa 0 cap,.int .i64 now,.slice oo M co]] w fun e w'=>e=.returned (.int .i64 r)∧Zb w w':=by
 have HC:Hid (∀ u,Zb w u→Calls Tryd.prog 9 #[vp] u fun e w'=>e=.returned (.int .i64 0)∧Zb u w'):=Za (fun u hu=>by have:=Zfb p vp u (hp.kept hu);rwa [hz] at this)
 clear hp hz
 go_enter Tryd.func6,Tryd.ntmps6
 go_wp2_with fail
 refine ((un HC) _ ((Zb.refl w).alloc _)).mono ?_
 rintro e w1 ⟨rfl,hk1⟩
 have x0:=hk1.cell (show (w.alloc (.cells #[.slice oa 0 cap,.int .i64 now,.slice oo M co] 26)).cell? ⟨w.heap.size,0,none⟩=some (.slice oa 0 cap) by simp)
 have x1:=hk1.cell (show (w.alloc (.cells #[.slice oa 0 cap,.int .i64 now,.slice oo M co] 26)).cell? ⟨w.heap.size,1,none⟩=some (.int .i64 now) by simp)
 have x2:=hk1.cell (show (w.alloc (.cells #[.slice oa 0 cap,.int .i64 now,.slice oo M co] 26)).cell? ⟨w.heap.size,2,none⟩=some (.slice oo M co) by simp)
 have HK1:=Za (((Zb.refl w).alloc _).trans hk1)
 clear hk1 HC
 by_cases h30:M≤30
 ·have i30:¬ (30:Int)<(M:Int):=by omega
  rw [if_pos h30] at hr
  subst hr
  go_wp2
  go_loopw [6] (fun s6 wr=>s6=.int .i64 0∧Hid (w1=wr)) (fun _ _=>0)
  case atStart=>exact ⟨rfl,rfl⟩
  case round =>
   obtain ⟨rfl,HW⟩:=hrel
   have hw:=un HW
   subst hw
   clear HW
   go_wp2
   go_ret
   exact ⟨rfl,un HK1⟩
 ·have i30:(30:Int)<(M:Int):=by omega
  rw [if_neg h30] at hr
  subst hr
  go_wp2
  go_ret
  exact ⟨rfl,un HK1⟩
end Go.Proofs.YtblihfpigjiahaaDoor
