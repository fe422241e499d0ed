/- StepT -/
import Derived.Test.YtblihfpigjiahaaDoorWB39
set_option maxRecDepth 100000
set_option maxHeartbeats 8000000
namespace Go.Proofs.YtblihfpigjiahaaDoor
open Go.RowKit
def Zjz (r:St × Nat × Int) (w:World) (e:Ending) (w':World):Prop:=∃ V,e=.returned (.tuple #[.agg #[V .fibers,.int .i64 r.1.now,V .out],.int .i64 r.2.1,.int .i64 r.2.2])∧Own w.heap.size w' V r.1∧Zb w w'
theorem Zyk (p:List Fn) (s:St) (vp v:Value) (fuel:Nat) (w:World) (hp:Zw w vp p) (hs:Zy w v s) (hsm:Yi s) (hf:fuel≤500) (hok:Zbp p fuel s) :
  Calls Tryd.prog 69 #[vp,v,.int .i64 fuel] w (Zjz (Jg p fuel s) w):=by
 obtain ⟨oa,cp,rfl,_,_⟩:=id hp
 have HP:=Za hp
 have HS:=Za hs
 obtain ⟨vf,vo,rfl,hF,hO⟩:=hs
 obtain ⟨oF,cF,rfl,_,_⟩:=hF
 obtain ⟨oO,cO,rfl,_,_⟩:=hO
 have HOK:=Za hok
 have HSM:=Za hsm
 clear hp hok hsm
 generalize hR:Jg p fuel s=RR
 have HR:=Za hR
 clear hR
 go_enter Tryd.func69,Tryd.ntmps69
 go_wp2_with fail
 generalize hw1:(w.alloc (.cells #[.slice oF s.fibers.length cF,.int .i64 s.now,.slice oO s.out.length cO] 26)).alloc (.cells #[.slice none 0 0,.int .i64 0,.slice none 0 0] 26)=w1
 have LA:w1.heap[w.heap.size]?=some (.cells #[.slice oF s.fibers.length cF,.int .i64 s.now,.slice oO s.out.length cO] 26):=by rw [← hw1];exact Zr (Zg rfl) _
 have LR:w1.heap[w.heap.size+1]?=some (.cells #[.slice none 0 0,.int .i64 0,.slice none 0 0] 26):=by rw [← hw1];exact Zg (by simp)
 have hk1:Zb w w1:=by rw [← hw1];exact ((Zb.refl w).alloc _).alloc _
 have hs1:w1.heap.size=w.heap.size+2:=by rw [← hw1];simp
 have HC:=Za (Zkq s _ w1 ((un HS).kept hk1) (un HSM))
 have HK1:=Za hk1
 have HLA:=Za LA
 have HLR:=Za LR
 clear hw1 hk1 LR LA
 generalize hR2:w.heap.size+1=R2 at *
 generalize hA:w.heap.size=A at *
 have HSZ:Hid (w1.heap.size=A+2∧A+1=R2∧w.heap.size=A):=Za ⟨hs1,hR2,hA⟩
 clear hR2 hA hs1
 refine (un HC).mono ?_
 rintro _ w2 ⟨V,rfl,ho2,hk2⟩
 obtain ⟨xsF,hrF,_⟩:=ho2.piece .fibers trivial
 obtain ⟨oV,cV,hVf,_⟩:=Xq hrF
 have hrO:_:=ho2.piece .out trivial
 obtain ⟨oW,cW,hVo,_⟩:=Xq hrO
 have LA2:=Zm hk2 (un HLA)
 have r0:=Zd LA2 0
 have r1:=Zd LA2 1
 have r2:=Zd LA2 2
 have f0:=Zk LA2 0
 have f1:=Zk LA2 1
 have f2:=Zk LA2 2
 have LZ:=Ue (x:=.slice oV s.fibers.length cV) (y:=.int .i64 s.now) (z:=.slice oW s.out.length cW) LA2
 have hoth:∀ y,y≠A→(((w2.setCell ⟨A,0,none⟩ (.slice oV s.fibers.length cV)).setCell ⟨A,1,none⟩ (.int .i64 s.now)).setCell ⟨A,2,none⟩ (.slice oW s.out.length cW)).heap[y]?=w2.heap[y]?:=fun y hy=>by
  rw [Below.heap_setCell _ _ _ _ hy,Below.heap_setCell _ _ _ _ hy,Below.heap_setCell _ _ _ _ hy]
 have hwA:w.heap.size≤A:=by have:=un HSZ;omega
 have hk3:Zb w (((w2.setCell ⟨A,0,none⟩ (.slice oV s.fibers.length cV)).setCell ⟨A,1,none⟩ (.int .i64 s.now)).setCell ⟨A,2,none⟩ (.slice oW s.out.length cW)):=((((un HK1).trans hk2).setCell (p:=⟨A,0,none⟩) hwA _).setCell (p:=⟨A,1,none⟩) hwA _).setCell (p:=⟨A,2,none⟩) hwA _
 have ho3:Own w1.heap.size (((w2.setCell ⟨A,0,none⟩ (.slice oV s.fibers.length cV)).setCell ⟨A,1,none⟩ (.int .i64 s.now)).setCell ⟨A,2,none⟩ (.slice oW s.out.length cW)) V s:=ho2.same (fun kk g hkk hg=>hoth g (by have:=((ho2.piece kk hkk).block g hg).1;have:=un HSZ;omega))
 have lr3:=(hoth R2 (by have:=un HSZ;omega)).trans (Zm hk2 (un HLR))
 have H0:Hid ((((w2.setCell ⟨A,0,none⟩ (.slice oV s.fibers.length cV)).setCell ⟨A,1,none⟩ (.int .i64 s.now)).setCell ⟨A,2,none⟩ (.slice oW s.out.length cW)).heap[A]?=some (.cells #[V .fibers,.int .i64 s.now,V .out] 26)):=Za (by rw [hVf,hVo];exact LZ)
 have HO3:=Za ho3
 have HK3:=Za hk3
 have HLR3:=Za lr3
 rw [hVf,hVo]
 clear ho2 hk2 hrF hrO hVf hVo LA2 LZ hoth hk3 ho3 lr3 HC
 go_wp2_with fail
 go_loopw [9] (fun s9 wr=>∃ (n:Nat) (c:St) (V:Key→Value),n≤fuel∧s9=.int .i64 n∧Hid (wr.heap[A]?=some (.cells #[V .fibers,.int .i64 c.now,V .out] 26))∧Hid (Own w1.heap.size wr V c)∧Hid (Yi c)∧Hid (Zbp p (fuel - n) c)∧Hid (RR=((Jg p (fuel - n) c).1,(Jg p (fuel - n) c).2.1+n,(Jg p (fuel - n) c).2.2))∧Hid (0<n→n<fuel∧0≤c.now)∧Hid (wr.heap[R2]?=some (.cells #[.slice none 0 0,.int .i64 0,.slice none 0 0] 26))∧Hid (Zb w wr)) (fun s9 _=>fuel - (intOf s9).toNat)
 case atStart=>exact ⟨0,s,V,Nat.zero_le _,rfl,H0,HO3,HSM,HOK,Za (by rw [← un HR];rfl),Za (fun h=>by omega),HLR3,HK3⟩
 case round =>
  obtain ⟨n,c,Vc,hnf,rfl,HA,HOc,HSc,HRO,HREL,HPOS,HLRc,HKc⟩:=hrel
  clear H0 HO3 HLR3 HK3 r0 r1 r2 f0 f1 f2
  obtain ⟨xsF,hrF,_⟩:=(un HOc).piece .fibers trivial
  obtain ⟨oX,cX,hVf,_⟩:=Xq hrF
  have hrO:_:=(un HOc).piece .out trivial
  obtain ⟨oY,cY,hVo,_⟩:=Xq hrO
  have LAc:=un HA
  rw [hVf,hVo] at LAc
  have HLAc:=Za LAc
  have d0:=Zd LAc 0
  have d1:=Zd LAc 1
  have d2:=Zd LAc 2
  have e0:=Zk LAc 0
  have e1:=Zk LAc 1
  have e2:=Zk LAc 2
  have HVF:=Za hVf
  have HVO:=Za hVo
  have LRc:=un HLRc
  have hAR:¬ A=R2:=by have:=un HSZ;omega
  have hRA:¬ R2=A:=fun e=>hAR e.symm
  clear hrF hrO hVf hVo LAc
  by_cases hlt:n<fuel
  ·have hn1:(n:Int)<(fuel:Int):=by omega
   by_cases hneg:c.now<0
   ·-- it is over
    have hn0:n=0:=by
     by_cases h0:n=0
     ·exact h0
     ·have:=(un HPOS) (by omega);omega
    have hd:decide (0≤c.now)=false:=decide_eq_false (by omega)
    have HRR:Hid (RR=(c,0,0)):=Za (by rw [un HREL,Zdu p _ c (.inr hneg),hn0])
    have hng:¬ 0≤c.now:=by omega
    clear hneg
    have HLZ:=Za (Ue (x:=.slice oX c.fibers.length cX) (y:=.int .i64 c.now) (z:=.slice oY c.out.length cY) LRc)
    have q0:=Zd LRc 0
    have q1:=Zd LRc 1
    have q2:=Zd LRc 2
    have g0:=Zk LRc 0
    have g1:=Zk LRc 1
    have g2:=Zk LRc 2
    go_wp2_with fail
    have k0:=Zd (un HLZ) 0
    have k1:=Zd (un HLZ) 1
    have k2:=Zd (un HLZ) 2
    have hwR:w.heap.size≤R2:=by have:=un HSZ;omega
    have hkf:Zb w (((wr.setCell ⟨R2,0,none⟩ (.slice oX c.fibers.length cX)).setCell ⟨R2,1,none⟩ (.int .i64 c.now)).setCell ⟨R2,2,none⟩ (.slice oY c.out.length cY)):=(((un HKc).setCell (p:=⟨R2,0,none⟩) hwR _).setCell (p:=⟨R2,1,none⟩) hwR _).setCell (p:=⟨R2,2,none⟩) hwR _
    have hwf:∀ (y:Nat),w1.heap.size≤y→(((wr.setCell ⟨R2,0,none⟩ (.slice oX c.fibers.length cX)).setCell ⟨R2,1,none⟩ (.int .i64 c.now)).setCell ⟨R2,2,none⟩ (.slice oY c.out.length cY)).heap[y]?=wr.heap[y]?:=fun y hy=>by
     have:=un HSZ
     rw [Below.heap_setCell _ _ _ _ (by simp only;omega),Below.heap_setCell _ _ _ _ (by simp only;omega),Below.heap_setCell _ _ _ _ (by simp only;omega)]
    refine bodyPost_ret (v:=.tuple #[.agg #[.slice oX c.fibers.length cX,.int .i64 c.now,.slice oY c.out.length cY],.int .i64 0,.int .i64 0]) (by simp [results,Tryd.results69,go_sem,k0,k1,k2]) rfl ?_
    exact ⟨Vc,by rw [un HRR,un HVF,un HVO];rfl,by rw [un HRR];exact Own.base (base:=w1.heap.size) ((un HOc).same (fun kk g hkk hg=>hwf g (((un HOc).piece kk hkk).block g hg).1)) (by have:=un HSZ;omega),hkf⟩
   ·have hge:0≤c.now:=by omega
    obtain ⟨k,hk⟩:∃ k,fuel - n=k+1:=⟨fuel - n - 1,by omega⟩
    have hro:=un HRO
    rw [hk] at hro
    obtain ⟨hokc,hsmd,hnext⟩:OkS p c∧Yi (Xj p c).1∧((Xj p c).2=0→Zbp p k (Xj p c).1):=by
     rcases hro with h | h
     ·exact absurd h hneg
     ·exact h
    have hst:Zy wr (.agg #[.slice oX c.fibers.length cX,.int .i64 c.now,.slice oY c.out.length cY]) c:=by
     have:=(un HOc).reads (un HSc)
     rw [un HVF,un HVO] at this
     exact this
    have HC:=Za (Zvb p c _ _ wr ((un HP).kept (un HKc)) hst (un HSc) hokc)
    have hrel:=un HREL
    rw [hk] at hrel
    have HE1:Hid ((Xj p c).2≠0→RR=(c,n,(Xj p c).2)):=Za (fun he=>by rw [hrel,Zmm p k c hneg he];simp)
    have HE2:Hid ((Xj p c).2=0→RR=((Jg p k (Xj p c).1).1,(Jg p k (Xj p c).1).2.1+(n+1),(Jg p k (Xj p c).1).2.2)):=Za (fun he=>by rw [hrel,Zjn p k c hneg he];simp;omega)
    have HNX:=Za hnext
    have HSD:=Za hsmd
    have HKK:=Za hk
    clear hro hokc hsmd hnext hst hrel hk HRO HREL HPOS
    generalize hD:Xj p c=D at HC HE1 HE2 HNX HSD
    clear hD
    go_wp2_with fail
    refine (un HC).mono ?_
    rintro _ w5 ⟨V5,rfl,ho5,hk5⟩
    obtain ⟨xsP,hrP,_⟩:=ho5.piece .fibers trivial
    obtain ⟨oP,cP,hVp,_⟩:=Xq hrP
    have hrQ:_:=ho5.piece .out trivial
    obtain ⟨oQ,cQ,hVq,_⟩:=Xq hrQ
    rw [hVp,hVq]
    have hszr:w1.heap.size≤wr.heap.size:=by
     have h1:=(Array.getElem?_eq_some_iff.1 LRc).1
     have:=un HSZ
     omega
    go_upto_region 6 with fail
    generalize hw6:w5.alloc (.cells #[.slice oP D.1.fibers.length cP,.int .i64 D.1.now,.slice oQ D.1.out.length cQ] 26)=w6
    have hk6:Zb wr w6:=by rw [← hw6];exact hk5.alloc _
    have ho6:Own w1.heap.size w6 V5 D.1:=by rw [← hw6];exact (ho5.alloc _).base hszr
    have hB:w6.heap[w5.heap.size]?=some (.cells #[.slice oP D.1.fibers.length cP,.int .i64 D.1.now,.slice oQ D.1.out.length cQ] 26):=by rw [← hw6];exact Zg rfl
    have hB5:w1.heap.size≤w5.heap.size:=Nat.le_trans hszr hk5.size
    have hoc6:Own w1.heap.size w6 Vc c:=(un HOc).same (fun kk g hkk hg=>hk6.block g (((un HOc).piece kk hkk).block g hg).2)
    have LA6:=Zm hk6 (un HLAc)
    have LR6:=Zm hk6 LRc
    have HVP:=Za hVp
    have HVQ:=Za hVq
    have HO6:=Za ho6
    have HK6:=Za hk6
    have HOC6:=Za hoc6
    have HBB:=Za hB
    have hBA:¬ w5.heap.size=A:=by have:=un HSZ;omega
    have hAB:¬ A=w5.heap.size:=fun e=>hBA e.symm
    have HX6:Hid (w5.alloc (.cells #[.slice oP D.1.fibers.length cP,.int .i64 D.1.now,.slice oQ D.1.out.length cQ] 26)=w6):=Za hw6
    clear ho5 hk5 hrP hrQ hVp hVq ho6 hoc6 HC d0 d1 d2 e0 e1 e2 LRc
    by_cases he:D.2=0
    ·have HRR:=Za ((un HE2) he)
     have HNO:=Za ((un HNX) he)
     have a0:=Zd LA6 0
     have a1:=Zd LA6 1
     have a2:=Zd LA6 2
     have z0:=Zk LA6 0
     have z1:=Zk LA6 1
     have z2:=Zk LA6 2
     have b0:=Zd hB 0
     have b1:=Zd hB 1
     have b2:=Zd hB 2
     have LZ7:=Ue (x:=.slice oP D.1.fibers.length cP) (y:=.int .i64 D.1.now) (z:=.slice oQ D.1.out.length cQ) LA6
     have hoth7:∀ y,y≠A→(((w6.setCell ⟨A,0,none⟩ (.slice oP D.1.fibers.length cP)).setCell ⟨A,1,none⟩ (.int .i64 D.1.now)).setCell ⟨A,2,none⟩ (.slice oQ D.1.out.length cQ)).heap[y]?=w6.heap[y]?:=fun y hy=>by
      rw [Below.heap_setCell _ _ _ _ hy,Below.heap_setCell _ _ _ _ hy,Below.heap_setCell _ _ _ _ hy]
     have LR7:=(hoth7 R2 hRA).trans LR6
     have hwA:w.heap.size≤A:=by have:=un HSZ;omega
     have hk7:Zb w (((w6.setCell ⟨A,0,none⟩ (.slice oP D.1.fibers.length cP)).setCell ⟨A,1,none⟩ (.int .i64 D.1.now)).setCell ⟨A,2,none⟩ (.slice oQ D.1.out.length cQ)):=((((un HKc).trans hk6).setCell (p:=⟨A,0,none⟩) hwA _).setCell (p:=⟨A,1,none⟩) hwA _).setCell (p:=⟨A,2,none⟩) hwA _
     have ho7:Own w1.heap.size (((w6.setCell ⟨A,0,none⟩ (.slice oP D.1.fibers.length cP)).setCell ⟨A,1,none⟩ (.int .i64 D.1.now)).setCell ⟨A,2,none⟩ (.slice oQ D.1.out.length cQ)) V5 D.1:=(un HO6).same (fun kk g hkk hg=>hoth7 g (by have:=(((un HO6).piece kk hkk).block g hg).1;have:=un HSZ;omega))
     have HK7:=Za hk7
     have HO7:=Za ho7
     have HLA7:=Za LZ7
     have c0:=Zd LZ7 0
     have c1:=Zd LZ7 1
     have c2:=Zd LZ7 2
     rw [he]
     have hwn:IntKind.i64.wrap ((n:Int)+1)=(n:Int)+1:=by rw [IntKind.wrap_i64];omega
     clear he hk7 ho7 hoth7 hk6 hw6
     go_upto_region 9 with fail
     generalize (((w6.setCell ⟨A,0,none⟩ (.slice oP D.1.fibers.length cP)).setCell ⟨A,1,none⟩ (.int .i64 D.1.now)).setCell ⟨A,2,none⟩ (.slice oQ D.1.out.length cQ))=w7 at HK7 HO7 HLA7 c0 c1 c2 LR7 ⊢
     clear a0 a1 a2 z0 z1 z2 b0 b1 b2 LZ7 LA6 LR6 HBB hB
     by_cases hlast:n+1=fuel
     ·have hle:(((n:Int)+1) == (fuel:Int))=true:=by rw [beq_iff_eq];omega
      have HR2:Hid (RR=(D.1,n+1,0)):=Za (by rw [un HRR,Zdu p _ D.1 (.inl (by have:=un HKK;omega))];simp)
      subst hlast
      have HLZ:=Za (Ue (x:=.slice oP D.1.fibers.length cP) (y:=.int .i64 D.1.now) (z:=.slice oQ D.1.out.length cQ) LR7)
      have q0:=Zd LR7 0
      have q1:=Zd LR7 1
      have q2:=Zd LR7 2
      have g0:=Zk LR7 0
      have g1:=Zk LR7 1
      have g2:=Zk LR7 2
      go_wp2_with fail
      have k0:=Zd (un HLZ) 0
      have k1:=Zd (un HLZ) 1
      have k2:=Zd (un HLZ) 2
      have hwR:w.heap.size≤R2:=by have:=un HSZ;omega
      have hkf:Zb w (((w7.setCell ⟨R2,0,none⟩ (.slice oP D.1.fibers.length cP)).setCell ⟨R2,1,none⟩ (.int .i64 D.1.now)).setCell ⟨R2,2,none⟩ (.slice oQ D.1.out.length cQ)):=(((un HK7).setCell (p:=⟨R2,0,none⟩) hwR _).setCell (p:=⟨R2,1,none⟩) hwR _).setCell (p:=⟨R2,2,none⟩) hwR _
      have hwf:∀ (y:Nat),w1.heap.size≤y→(((w7.setCell ⟨R2,0,none⟩ (.slice oP D.1.fibers.length cP)).setCell ⟨R2,1,none⟩ (.int .i64 D.1.now)).setCell ⟨R2,2,none⟩ (.slice oQ D.1.out.length cQ)).heap[y]?=w7.heap[y]?:=fun y hy=>by
       have:=un HSZ
       rw [Below.heap_setCell _ _ _ _ (by simp only;omega),Below.heap_setCell _ _ _ _ (by simp only;omega),Below.heap_setCell _ _ _ _ (by simp only;omega)]
      refine bodyPost_ret (v:=.tuple #[.agg #[.slice oP D.1.fibers.length cP,.int .i64 D.1.now,.slice oQ D.1.out.length cQ],.int .i64 ((n:Int)+1),.int .i64 0]) (by simp [results,Tryd.results69,go_sem,k0,k1,k2]) rfl ?_
      exact ⟨V5,by rw [un HR2,un HVP,un HVQ];simp,by rw [un HR2];exact Own.base (base:=w1.heap.size) ((un HO7).same (fun kk g hkk hg=>hwf g (((un HO7).piece kk hkk).block g hg).1)) (by have:=un HSZ;omega),hkf⟩
     ·have hle:(((n:Int)+1) == (fuel:Int))=false:=by rw [beq_eq_false_iff_ne];omega
      by_cases hdn:D.1.now<0
      ·have HR2:Hid (RR=(D.1,n+1,0)):=Za (by rw [un HRR,Zdu p _ D.1 (.inr hdn)];simp)
       have HLZ:=Za (Ue (x:=.slice oP D.1.fibers.length cP) (y:=.int .i64 D.1.now) (z:=.slice oQ D.1.out.length cQ) LR7)
       have q0:=Zd LR7 0
       have q1:=Zd LR7 1
       have q2:=Zd LR7 2
       have g0:=Zk LR7 0
       have g1:=Zk LR7 1
       have g2:=Zk LR7 2
       go_wp2_with fail
       have k0:=Zd (un HLZ) 0
       have k1:=Zd (un HLZ) 1
       have k2:=Zd (un HLZ) 2
       have hwR:w.heap.size≤R2:=by have:=un HSZ;omega
       have hkf:Zb w (((w7.setCell ⟨R2,0,none⟩ (.slice oP D.1.fibers.length cP)).setCell ⟨R2,1,none⟩ (.int .i64 D.1.now)).setCell ⟨R2,2,none⟩ (.slice oQ D.1.out.length cQ)):=(((un HK7).setCell (p:=⟨R2,0,none⟩) hwR _).setCell (p:=⟨R2,1,none⟩) hwR _).setCell (p:=⟨R2,2,none⟩) hwR _
       have hwf:∀ (y:Nat),w1.heap.size≤y→(((w7.setCell ⟨R2,0,none⟩ (.slice oP D.1.fibers.length cP)).setCell ⟨R2,1,none⟩ (.int .i64 D.1.now)).setCell ⟨R2,2,none⟩ (.slice oQ D.1.out.length cQ)).heap[y]?=w7.heap[y]?:=fun y hy=>by
        have:=un HSZ
        rw [Below.heap_setCell _ _ _ _ (by simp only;omega),Below.heap_setCell _ _ _ _ (by simp only;omega),Below.heap_setCell _ _ _ _ (by simp only;omega)]
       refine bodyPost_ret (v:=.tuple #[.agg #[.slice oP D.1.fibers.length cP,.int .i64 D.1.now,.slice oQ D.1.out.length cQ],.int .i64 ((n:Int)+1),.int .i64 0]) (by simp [results,Tryd.results69,go_sem,k0,k1,k2]) rfl ?_
       exact ⟨V5,by rw [un HR2,un HVP,un HVQ];simp,by rw [un HR2];exact Own.base (base:=w1.heap.size) ((un HO7).same (fun kk g hkk hg=>hwf g (((un HO7).piece kk hkk).block g hg).1)) (by have:=un HSZ;omega),hkf⟩
      ·have hdn':decide (D.1.now<0)=false:=decide_eq_false hdn
       have hkn:fuel - (n+1)=k:=by have:=un HKK;omega
       have HF:Hid (fuel - (n+1)=k):=Za hkn
       have HLR7:=Za LR7
       clear hkn LR7
       go_wp2
       go_roundw
       case rel =>
        refine ⟨n+1,D.1,V5,by omega,by go_num,Za ?_,HO7,HSD,Za ?_,Za ?_,Za ?_,HLR7,HK7⟩
        ·rw [un HVP,un HVQ];exact un HLA7
        ·rw [un HF];exact un HNO
        ·rw [un HF];exact un HRR
        ·intro _;omega
       case measure=>simp [intOf];omega
    ·have HRR:=Za ((un HE1) he)
     have hbe:(D.2 != 0)=true:=bne_iff_ne.2 he
     have a0:=Zd LA6 0
     have a1:=Zd LA6 1
     have a2:=Zd LA6 2
     clear he
     have HLZ:=Za (Ue (x:=.slice oX c.fibers.length cX) (y:=.int .i64 c.now) (z:=.slice oY c.out.length cY) LR6)
     have q0:=Zd LR6 0
     have q1:=Zd LR6 1
     have q2:=Zd LR6 2
     have g0:=Zk LR6 0
     have g1:=Zk LR6 1
     have g2:=Zk LR6 2
     go_wp2_with fail
     have k0:=Zd (un HLZ) 0
     have k1:=Zd (un HLZ) 1
     have k2:=Zd (un HLZ) 2
     have hwR:w.heap.size≤R2:=by have:=un HSZ;omega
     have hkf:Zb w (((w6.setCell ⟨R2,0,none⟩ (.slice oX c.fibers.length cX)).setCell ⟨R2,1,none⟩ (.int .i64 c.now)).setCell ⟨R2,2,none⟩ (.slice oY c.out.length cY)):=((((un HKc).trans (un HK6)).setCell (p:=⟨R2,0,none⟩) hwR _).setCell (p:=⟨R2,1,none⟩) hwR _).setCell (p:=⟨R2,2,none⟩) hwR _
     have hwf:∀ (y:Nat),w1.heap.size≤y→(((w6.setCell ⟨R2,0,none⟩ (.slice oX c.fibers.length cX)).setCell ⟨R2,1,none⟩ (.int .i64 c.now)).setCell ⟨R2,2,none⟩ (.slice oY c.out.length cY)).heap[y]?=w6.heap[y]?:=fun y hy=>by
      have:=un HSZ
      rw [Below.heap_setCell _ _ _ _ (by simp only;omega),Below.heap_setCell _ _ _ _ (by simp only;omega),Below.heap_setCell _ _ _ _ (by simp only;omega)]
     refine bodyPost_ret (v:=.tuple #[.agg #[.slice oX c.fibers.length cX,.int .i64 c.now,.slice oY c.out.length cY],.int .i64 n,.int .i64 D.2]) (by simp [results,Tryd.results69,go_sem,k0,k1,k2]) rfl ?_
     exact ⟨Vc,by rw [un HRR,un HVF,un HVO],by rw [un HRR];exact Own.base (base:=w1.heap.size) ((un HOC6).same (fun kk g hkk hg=>hwf g (((un HOC6).piece kk hkk).block g hg).1)) (by have:=un HSZ;omega),hkf⟩
  ·have hng:¬ (n:Int)<(fuel:Int):=by omega
   have hn0:n=0:=by
    by_cases h0:n=0
    ·exact h0
    ·have:=(un HPOS) (by omega);omega
   have HRR:Hid (RR=(c,0,0)):=Za (by rw [un HREL,Zdu p _ c (.inl (by omega)),hn0])
   have HLZ:=Za (Ue (x:=.slice oX c.fibers.length cX) (y:=.int .i64 c.now) (z:=.slice oY c.out.length cY) LRc)
   have q0:=Zd LRc 0
   have q1:=Zd LRc 1
   have q2:=Zd LRc 2
   have g0:=Zk LRc 0
   have g1:=Zk LRc 1
   have g2:=Zk LRc 2
   go_wp2_with fail
   have k0:=Zd (un HLZ) 0
   have k1:=Zd (un HLZ) 1
   have k2:=Zd (un HLZ) 2
   have hwR:w.heap.size≤R2:=by have:=un HSZ;omega
   have hkf:Zb w (((wr.setCell ⟨R2,0,none⟩ (.slice oX c.fibers.length cX)).setCell ⟨R2,1,none⟩ (.int .i64 c.now)).setCell ⟨R2,2,none⟩ (.slice oY c.out.length cY)):=(((un HKc).setCell (p:=⟨R2,0,none⟩) hwR _).setCell (p:=⟨R2,1,none⟩) hwR _).setCell (p:=⟨R2,2,none⟩) hwR _
   have hwf:∀ (y:Nat),w1.heap.size≤y→(((wr.setCell ⟨R2,0,none⟩ (.slice oX c.fibers.length cX)).setCell ⟨R2,1,none⟩ (.int .i64 c.now)).setCell ⟨R2,2,none⟩ (.slice oY c.out.length cY)).heap[y]?=wr.heap[y]?:=fun y hy=>by
    have:=un HSZ
    rw [Below.heap_setCell _ _ _ _ (by simp only;omega),Below.heap_setCell _ _ _ _ (by simp only;omega),Below.heap_setCell _ _ _ _ (by simp only;omega)]
   refine bodyPost_ret (v:=.tuple #[.agg #[.slice oX c.fibers.length cX,.int .i64 c.now,.slice oY c.out.length cY],.int .i64 0,.int .i64 0]) (by simp [results,Tryd.results69,go_sem,k0,k1,k2]) rfl ?_
   exact ⟨Vc,by rw [un HRR,un HVF,un HVO];rfl,by rw [un HRR];exact Own.base (base:=w1.heap.size) ((un HOc).same (fun kk g hkk hg=>hwf g (((un HOc).piece kk hkk).block g hg).1)) (by have:=un HSZ;omega),hkf⟩
end Go.Proofs.YtblihfpigjiahaaDoor
