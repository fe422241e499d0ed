/- StepU, StepV, StepBg, SaveS, SavePl, RestA, SaveR -/
import Derived.Test.YtblihfpigjiahaaDoorWB40
import Derived.Test.YtblihfpigjiahaaDoorWB22
import Derived.Test.YtblihfpigjiahaaDoorWB32
import Derived.Test.YtblihfpigjiahaaDoorWB24
import Derived.Test.YtblihfpigjiahaaDoorWB11
import Derived.Test.YtblihfpigjiahaaDoorWB12
import Derived.Laws.BitsLemmas
import Derived.Test.YtblihfpigjiahaaDoorWB08
import Derived.Laws.Strings2
import Derived.Laws.Closers25b
set_option maxRecDepth 100000
set_option maxHeartbeats 8000000
namespace Go.Proofs.YtblihfpigjiahaaDoor
open Go.RowKit
theorem Zzb (p:List Fn) (s:St) (vp v:Value) (fuel:Nat) (w:World) (hp:Zw w vp p) (hs:Zy w v s) (hsm:Yi s) (hf:fuel≤500) (hz:Xa p s=0) (hok:Zbp p fuel s) :
  Calls Tryd.prog 49 #[vp,v,.int .i64 fuel] w (Zjz (Jg p fuel s) w):=by
 obtain ⟨oa,cp,rfl,_,_⟩:=id hp
 have HP:=Za hp
 have HS:=Za hs
 obtain ⟨vf,vo,rfl,hF,hO⟩:=hs
 obtain ⟨oF,cF,rfl,_,_⟩:=hF
 obtain ⟨oO,cO,rfl,_,_⟩:=hO
 have HOK:=Za hok
 have HSM:=Za hsm
 have HZ:=Za hz
 have hin:inB (fuel:Int) 0 500=true:=Wl (by omega) (by omega)
 clear hp hok hsm hz
 generalize hR0:Jg p fuel s=RR
 have HRR:=Za hR0
 clear hR0
 go_enter Tryd.func49,Tryd.ntmps49
 go_wp2_with (go_at_call 15;refine (Xm _ _ _ _).mono ?_;rw [hin];rintro e w' ⟨rfl,rfl⟩)
 generalize hw1:(w.alloc (.cells #[.slice oF s.fibers.length cF,.int .i64 s.now,.slice oO s.out.length cO] 26)).alloc (.cells #[.slice none 0 0,.int .i64 0,.slice none 0 0] 26)=w1
 have LA:w1.heap[w.heap.size]?=some (.cells #[.slice oF s.fibers.length cF,.int .i64 s.now,.slice oO s.out.length cO] 26):=by rw [← hw1];exact Zr (Zg rfl) _
 have LR:w1.heap[w.heap.size+1]?=some (.cells #[.slice none 0 0,.int .i64 0,.slice none 0 0] 26):=by rw [← hw1];exact Zg (by simp)
 have hk1:Zb w w1:=by rw [← hw1];exact ((Zb.refl w).alloc _).alloc _
 have hs1:w1.heap.size=w.heap.size+2:=by rw [← hw1];simp
 have HE:=Za (Zhz p _ _ s w1 ((un HP).kept hk1) ((un HS).kept hk1))
 have HK1:=Za hk1
 have HLA:=Za LA
 have HLR:=Za LR
 have HSZ:=Za hs1
 clear hw1 hk1 hs1 LA LR
 refine (un HE).mono ?_
 rintro _ w2 ⟨rfl,hk2⟩
 rw [un HZ]
 have hk12:=(un HK1).trans hk2
 have a0:=Zd (Zm hk2 (un HLA)) 0
 have a1:=Zd (Zm hk2 (un HLA)) 1
 have a2:=Zd (Zm hk2 (un HLA)) 2
 have HLR2:=Za (Zm hk2 (un HLR))
 have hrc:=Zyk p s _ _ fuel w2 ((un HP).kept hk12) ((un HS).kept hk12) (un HSM) hf (un HOK)
 rw [un HRR] at hrc
 have HC:=Za hrc
 clear hrc
 have HK2:=Za hk12
 have HG:=Za hk2.size
 clear hk2 hk12 HE
 go_wp2_with fail
 refine (un HC).mono ?_
 rintro _ w3 ⟨V,rfl,ho3,hk3⟩
 obtain ⟨xsF,hrF,_⟩:=ho3.piece .fibers trivial
 obtain ⟨oX,cX,hVf,_⟩:=Xq hrF
 have hrO:_:=ho3.piece .out trivial
 obtain ⟨oY,cY,hVo,_⟩:=Xq hrO
 have LR3:=Zm hk3 (un HLR2)
 generalize hR2:w.heap.size+1=R2 at *
 have r0:=Zd LR3 0
 have r1:=Zd LR3 1
 have r2:=Zd LR3 2
 have f0:=Zk LR3 0
 have f1:=Zk LR3 1
 have f2:=Zk LR3 2
 have HLZ:=Za (Ue (x:=.slice oX RR.1.fibers.length cX) (y:=.int .i64 RR.1.now) (z:=.slice oY RR.1.out.length cY) LR3)
 have HVF:=Za hVf
 have HVO:=Za hVo
 have HO3:=Za ho3
 have HK3:=Za ((un HK2).trans hk3)
 have HRZ:Hid (w.heap.size+1=R2∧w2.heap.size ≥ w.heap.size+2):=Za ⟨hR2,by have:=un HG;have:=un HSZ;omega⟩
 rw [hVf,hVo]
 clear ho3 hk3 hrF hrO hVf hVo LR3 HC a0 a1 a2 hR2
 go_wp2_with fail
 have k0:=Zd (un HLZ) 0
 have k1:=Zd (un HLZ) 1
 have k2:=Zd (un HLZ) 2
 have hwR:w.heap.size≤R2:=by have:=un HRZ;omega
 have hkf:Zb w (((w3.setCell ⟨R2,0,none⟩ (.slice oX RR.1.fibers.length cX)).setCell ⟨R2,1,none⟩ (.int .i64 RR.1.now)).setCell ⟨R2,2,none⟩ (.slice oY RR.1.out.length cY)):=(((un HK3).setCell (p:=⟨R2,0,none⟩) hwR _).setCell (p:=⟨R2,1,none⟩) hwR _).setCell (p:=⟨R2,2,none⟩) hwR _
 have hwf:∀ (y:Nat),w2.heap.size≤y→(((w3.setCell ⟨R2,0,none⟩ (.slice oX RR.1.fibers.length cX)).setCell ⟨R2,1,none⟩ (.int .i64 RR.1.now)).setCell ⟨R2,2,none⟩ (.slice oY RR.1.out.length cY)).heap[y]?=w3.heap[y]?:=fun y hy=>by
  have:=un HRZ
  rw [Below.heap_setCell _ _ _ _ (by simp only;omega),Below.heap_setCell _ _ _ _ (by simp only;omega),Below.heap_setCell _ _ _ _ (by simp only;omega)]
 refine bodyPost_ret (v:=.tuple #[.agg #[.slice oX RR.1.fibers.length cX,.int .i64 RR.1.now,.slice oY RR.1.out.length cY],.int .i64 RR.2.1,.int .i64 RR.2.2]) (by simp [results,Tryd.results49,go_sem,k0,k1,k2]) rfl ?_
 exact ⟨V,by rw [un HVF,un HVO],Own.base (base:=w2.heap.size) ((un HO3).same (fun kk g hkk hg=>hwf g (((un HO3).piece kk hkk).block g hg).1)) (by have:=un HRZ;omega),hkf⟩
theorem Zpe (p:List Fn) (vp:Value) (fuel:Nat) (w:World) (hp:Zw w vp p) (hpz:Xh p=0) (hsm:Yi (Ur p)) (hf:fuel≤500) (hz:Xa p (Ur p)=0) (hok:Zbp p fuel (Ur p)) :
  Calls Tryd.prog 27 #[vp,.int .i64 fuel] w (Znl (Jg p fuel (Ur p)).1 w):=by
 obtain ⟨oa,cp,rfl,_,_⟩:=id hp
 have HP:=Za hp
 have HOK:=Za hok
 have HSM:=Za hsm
 have HZ:=Za hz
 have HPZ:=Za hpz
 clear hp hok hsm hz hpz
 generalize hR0:Jg p fuel (Ur p)=RR
 have HRR:=Za hR0
 clear hR0
 go_enter Tryd.func27,Tryd.ntmps27
 go_wp2_with fail
 generalize hw1:w.alloc (.cells #[.slice none 0 0,.int .i64 0,.slice none 0 0] 26)=w1
 have LR:w1.heap[w.heap.size]?=some (.cells #[.slice none 0 0,.int .i64 0,.slice none 0 0] 26):=by rw [← hw1];exact Zg rfl
 have hk1:Zb w w1:=by rw [← hw1];exact (Zb.refl w).alloc _
 have hs1:w1.heap.size=w.heap.size+1:=by rw [← hw1];simp
 have HB:=Za (Zpy p _ w1 ((un HP).kept hk1) (un HPZ))
 have HK1:=Za hk1
 have HLR:=Za LR
 have HSZ:=Za hs1
 clear hw1 hk1 hs1 LR
 refine (un HB).mono ?_
 rintro _ w2 ⟨vb,rfl,hst2,hk2⟩
 obtain ⟨vf,vo,rfl,hF,hO⟩:=id hst2
 obtain ⟨oF,cF,rfl,_,_⟩:=hF
 obtain ⟨oO,cO,rfl,_,_⟩:=hO
 have hrc:=Zzb p (Ur p) _ _ fuel w2 ((un HP).kept ((un HK1).trans hk2)) hst2 (un HSM) hf (un HZ) (un HOK)
 rw [un HRR] at hrc
 have HC:=Za hrc
 clear hrc
 have HK2:=Za ((un HK1).trans hk2)
 have HLR2:=Za (Zm hk2 (un HLR))
 have HG:=Za hk2.size
 clear hk2 hst2 HB
 go_wp2_with fail
 refine (un HC).mono ?_
 rintro _ w3 ⟨V,rfl,ho3,hk3⟩
 obtain ⟨xsF,hrF,_⟩:=ho3.piece .fibers trivial
 obtain ⟨oX,cX,hVf,_⟩:=Xq hrF
 have hrO:_:=ho3.piece .out trivial
 obtain ⟨oY,cY,hVo,_⟩:=Xq hrO
 rw [hVf,hVo]
 have LR3:=Zm hk3 (un HLR2)
 have HVF:=Za hVf
 have HVO:=Za hVo
 have HO3:=Za ho3
 have HK3:=Za ((un HK2).trans hk3)
 have HG3:=Za hk3.size
 clear hrF hrO hVf hVo HC hk3
 go_upto_region 2 with fail
 generalize hw4:w3.alloc (.cells #[.slice oX RR.1.fibers.length cX,.int .i64 RR.1.now,.slice oY RR.1.out.length cY] 26)=w4
 have hk4:Zb w3 w4:=by rw [← hw4];exact (Zb.refl w3).alloc _
 have hB:w4.heap[w3.heap.size]?=some (.cells #[.slice oX RR.1.fibers.length cX,.int .i64 RR.1.now,.slice oY RR.1.out.length cY] 26):=by rw [← hw4];exact Zg rfl
 have LR4:=Zm hk4 LR3
 have HO4:=Za (show Own w2.heap.size w4 V RR.1 from (un HO3).same (fun kk g hkk hg=>hk4.block g (((un HO3).piece kk hkk).block g hg).2))
 have HK4:=Za ((un HK3).trans hk4)
 generalize hR2:w.heap.size=R2 at *
 have r0:=Zd LR4 0
 have r1:=Zd LR4 1
 have r2:=Zd LR4 2
 have f0:=Zk LR4 0
 have f1:=Zk LR4 1
 have f2:=Zk LR4 2
 have b0:=Zd hB 0
 have b1:=Zd hB 1
 have b2:=Zd hB 2
 have HLZ:=Za (Ue (x:=.slice oX RR.1.fibers.length cX) (y:=.int .i64 RR.1.now) (z:=.slice oY RR.1.out.length cY) LR4)
 have HRZ:Hid (w.heap.size=R2∧w2.heap.size ≥ w.heap.size+1):=Za ⟨hR2,by have:=un HG;have:=un HSZ;omega⟩
 clear hw4 hk4 hB LR4 LR3 hR2 HO3 HK3 ho3
 go_wp2_with fail
 have k0:=Zd (un HLZ) 0
 have k1:=Zd (un HLZ) 1
 have k2:=Zd (un HLZ) 2
 have hwR:w.heap.size≤R2:=by have:=un HRZ;omega
 have hkf:Zb w (((w4.setCell ⟨R2,0,none⟩ (.slice oX RR.1.fibers.length cX)).setCell ⟨R2,1,none⟩ (.int .i64 RR.1.now)).setCell ⟨R2,2,none⟩ (.slice oY RR.1.out.length cY)):=(((un HK4).setCell (p:=⟨R2,0,none⟩) hwR _).setCell (p:=⟨R2,1,none⟩) hwR _).setCell (p:=⟨R2,2,none⟩) hwR _
 have hwf:∀ (y:Nat),w2.heap.size≤y→(((w4.setCell ⟨R2,0,none⟩ (.slice oX RR.1.fibers.length cX)).setCell ⟨R2,1,none⟩ (.int .i64 RR.1.now)).setCell ⟨R2,2,none⟩ (.slice oY RR.1.out.length cY)).heap[y]?=w4.heap[y]?:=fun y hy=>by
  have:=un HRZ
  rw [Below.heap_setCell _ _ _ _ (by simp only;omega),Below.heap_setCell _ _ _ _ (by simp only;omega),Below.heap_setCell _ _ _ _ (by simp only;omega)]
 refine bodyPost_ret (v:=.agg #[.slice oX RR.1.fibers.length cX,.int .i64 RR.1.now,.slice oY RR.1.out.length cY]) (by simp [results,Tryd.results27,go_sem,k0,k1,k2]) rfl ?_
 exact ⟨V,by rw [un HVF,un HVO],Own.base (base:=w2.heap.size) ((un HO4).same (fun kk g hkk hg=>hwf g (((un HO4).piece kk hkk).block g hg).1)) (by have:=un HRZ;omega),hkf⟩
theorem Zmb:Xh Jw=0:=by decide +kernel
theorem Zuo:Yi (Ur Jw):=by unfold Yi;decide +kernel
theorem Zer:Xa Jw (Ur Jw)=0:=by decide +kernel
theorem Zne {p:List Fn}:∀ (k:Nat) {s:St},Xa p s=0→Zbp p k s
 | 0,_,_=>trivial
 | k+1,s,h=>by
  by_cases hn:s.now<0
  ·exact .inl hn
  ·refine .inr ⟨Zvp h (by omega),Xbs h (by omega),fun he=>?_⟩
   rcases Zgv h (by omega) with ⟨_,h1⟩ | ⟨_,h1⟩
   ·exact Zne k h1
   ·omega
theorem Zug (k:Nat) (hk:k≤99) (u:World) (vp:Value) (hp:Zw u vp Jw):Calls Tryd.prog 27 #[vp,.int .i64 k] u fun e w'=>∃ v,e=.returned v∧Zy w' v (Jg Jw k (Ur Jw)).1∧Zb u w':=by
 refine (Zpe Jw vp k u hp Zmb Zuo (by omega) Zer (Zne k Zer)).mono ?_
 rintro e w' ⟨V,rfl,ho,hk⟩
 exact ⟨_,rfl,ho.reads (Zeq (Zgm k Zer)),hk⟩
theorem Zvh (u:World):Calls Tryd.prog 26 #[] u fun e w'=>∃ v,e=.returned v∧Zw w' v Jw∧Zb u w':=by
 refine (Zwx u).mono ?_
 rintro e w' ⟨v,rfl,h,hk⟩
 exact ⟨v,rfl,h.prog,hk⟩
def Xg (n:Int):UInt8:=UInt8.ofNat (n % 256).toNat
theorem Zat (n:Int):((Xg n).toNat:Int)=n % 256:=by
 unfold Xg
 rw [UInt8.toNat_ofNat']
 omega
theorem Znd {n:Nat} (h:n<256):(Xg n).toNat=n:=by
 have:=Zat n
 omega
def Qd (v:Int):List UInt8:=(List.range 8).map fun k=>Xg (v / 2 ^ (56 - 8*k))
def Xp {α:Type} (f:α→List UInt8) (l:List α):List UInt8:=Xg l.length :: l.flatMap f
def Qx (x:Fr):List UInt8:=Xg x.fn :: Xg x.at_ :: (Xp Qd x.locals++Xp Qd x.stack)
def Ja (b:Fb):List UInt8:=Xg (b.caller+1) :: Xp Qx b.frames
def Xk (s:St):List UInt8:=Xg (s.now+1) :: (Xp Ja s.fibers++Xp Qd s.out)
def rdN:List UInt8→Option (Nat × List UInt8)
 | []=>none
 | b :: r=>some (b.toNat,r)
def Yd (v:Int) (b:UInt8):Int:=IntKind.i64.wrap (v*256+(b.toNat:Int))
def rdK:Nat→Int→List UInt8→Option (Int × List UInt8)
 | 0,v,l=>some (v,l)
 | _+1,_,[]=>none
 | k+1,v,b :: r=>rdK k (Yd v b) r
def rdV (l:List UInt8):Option (Int × List UInt8):=rdK 8 0 l
def rdL {α:Type} (f:List UInt8→Option (α × List UInt8)):Nat→List UInt8→Option (List α × List UInt8)
 | 0,l=>some ([],l)
 | n+1,l=>match f l with
  | none=>none
  | some (x,r)=>match rdL f n r with
   | none=>none
   | some (xs,r')=>some (x :: xs,r')
def Xu {α:Type} (f:List UInt8→Option (α × List UInt8)) (l:List UInt8):Option (List α × List UInt8):=match rdN l with
 | none=>none
 | some (n,r)=>rdL f n r
def rdF (l:List UInt8):Option (Fr × List UInt8):=match rdN l with
 | none=>none
 | some (a,r1)=>match rdN r1 with
  | none=>none
  | some (b,r2)=>match Xu rdV r2 with
   | none=>none
   | some (x,r3)=>match Xu rdV r3 with
    | none=>none
    | some (y,r4)=>some (⟨a,b,x,y⟩,r4)
def rdB (l:List UInt8):Option (Fb × List UInt8):=match rdN l with
 | none=>none
 | some (a,r1)=>match Xu rdF r1 with
  | none=>none
  | some (x,r2)=>some (⟨x,(a:Int) - 1⟩,r2)
def rdS (l:List UInt8):Option (St × List UInt8):=match rdN l with
 | none=>none
 | some (a,r1)=>match Xu rdB r1 with
  | none=>none
  | some (x,r2)=>match Xu rdV r2 with
   | none=>none
   | some (y,r3)=>some (⟨x,(a:Int) - 1,y⟩,r3)
def V8 (v:Int):Prop:=-9223372036854775808≤v∧v<9223372036854775808
theorem Zns (v:Int):Qd v=[Xg (v / 72057594037927936),Xg (v / 281474976710656),Xg (v / 1099511627776),Xg (v / 4294967296),Xg (v / 16777216),Xg (v / 65536),Xg (v / 256),Xg v]:=by
 unfold Qd
 simp [List.range_succ]
theorem Pe (v:Int):(Qd v).length=8:=by simp [Qd]
theorem Zjg (v:Int) (hv:V8 v) (r:List UInt8):rdV (Qd v++r)=some (v,r):=by
 rw [Zns]
 obtain ⟨h1,h2⟩:=hv
 simp only [List.cons_append,List.nil_append,rdV,rdK,Yd,Zat]
 simp only [Option.some.injEq,Prod.mk.injEq,and_true,IntKind.wrap_i64]
 omega
theorem Zkb {α:Type} {f:List UInt8→Option (α × List UInt8)} {g:α→List UInt8}:∀ (l:List α),(∀ x∈l,∀ r,f (g x++r)=some (x,r))→∀ r,rdL f l.length (l.flatMap g++r)=some (l,r)
 | [],_,r=>rfl
 | x :: l,h,r=>by
  have h1:=h x (by simp) (l.flatMap g++r)
  have h2:=Zkb l (fun y hy=>h y (by simp [hy])) r
  simp only [List.flatMap_cons,List.append_assoc,List.length_cons,rdL,h1,h2]
theorem Zds {α:Type} {f:List UInt8→Option (α × List UInt8)} {g:α→List UInt8} (l:List α) (hl:l.length<256) (h:∀ x∈l,∀ r,f (g x++r)=some (x,r)) (r:List UInt8):Xu f (Xp g l++r)=some (l,r):=by
 unfold Xu Xp
 simp only [List.cons_append,rdN,Znd hl]
 exact Zkb l h r
structure StB (s:St):Prop where
 now:-1≤s.now∧s.now<255
 fibers:s.fibers.length<256
 out:s.out.length<256∧∀ v∈s.out,V8 v
 fiber:∀ b∈s.fibers,-1≤b.caller∧b.caller<255∧b.frames.length<256∧∀ x∈b.frames,(0≤x.fn∧x.fn<256)∧(0≤x.at_∧x.at_<256)∧(x.locals.length<256∧∀ v∈x.locals,V8 v)∧(x.stack.length<256∧∀ v∈x.stack,V8 v)
theorem Zeo {n:Int} (h0:0≤n) (h:n<256):((Xg n).toNat:Int)=n:=by rw [Zat];omega
theorem Zqf (x:Fr) (h1:0≤x.fn∧x.fn<256) (h2:0≤x.at_∧x.at_<256) (h3:x.locals.length<256∧∀ v∈x.locals,V8 v) (h4:x.stack.length<256∧∀ v∈x.stack,V8 v) (r:List UInt8):rdF (Qx x++r)=some (x,r):=by
 unfold rdF Qx
 simp only [List.cons_append,List.append_assoc,rdN]
 rw [Zds x.locals h3.1 (fun v hv r=>Zjg v (h3.2 v hv) r)]
 simp only
 rw [Zds x.stack h4.1 (fun v hv r=>Zjg v (h4.2 v hv) r)]
 simp only [Zeo h1.1 h1.2,Zeo h2.1 h2.2]
theorem Zjl (s:St) (h:StB s) (r:List UInt8):rdS (Xk s++r)=some (s,r):=by
 unfold rdS Xk
 simp only [List.cons_append,List.append_assoc,rdN]
 rw [Zds s.fibers h.fibers (fun b hb r=>?_)]
 ·simp only
  rw [Zds s.out h.out.1 (fun v hv r=>Zjg v (h.out.2 v hv) r)]
  have:=h.now
  simp only [Zeo (show 0≤s.now+1 by omega) (by omega)]
  congr 2
  cases s
  simp
 ·obtain ⟨c0,c1,c2,c3⟩:=h.fiber b hb
  unfold rdB Ja
  simp only [List.cons_append,rdN]
  rw [Zds b.frames c2 (fun x hx r=>by obtain ⟨q1,q2,q3,q4⟩:=c3 x hx;exact Zqf x q1 q2 q3 q4 r)]
  simp only [Zeo (show 0≤b.caller+1 by omega) (by omega)]
  congr 2
  cases b
  simp
theorem Zgi {z:Int} (h:(Lit.int .i64 z).wf=true):V8 z:=by
 have h1:IntKind.i64.min≤z∧z≤IntKind.i64.max:=by simpa [Lit.wf] using h
 have e1:IntKind.i64.min=-9223372036854775808:=by decide
 have e2:IntKind.i64.max=9223372036854775807:=by decide
 unfold V8
 omega
theorem Zbn {p:List Fn} {s:St} (h:Xa p s=0) (hw:StW s):StB s:=by
 obtain ⟨hp,hlim,_⟩:=Zbq h
 obtain ⟨h5,h30,h6,_,⟨n1,n2⟩,hc⟩:=Zbj hlim
 refine ⟨⟨n1,by omega⟩,by omega,⟨by omega,fun v hv=>Zgi (hw.1 v hv)⟩,fun b hb=>⟨(hc b hb).1,by have:=(hc b hb).2;omega,by have:=h6 b hb;omega,fun x hx=>?_⟩⟩
 obtain ⟨wl,ws⟩:=hw.2 b hb x hx
 obtain ⟨k,hk,rfl⟩:=Zdk hb
 obtain ⟨j,hj,rfl⟩:=List.getElem_of_mem hx
 have e:Ze s k j=(Zc s k).frames[j]:=by simp [Ze,List.getD,hj]
 obtain ⟨h1,h2⟩:=Zmp h hk hj
 rw [e] at h1 h2
 obtain ⟨⟨q1,q2⟩,q3,⟨q4,q5⟩,_⟩:=Pp h1
 obtain ⟨p5,_,hck⟩:=Zaa hp
 have hr:=(Zem hp (f:=(Zc s k).frames[j].fn.toNat) (by omega)).2.2.1
 obtain ⟨i,hi,_,hcl,_⟩:=Zcz (hck (Zc s k).frames[j].fn.toNat (by omega))
 have hi':i=(Zc s k).frames[j].fn.toNat:=by omega
 rw [hi'] at hcl
 have hcode:(Zx p (Zc s k).frames[j].fn.toNat).length≤24:=hcl
 exact ⟨⟨q1,by omega⟩,⟨q4,by omega⟩,⟨by omega,fun v hv=>Zgi (wl v hv)⟩,⟨by omega,fun v hv=>Zgi (ws v hv)⟩⟩
theorem Zib {α:Type} (g:α→List UInt8) (K:Nat):∀ (l:List α),(∀ x∈l,(g x).length≤K)→(l.flatMap g).length≤l.length*K
 | [],_=>by simp
 | x :: l,h=>by
  have h1:=h x (by simp)
  have h2:=Zib g K l (fun y hy=>h y (by simp [hy]))
  simp only [List.flatMap_cons,List.length_append,List.length_cons,Nat.add_mul]
  omega
theorem Zgo {α:Type} (g:α→List UInt8) (K:Nat) (l:List α) (hl:l.length<256) (h:∀ x∈l,(g x).length≤K):(Xp g l).length≤1+256*K:=by
 have h1:=Zib g K l h
 have h2:l.length*K≤256*K:=Nat.mul_le_mul_right K (by omega)
 simp only [Xp,List.length_cons]
 omega
theorem Zgu {s:St} (h:StB s):(Xk s).length≤100000000000:=by
 have hV:∀ (l:List Int),l.length<256→(Xp Qd l).length≤2049:=fun l hl=>by
  have:=Zgo Qd 8 l hl (fun x _=>Nat.le_of_eq (Pe x))
  omega
 have hB:∀ b∈s.fibers,(Ja b).length≤1049602:=fun b hb=>by
  obtain ⟨_,_,c2,c3⟩:=h.fiber b hb
  have:=Zgo Qx 4100 b.frames c2 (fun x hx=>by
   obtain ⟨_,_,q3,q4⟩:=c3 x hx
   have a1:=hV x.locals q3.1
   have a2:=hV x.stack q4.1
   simp only [Qx,List.length_cons,List.length_append]
   omega)
  simp only [Ja,List.length_cons]
  omega
 have h1:=Zgo Ja 1049602 s.fibers h.fibers hB
 have h2:=hV s.out h.out.1
 simp only [Xk,List.length_cons,List.length_append]
 omega
def Jt (w:World) (N:Nat) (v:Value):Prop:=∃ oa n cap,v=.slice oa n cap∧(0<n→∃ g cur,oa=some ⟨g,0,none⟩∧N≤g∧w.heap[g]?=some (.cells cur 3)∧n≤cur.size∧n≤9223372036854775807)
def Un (w:World) (N:Nat) (v:Value):Prop:=∃ oa n cap,v=.slice oa n cap∧(0<n→∃ g cur,oa=some ⟨g,0,none⟩∧N≤g∧w.heap[g]?=some (.cells cur 53)∧n≤9223372036854775807 ∧
 ∀ j,j<n→∃ a b vl vs,cur[j*4]?=some (.int .i64 a)∧cur[j*4+1]?=some (.int .i64 b)∧cur[j*4+2]?=some vl∧cur[j*4+3]?=some vs∧Jt w N vl∧Jt w N vs)
def Zak (w:World) (N:Nat) (v:Value):Prop:=∃ oa n cap,v=.slice oa n cap∧(0<n→∃ g cur,oa=some ⟨g,0,none⟩∧N≤g∧w.heap[g]?=some (.cells cur 46)∧n≤9223372036854775807 ∧
 ∀ k,k<n→∃ vf c,cur[k*2]?=some vf∧cur[k*2+1]?=some (.int .i64 c)∧Un w N vf)
theorem Jt.nil (w:World) (N:Nat):Jt w N (.slice none 0 0):=⟨none,0,0,rfl,fun h=>by omega⟩
theorem Un.nil (w:World) (N:Nat):Un w N (.slice none 0 0):=⟨none,0,0,rfl,fun h=>by omega⟩
def FrSame (c c':Array Value) (j:Nat):Prop:=(c'[j*4]?=c[j*4]?∧c'[j*4+1]?=c[j*4+1]?∧c'[j*4+2]?=c[j*4+2]?∧c'[j*4+3]?=c[j*4+3]?) ∨
 (c'[j*4]?=some (.int .i64 0)∧c'[j*4+1]?=some (.int .i64 (-1))∧c'[j*4+2]?=some (.slice none 0 0)∧c'[j*4+3]?=some (.slice none 0 0))
def FbSame (c c':Array Value) (k:Nat):Prop:=(c'[k*2]?=c[k*2]?∧c'[k*2+1]?=c[k*2+1]?)∨(c'[k*2]?=some (.slice none 0 0)∧c'[k*2+1]?=some (.int .i64 0))
def Wr (w w':World):Prop:=∀ (g:Nat) (c:Array Value) (t:TypeId),w.heap[g]?=some (.cells c t)→∃ c',w'.heap[g]?=some (.cells c' t)∧c'.size=c.size ∧
 (t=53→∀ j,FrSame c c' j)∧(t=46→∀ k,FbSame c c' k)∧(t=26→c'=c)
theorem Wr.same {w w':World} (h:∀ (g:Nat) (o:Obj),w.heap[g]?=some o→w'.heap[g]?=some o):Wr w w':=fun g c _ hg =>
 ⟨c,h g _ hg,rfl,fun _ _=>.inl ⟨rfl,rfl,rfl,rfl⟩,fun _ _=>.inl ⟨rfl,rfl⟩,fun _=>rfl⟩
theorem Wr.kept {w w':World} (h:Zb w w'):Wr w w':=Wr.same fun _ _ hg=>Zm h hg
theorem Jt.wr {w w':World} {N:Nat} {v:Value} (h:Jt w N v) (k:Wr w w'):Jt w' N v:=by
 obtain ⟨oa,n,cap,rfl,h⟩:=h
 refine ⟨oa,n,cap,rfl,fun hn=>?_⟩
 obtain ⟨g,cur,e,hN,hg,hs,hb⟩:=h hn
 obtain ⟨c',hc,hz,_⟩:=k g cur _ hg
 exact ⟨g,c',e,hN,hc,by omega,hb⟩
theorem Un.wr {w w':World} {N:Nat} {v:Value} (h:Un w N v) (k:Wr w w'):Un w' N v:=by
 obtain ⟨oa,n,cap,rfl,h⟩:=h
 refine ⟨oa,n,cap,rfl,fun hn=>?_⟩
 obtain ⟨g,cur,e,hN,hg,hb,hs⟩:=h hn
 obtain ⟨c',hc,hz,hf,_⟩:=k g cur _ hg
 refine ⟨g,c',e,hN,hc,hb,fun j hj=>?_⟩
 obtain ⟨a,b,vl,vs,h1,h2,h3,h4,h5,h6⟩:=hs j hj
 rcases hf rfl j with ⟨q1,q2,q3,q4⟩ | ⟨q1,q2,q3,q4⟩
 ·exact ⟨a,b,vl,vs,q1.trans h1,q2.trans h2,q3.trans h3,q4.trans h4,h5.wr k,h6.wr k⟩
 ·exact ⟨_,_,_,_,q1,q2,q3,q4,Jt.nil _ _,Jt.nil _ _⟩
theorem Zak.wr {w w':World} {N:Nat} {v:Value} (h:Zak w N v) (k:Wr w w'):Zak w' N v:=by
 obtain ⟨oa,n,cap,rfl,h⟩:=h
 refine ⟨oa,n,cap,rfl,fun hn=>?_⟩
 obtain ⟨g,cur,e,hN,hg,hb,hs⟩:=h hn
 obtain ⟨c',hc,hz,_,hf,_⟩:=k g cur _ hg
 refine ⟨g,c',e,hN,hc,hb,fun j hj=>?_⟩
 obtain ⟨vf,c,h1,h2,h3⟩:=hs j hj
 rcases hf rfl j with ⟨q1,q2⟩ | ⟨q1,q2⟩
 ·exact ⟨vf,c,q1.trans h1,q2.trans h2,h3.wr k⟩
 ·exact ⟨_,_,q1,q2,Un.nil _ _⟩
theorem Zyw {w:World} {g:Nat} {c:Array Value} {t:TypeId} (h:w.heap[g]?=some (.cells c t)) (i:Nat) (u:Value) (b:Nat) :
  (w.setCell ⟨g,i,none⟩ u).heap[b]?=if b=g then some (.cells (c.setIfInBounds i u) t) else w.heap[b]?:=by
 by_cases e:b=g
 ·subst e;rw [if_pos rfl];exact Zl h i u
 ·rw [if_neg e];exact Below.heap_setCell w ⟨g,i,none⟩ u b e
theorem Wr.int {w:World} {g:Nat} {c:Array Value} (h:w.heap[g]?=some (.cells c 3)) (i:Nat) (u:Value):Wr w (w.setCell ⟨g,i,none⟩ u):=by
 intro b c1 t hb
 rw [Zyw h]
 by_cases e:b=g
 ·subst e
  rw [h] at hb
  obtain ⟨rfl,rfl⟩:c=c1∧3=t:=by simpa using hb
  rw [if_pos rfl]
  exact ⟨_,rfl,by simp,fun q=>absurd q (by decide),fun q=>absurd q (by decide),fun q=>absurd q (by decide)⟩
 ·rw [if_neg e]
  exact ⟨c1,hb,rfl,fun _ _=>.inl ⟨rfl,rfl,rfl,rfl⟩,fun _ _=>.inl ⟨rfl,rfl⟩,fun _=>rfl⟩
abbrev Zev (w:World) (g j:Nat):World:=(((w.setCell ⟨g,j*4,none⟩ (.int .i64 0)).setCell ⟨g,j*4+1,none⟩ (.int .i64 (-1))).setCell ⟨g,j*4+2,none⟩ (.slice none 0 0)).setCell ⟨g,j*4+3,none⟩ (.slice none 0 0)
abbrev Zgw (w:World) (g k:Nat):World:=(w.setCell ⟨g,k*2,none⟩ (.slice none 0 0)).setCell ⟨g,k*2+1,none⟩ (.int .i64 0)
theorem Wr.frame {w:World} {g:Nat} {c:Array Value} (h:w.heap[g]?=some (.cells c 53)) {j:Nat} (hj:j*4+3<c.size):Wr w (Zev w g j):=by
 intro b c1 t hb
 have l4:=Zl (Zl (Zl (Zl h (j*4) (.int .i64 0)) (j*4+1) (.int .i64 (-1))) (j*4+2) (.slice none 0 0)) (j*4+3) (.slice none 0 0)
 by_cases e:b=g
 ·subst e
  rw [h] at hb
  obtain ⟨rfl,rfl⟩:c=c1∧53=t:=by simpa using hb
  refine ⟨_,l4,by simp,fun _ i=>?_,fun q=>absurd q (by decide),fun q=>absurd q (by decide)⟩
  by_cases hi:i=j
  ·subst hi
   right
   simp only [Array.getElem?_setIfInBounds,Array.size_setIfInBounds]
   refine ⟨?_,?_,?_,?_⟩ <;> simp <;> omega
  ·left
   simp only [Array.getElem?_setIfInBounds]
   refine ⟨?_,?_,?_,?_⟩ <;> (repeat rw [if_neg (by omega)])
 ·refine ⟨c1,?_,rfl,fun _ _=>.inl ⟨rfl,rfl,rfl,rfl⟩,fun _ _=>.inl ⟨rfl,rfl⟩,fun _=>rfl⟩
  rw [← hb]
  simp only [Zev]
  rw [Below.heap_setCell _ _ _ _ e,Below.heap_setCell _ _ _ _ e,Below.heap_setCell _ _ _ _ e,Below.heap_setCell _ _ _ _ e]
theorem Wr.fiber {w:World} {g:Nat} {c:Array Value} (h:w.heap[g]?=some (.cells c 46)) {j:Nat} (hj:j*2+1<c.size):Wr w (Zgw w g j):=by
 intro b c1 t hb
 have l4:=Zl (Zl h (j*2) (.slice none 0 0)) (j*2+1) (.int .i64 0)
 by_cases e:b=g
 ·subst e
  rw [h] at hb
  obtain ⟨rfl,rfl⟩:c=c1∧46=t:=by simpa using hb
  refine ⟨_,l4,by simp,fun q=>absurd q (by decide),fun _ i=>?_,fun q=>absurd q (by decide)⟩
  by_cases hi:i=j
  ·subst hi
   right
   simp only [Array.getElem?_setIfInBounds,Array.size_setIfInBounds]
   refine ⟨?_,?_⟩ <;> simp <;> omega
  ·left
   simp only [Array.getElem?_setIfInBounds]
   refine ⟨?_,?_⟩ <;> (repeat rw [if_neg (by omega)])
 ·refine ⟨c1,?_,rfl,fun _ _=>.inl ⟨rfl,rfl,rfl,rfl⟩,fun _ _=>.inl ⟨rfl,rfl⟩,fun _=>rfl⟩
  rw [← hb]
  simp only [Zgw]
  rw [Below.heap_setCell _ _ _ _ e,Below.heap_setCell _ _ _ _ e]
theorem Zag {w:World} {base:Nat} {e:TypeId} {size:Nat} {v:Value} {n:Nat} {xs:List Value} (h:w.ownsRow base e size v n xs) :
  ∃ oa cap,v=.slice oa n cap∧(0<n→∃ g cur,oa=some ⟨g,0,none⟩∧base≤g∧w.heap[g]?=some (.cells cur e)∧n*size≤cur.size∧n≤9223372036854775807∧∀ (j:Nat) u,xs[j]?=some u→cur[j]?=some u):=by
 obtain ⟨hl,⟨rfl,rfl⟩ | ⟨g,cap,cur,rfl,hb,hh,h1,h2,hs,ht⟩⟩:=h
 ·exact ⟨none,0,rfl,fun h=>by omega⟩
 ·refine ⟨_,cap,rfl,fun _=>⟨g,cur,rfl,hb,hh,?_,by unfold maxLen at h2;omega,fun j u hj=>?_⟩⟩
  ·rw [hs];exact Nat.mul_le_mul_right _ h1
  ·rw [← ht,List.getElem?_take] at hj
   split at hj
   ·simpa using hj
   ·cases hj
theorem Own.shape {N:Nat} {w:World} {V:Key→Value} {s:St} (h:Own N w V s):Zak w N (V .fibers)∧Jt w N (V .out):=by
 have hi:∀ {v:Value} {n:Nat} {xs:List Value},w.ownsRow N 3 1 v n xs→Jt w N v:=fun {v n xs} hr=>by
  obtain ⟨oa,cap,rfl,hr2⟩:=Zag hr
  refine ⟨oa,n,cap,rfl,fun hn=>?_⟩
  obtain ⟨g,cur,e,hb,hh,hs,h9,_⟩:=hr2 hn
  exact ⟨g,cur,e,hb,hh,by omega,h9⟩
 refine ⟨?_,hi (h.piece .out trivial)⟩
 obtain ⟨xs,hx,hc⟩:=h.piece .fibers trivial
 obtain ⟨oa,cap,e,hr⟩:=Zag hx
 refine ⟨oa,_,cap,e,fun hn=>?_⟩
 obtain ⟨g,cur,e,hb,hh,hs,h9,hu⟩:=hr hn
 refine ⟨g,cur,e,hb,hh,h9,fun k hk=>⟨_,_,hu _ _ (hc k hk).1,hu _ _ (hc k hk).2,?_⟩⟩
 obtain ⟨xs,hx,hc⟩:=h.piece (.frames k) hk
 obtain ⟨oa,cap,e,hr⟩:=Zag hx
 refine ⟨oa,_,cap,e,fun hn=>?_⟩
 obtain ⟨g,cur,e,hb,hh,hs,h9,hu⟩:=hr hn
 refine ⟨g,cur,e,hb,hh,h9,fun j hj=>?_⟩
 obtain ⟨q1,q2,q3,q4⟩:=hc j hj
 exact ⟨_,_,_,_,hu _ _ q1,hu _ _ q2,hu _ _ q3,hu _ _ q4,hi (h.piece (.locals k j) ⟨hk,hj⟩),hi (h.piece (.stack k j) ⟨hk,hj⟩)⟩
theorem Jt.low {w:World} {N M:Nat} {v:Value} (h:Jt w N v) (hm:M≤N):Jt w M v:=by
 obtain ⟨oa,n,cap,rfl,h⟩:=h
 refine ⟨oa,n,cap,rfl,fun hn=>?_⟩
 obtain ⟨g,cur,e,hN,r⟩:=h hn
 exact ⟨g,cur,e,by omega,r⟩
theorem Un.low {w:World} {N M:Nat} {v:Value} (h:Un w N v) (hm:M≤N):Un w M v:=by
 obtain ⟨oa,n,cap,rfl,h⟩:=h
 refine ⟨oa,n,cap,rfl,fun hn=>?_⟩
 obtain ⟨g,cur,e,hN,hg,hb,hs⟩:=h hn
 refine ⟨g,cur,e,by omega,hg,hb,fun j hj=>?_⟩
 obtain ⟨a,b,vl,vs,h1,h2,h3,h4,h5,h6⟩:=hs j hj
 exact ⟨a,b,vl,vs,h1,h2,h3,h4,h5.low hm,h6.low hm⟩
theorem Zak.low {w:World} {N M:Nat} {v:Value} (h:Zak w N v) (hm:M≤N):Zak w M v:=by
 obtain ⟨oa,n,cap,rfl,h⟩:=h
 refine ⟨oa,n,cap,rfl,fun hn=>?_⟩
 obtain ⟨g,cur,e,hN,hg,hb,hs⟩:=h hn
 refine ⟨g,cur,e,by omega,hg,hb,fun j hj=>?_⟩
 obtain ⟨vf,c,h1,h2,h3⟩:=hs j hj
 exact ⟨vf,c,h1,h2,h3.low hm⟩
def LAt (w0 w:World) (L:Nat) (cs:Array Value):Prop:=w.heap[L]?=some (.cells cs 26)∧w0.heap.size≤L∧Zb w0 w ∧
 ∀ i,i<3→∃ vf c vo,cs[i*3]?=some vf∧cs[i*3+1]?=some (.int .i64 c)∧cs[i*3+2]?=some vo∧Zak w w0.heap.size vf∧Jt w w0.heap.size vo
theorem LAt.wr {w0 w w':World} {L:Nat} {cs:Array Value} (h:LAt w0 w L cs) (hk:Zb w0 w') (k:Wr w w'):LAt w0 w' L cs:=by
 obtain ⟨h1,h2,_,h4⟩:=h
 obtain ⟨c',hc,_,_,_,he⟩:=k L cs _ h1
 refine ⟨by rw [hc,he rfl],h2,hk,fun i hi=>?_⟩
 obtain ⟨vf,c,vo,q1,q2,q3,q4,q5⟩:=h4 i hi
 exact ⟨vf,c,vo,q1,q2,q3,q4.wr k,q5.wr k⟩
theorem LAt.fib {w0 w:World} {L:Nat} {cs:Array Value} (h:LAt w0 w L cs) {i:Nat} (hi:i<3):∃ of nf cf oo no co,w.cell? ⟨L,i*3,none⟩=some (.slice of nf cf)∧w.cell? ⟨L,i*3+2,none⟩=some (.slice oo no co)∧cs[i*3]?=some (.slice of nf cf)∧cs[i*3+2]?=some (.slice oo no co):=by
 obtain ⟨h1,_,_,h4⟩:=h
 obtain ⟨vf,c,vo,q1,_,q3,q4,q5⟩:=h4 i hi
 obtain ⟨of,nf,cf,rfl,_⟩:=q4
 obtain ⟨oo,no,co,rfl,_⟩:=q5
 exact ⟨of,nf,cf,oo,no,co,(Zd h1 _).trans q1,(Zd h1 _).trans q3,q1,q3⟩
theorem LAt.frs {w0 w:World} {L:Nat} {cs:Array Value} (h:LAt w0 w L cs) {i:Nat} (hi:i<3) {of:Option Addr} {nf cf:Nat} (hc:cs[i*3]?=some (.slice of nf cf)) {k:Nat} (hk:k<nf) :
  ∃ g cur,of=some ⟨g,0,none⟩∧w0.heap.size≤g∧w.heap[g]?=some (.cells cur 46)∧nf≤9223372036854775807∧∃ o n c z,cur[k*2]?=some (.slice o n c)∧cur[k*2+1]?=some (.int .i64 z)∧Un w w0.heap.size (.slice o n c):=by
 obtain ⟨_,_,_,h4⟩:=h
 obtain ⟨vf,c,vo,q1,_,_,q4,_⟩:=h4 i hi
 obtain rfl:vf=.slice of nf cf:=Option.some.inj (q1.symm.trans hc)
 obtain ⟨_,_,_,e,q⟩:=q4
 cases e
 obtain ⟨g,cur,rfl,hg,hh,hb,hs⟩:=q (by omega)
 obtain ⟨vf,z,r1,r2,r3⟩:=hs k hk
 obtain ⟨o,n,c,rfl,_⟩:=id r3
 exact ⟨g,cur,rfl,hg,hh,hb,o,n,c,z,r1,r2,r3⟩
theorem LAt.ints {w0 w:World} {L:Nat} {cs:Array Value} (h:LAt w0 w L cs) {i:Nat} (hi:i<3) {oo:Option Addr} {no co:Nat} (hc:cs[i*3+2]?=some (.slice oo no co)):Jt w w0.heap.size (.slice oo no co):=by
 obtain ⟨_,_,_,h4⟩:=h
 obtain ⟨vf,c,vo,_,_,q3,_,q5⟩:=h4 i hi
 obtain rfl:vo=.slice oo no co:=Option.some.inj (q3.symm.trans hc)
 exact q5
theorem Un.at {w:World} {N n cf:Nat} {of:Option Addr} (h:Un w N (.slice of n cf)) {j:Nat} (hj:j<n):∃ g cur,of=some ⟨g,0,none⟩∧N≤g∧w.heap[g]?=some (.cells cur 53)∧∃ a b ol nl cl os ns cs,w.cell? ⟨g,j*4,none⟩=some (.int .i64 a)∧w.cell? ⟨g,j*4+1,none⟩=some (.int .i64 b) ∧
  w.cell? ⟨g,j*4+2,none⟩=some (.slice ol nl cl)∧w.cell? ⟨g,j*4+3,none⟩=some (.slice os ns cs)∧Jt w N (.slice ol nl cl)∧Jt w N (.slice os ns cs)∧j*4+3<cur.size∧n≤9223372036854775807:=by
 obtain ⟨_,_,_,e,q⟩:=h
 cases e
 obtain ⟨g,cur,rfl,hg,hh,hb,hs⟩:=q (by omega)
 obtain ⟨a,b,vl,vs,r1,r2,r3,r4,r5,r6⟩:=hs j hj
 obtain ⟨ol,nl,cl,rfl,_⟩:=id r5
 obtain ⟨os,ns,cs,rfl,_⟩:=id r6
 exact ⟨g,cur,rfl,hg,hh,a,b,ol,nl,cl,os,ns,cs,(Zd hh _).trans r1,(Zd hh _).trans r2,(Zd hh _).trans r3,(Zd hh _).trans r4,r5,r6,(Array.getElem?_eq_some_iff.1 r4).1,hb⟩
theorem Jt.at {w:World} {N n c:Nat} {oo:Option Addr} (h:Jt w N (.slice oo n c)) {m:Nat} (hm:m<n):∃ g cur x,oo=some ⟨g,0,none⟩∧N≤g∧w.heap[g]?=some (.cells cur 3)∧w.cell? ⟨g,m,none⟩=some x∧w.frozen? ⟨g,m,none⟩=false∧n≤9223372036854775807:=by
 obtain ⟨_,_,_,e,q⟩:=h
 cases e
 obtain ⟨g,cur,rfl,hg,hh,hs,hb⟩:=q (by omega)
 exact ⟨g,cur,cur[m]'(by omega),rfl,hg,hh,(Zd hh _).trans (Array.getElem?_eq_getElem (by omega)),Zk hh _,hb⟩
theorem Zbw {w:World} {g b:Nat} {c d:Array Value} {t r:TypeId} (h:w.heap[g]?=some (.cells c t)) (k:w.heap[b]?=some (.cells d r)) (hn:t≠r) (i:Nat) (u:Value):(w.setCell ⟨g,i,none⟩ u).heap[b]?=some (.cells d r):=by
 refine Zz k (fun e=>?_) u
 simp only at e
 subst e
 rw [h] at k
 simp only [Option.some.injEq,Obj.cells.injEq] at k
 exact hn k.2.1
def XAt (w0 w:World) (L gf Bx:Nat) (cs curf xc:Array Value) (vl vs:Value):Prop:=LAt w0 w L cs∧w.heap[gf]?=some (.cells curf 46)∧w.heap[Bx]?=some (.cells xc 53)∧Jt w w0.heap.size vl∧Jt w w0.heap.size vs
theorem XAt.int {w0 w:World} {L gf Bx g i:Nat} {cs curf xc cur:Array Value} {vl vs:Value} (h:XAt w0 w L gf Bx cs curf xc vl vs) (hg:w.heap[g]?=some (.cells cur 3)) (hN:w0.heap.size≤g) (u:Value):XAt w0 (w.setCell ⟨g,i,none⟩ u) L gf Bx cs curf xc vl vs:=by
 obtain ⟨h1,h2,h3,h4,h5⟩:=h
 have k:=Wr.int hg i u
 exact ⟨h1.wr (h1.2.2.1.setCell (p:=⟨g,i,none⟩) hN u) k,Zbw hg h2 (by decide) i u,Zbw hg h3 (by decide) i u,h4.wr k,h5.wr k⟩
theorem LAt.int {w0 w:World} {L g i:Nat} {cs cur:Array Value} (h:LAt w0 w L cs) (hg:w.heap[g]?=some (.cells cur 3)) (hN:w0.heap.size≤g) (u:Value):LAt w0 (w.setCell ⟨g,i,none⟩ u) L cs:=h.wr (h.2.2.1.setCell (p:=⟨g,i,none⟩) hN u) (Wr.int hg i u)
theorem LAt.frame {w0 w:World} {L g j gf:Nat} {cs cur curf:Array Value} (h:LAt w0 w L cs) (h2:w.heap[gf]?=some (.cells curf 46)) (hg:w.heap[g]?=some (.cells cur 53)) (hN:w0.heap.size≤g) (hj:j*4+3<cur.size):LAt w0 (Zev w g j) L cs∧(Zev w g j).heap[gf]?=some (.cells curf 46):=by
 refine ⟨h.wr ((((h.2.2.1.setCell (p:=⟨g,_,none⟩) hN _).setCell (p:=⟨g,_,none⟩) hN _).setCell (p:=⟨g,_,none⟩) hN _).setCell (p:=⟨g,_,none⟩) hN _) (Wr.frame hg hj),?_⟩
 have l1:=Zl hg (j*4) (.int .i64 0)
 have l2:=Zl l1 (j*4+1) (.int .i64 (-1))
 have l3:=Zl l2 (j*4+2) (.slice none 0 0)
 exact Zbw l3 (Zbw l2 (Zbw l1 (Zbw hg h2 (by decide) _ _) (by decide) _ _) (by decide) _ _) (by decide) _ _
theorem LAt.fiber {w0 w:World} {L g j:Nat} {cs cur:Array Value} (h:LAt w0 w L cs) (hg:w.heap[g]?=some (.cells cur 46)) (hN:w0.heap.size≤g) (hj:j*2+1<cur.size):LAt w0 (Zgw w g j) L cs :=
 h.wr ((h.2.2.1.setCell (p:=⟨g,_,none⟩) hN _).setCell (p:=⟨g,_,none⟩) hN _) (Wr.fiber hg hj)
def Zu (w:World) (B:Nat) (l:List UInt8):Prop:=w.heap[B]?=some (.cells #[.string ⟨l.toArray⟩] 81)
theorem Zu.k {w w':World} {B:Nat} {l:List UInt8} (h:Zu w B l) (k:Zb w w'):Zu w' B l:=Zm k h
theorem Zku (b:UInt8) (r:List UInt8) (u:World):(Instr.slice 9 (.string ⟨(b :: r).toArray⟩) (some (.int .i64 1)) none none).run Tryd.prog u=.ok (.string ⟨r.toArray⟩) u:=by
 have hs:(ByteArray.mk (b :: r).toArray).size=r.length+1:=by simp [ByteArray.size]
 have h1:(1:Int)≤(r.length:Int)+1:=by omega
 simp [Instr.slice,Instr.sliceBounds,Instr.sliceBound,asIntOf,run_underlying Tryd.underlying9,hs,h1]
 exact extract_mk_tail b r
theorem Zmi (b:UInt8) (r:List UInt8) (u:World):(Instr.index 9 (.string ⟨(b :: r).toArray⟩) (.int .i64 0)).run Tryd.prog u=.ok (.int .u8 (b.toNat:Int)) u:=by
 rw [run_index_string _ _ _ _ _ Tryd.underlying9,dif_pos ⟨by decide,by simp [ByteArray.size]⟩]
 rfl
theorem Zny (v:Int) (b:UInt8):IntKind.i64.wrap ((BitVec.ofInt 64 (IntKind.i64.wrap (v*256)) ||| BitVec.ofInt 64 (b.toNat:Int)).toNat:Int)=Yd v b:=by
 have hb:b.toNat<256:=b.toNat_lt
 rw [BitVec.toNat_or,BitVec.toNat_ofInt,BitVec.toNat_ofInt]
 unfold Yd
 have e1:(((b.toNat:Int)) % ((2 ^ 64:Nat):Int)).toNat=b.toNat:=by omega
 obtain ⟨t,ht⟩:∃ t:Nat,((IntKind.i64.wrap (v*256)) % ((2 ^ 64:Nat):Int)).toNat=2 ^ 8*t:=by
  refine ⟨((IntKind.i64.wrap (v*256)) % ((2 ^ 64:Nat):Int)).toNat / 256,?_⟩
  rw [IntKind.wrap_i64]
  omega
 rw [e1,ht,← Nat.two_pow_add_eq_or_of_lt hb]
 have h2:((2 ^ 8*t:Nat):Int)=(IntKind.i64.wrap (v*256)) % ((2 ^ 64:Nat):Int):=by
  rw [← ht]
  rw [IntKind.wrap_i64]
  omega
 rw [IntKind.wrap_i64] at h2 ⊢
 rw [IntKind.wrap_i64]
 omega
theorem Yf (w:World) (B:Nat) (b:UInt8) (r:List UInt8) (h:Zu w B (b :: r)) :
  Calls Tryd.prog 64 #[.pointer (some ⟨B,0,none⟩)] w fun en w'=>en=.returned (.int .i64 (b.toNat:Nat))∧Zu w' B r∧Zn B w w':=by
 have a0:=Zd h 0
 have f0:=Zk h 0
 have h1:=Zmi b r
 have h2:=Zku b r
 have h3:(ByteArray.mk (b :: r).toArray).toList.isEmpty=false:=by rw [ByteArray.toList_mk];rfl
 have HP:Hid (Zu (w.setCell ⟨B,0,none⟩ (.string ⟨r.toArray⟩)) B r∧Zn B w (w.setCell ⟨B,0,none⟩ (.string ⟨r.toArray⟩))):=Za ⟨Zl h 0 _,(Zn.refl B w).setCell (p:=⟨B,0,none⟩) (.inl rfl) _⟩
 have hb:b.toNat<256:=b.toNat_lt
 have HB:=Za hb
 generalize hN:b.toNat=N at *
 have hw:IntKind.i64.wrap (N:Int)=(N:Int):=by rw [IntKind.wrap_i64];omega
 generalize (ByteArray.mk (b :: r).toArray)=S at *
 generalize (ByteArray.mk r.toArray)=R at *
 clear h hb hN
 go_enter Tryd.func64,Tryd.ntmps64
 go_wp2_with fail
 go_ret
 exact ⟨rfl,un HP⟩
theorem Zyo {k:Nat} {v x:Int} {l r:List UInt8} (h:rdK (k+1) v l=some (x,r)):∃ b l',l=b :: l'∧rdK k (Yd v b) l'=some (x,r):=by
 cases l with
 | nil=>cases h
 | cons b l'=>exact ⟨b,l',rfl,h⟩
theorem Zdz {n:Nat} {l r:List UInt8} (h:rdN l=some (n,r)):∃ b,l=b :: r∧b.toNat=n:=by
 cases l with
 | nil=>cases h
 | cons b l' =>
  simp only [rdN,Option.some.injEq,Prod.mk.injEq] at h
  exact ⟨b,by rw [h.2],h.1⟩
theorem Zn.rd {w w':World} {B b:Nat} {c:Array Value} {t:TypeId} (k:Zn B w w') (h:w.heap[b]?=some (.cells c t)) (hn:b≠B):w'.heap[b]?=some (.cells c t):=k.lays hn h
theorem Znk (w:World) (B:Nat) (l r:List UInt8) (x:Int) (h:Zu w B l) (hx:rdV l=some (x,r)) :
  Calls Tryd.prog 68 #[.pointer (some ⟨B,0,none⟩)] w fun en w'=>en=.returned (.int .i64 x)∧Zu w' B r∧Zn B w w':=by
 have H0:Hid (Zu w B l∧rdK 8 0 l=some (x,r)∧Zn B w w):=Za ⟨h,hx,Zn.refl B w⟩
 clear h hx
 go_enter Tryd.func68,Tryd.ntmps68
 go_wp2
 go_loopw [3,4] (fun s3 s4 wr=>∃ (k:Nat) (v:Int) (l:List UInt8),k≤8∧s3=.int .i64 v∧s4=.int .i64 k∧Hid (Zu wr B l∧rdK (8 - k) v l=some (x,r)∧Zn B w wr)) (fun _ s4 _=>8 - (intOf s4).toNat)
 case atStart=>exact ⟨0,0,l,by omega,rfl,rfl,H0⟩
 case round =>
  obtain ⟨k,v,l,hk8,rfl,rfl,HW⟩:=hrel
  by_cases hk:k<8
  ·obtain ⟨h1,h2,h3⟩:=un HW
   obtain ⟨n,hn⟩:∃ n,8 - k=n+1:=⟨7 - k,by omega⟩
   rw [hn] at h2
   obtain ⟨b,l',rfl,h4⟩:=Zyo h2
   have HC:=Za (Yf wr B b l' h1)
   have H3:=Za h3
   have H4:Hid (rdK (8 - (k+1)) (Yd v b) l'=some (x,r)):=Za (by rw [show 8 - (k+1)=n by omega];exact h4)
   have hor:=Zny v b
   clear h1 h2 h3 h4 hn HW
   go_wp2_with fail
   refine (un HC).mono ?_
   rintro _ w2 ⟨rfl,q1,q2⟩
   have HN:=Za (And.intro q1 (And.intro (un H4) ((un H3).trans q2)))
   clear q1 q2 H3 H4 HC
   go_wp2_with fail
   go_roundw
   case rel=>exact ⟨k+1,Yd v b,l',by omega,congrArg (Value.int IntKind.i64) (by unfold bits;simp only [IntKind.bits];rw [show wrap64 (v*256)=IntKind.i64.wrap (v*256) by (unfold wrap64;rw [IntKind.wrap_i64])];exact hor),by go_num,HN⟩
   case measure=>simp [intOf];omega
  ·obtain rfl:k=8:=by omega
   obtain ⟨h1,h2,h3⟩:=un HW
   obtain ⟨rfl,rfl⟩:v=x∧l=r:=by simpa [rdK] using h2
   have HW2:=Za (And.intro h1 h3)
   clear h1 h2 h3 HW
   go_wp2
   go_ret
   exact ⟨rfl,un HW2⟩
end Go.Proofs.YtblihfpigjiahaaDoor
