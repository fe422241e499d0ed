/- StateO, StepU, StepV, StepBg, SaveS, SavePl, RestA, SaveR -/
import Derived.Test.YtblihfpigjiahaaDoorDB38
import Derived.Test.YtblihfpigjiahaaDoorDB31
import Derived.Test.YtblihfpigjiahaaDoorDB23
import Derived.Test.YtblihfpigjiahaaDoorDB15
import Derived.Test.YtblihfpigjiahaaDoorDB11
import Derived.Laws.BitsLemmas
import Derived.Test.YtblihfpigjiahaaDoorDB08
import Derived.Laws.Strings2
import Derived.Laws.Closers25b
set_option maxRecDepth 100000
set_option maxHeartbeats 8000000
namespace Go.Proofs.YtblihfpigjiahaaDoor
open Go.RowKit
theorem Zqz {p:List Fn} {vp:Value} {w:World} (hp:Zv w vp p) (hz:Xd p=0):Pw w vp p:=by
 intro k u hk hu
 obtain ⟨_,_,hck⟩:=Pt hz
 refine (Zjv p vp k u (hp.kept hu) (hck k hk)).mono ?_
 intro e u' h
 have hs:=Zfu hz hk
 unfold Zgo at h
 rw [hs] at h
 exact h
theorem Zuw (p:List Fn) (vp v:Value) (s:St) (w:World) (hp:Zv w vp p) (hs:Xj w v s) :
  Calls Tryd.prog 6 #[vp,v] w fun e w'=>e=.returned (.int .i64 (Xi p s))∧Za w w':=by
 obtain ⟨vf,vo,rfl,hf,ho⟩:=hs
 by_cases hz:Xd p=0
 ·obtain ⟨oa,cap,rfl,_,hc⟩:=id hf
  by_cases h0:s.fibers.length=0
  ·obtain ⟨oo,co,rfl,_,_⟩:=id ho
   rw [h0]
   refine Zri p vp oa oo cap _ co s.now w hp hz _ ?_
   by_cases h30:s.out.length≤30
   ·rw [if_pos h30,Zcl hz (Zld ⟨by omega,h30⟩ (fun k hk=>by omega)) (by rw [if_neg (by omega)];decide),if_neg (by omega)]
   ·rw [if_neg h30,Zcl hz (Zky (by omega)) (by decide)]
  ·obtain ⟨b,o,_,rfl,-⟩:=hc 0 _ (Zp s.fibers 0 Fb.zero (by omega))
   exact Zyc p vp s b o cap vo w hp (Zqz hp hz) hz (by omega) hf ho
 ·have:Xi p s=Xd p:=by unfold Xi;rw [if_neg hz]
  rw [this]
  exact Zwm p vp _ _ _ w hp hz
theorem Zvt (p:List Fn) (s:St) (vp v:Value) (fuel:Nat) (w:World) (hp:Zv w vp p) (hs:Xj w v s) (hsm:Yc s) (hf:fuel≤500) (hz:Xi p s=0) (hok:Zbi p fuel s) :
  Calls Tryd.prog 49 #[vp,v,.int .i64 fuel] w (Zkr (Qz p fuel s) w):=by
 obtain ⟨oa,cp,rfl,_,_⟩:=id hp
 have HP:=Zb hp
 have HS:=Zb hs
 obtain ⟨vf,vo,rfl,hF,hO⟩:=hs
 obtain ⟨oF,cF,rfl,_,_⟩:=hF
 obtain ⟨oO,cO,rfl,_,_⟩:=hO
 have HOK:=Zb hok
 have HSM:=Zb hsm
 have HZ:=Zb hz
 have hin:inB (fuel:Int) 0 500=true:=Wc (by omega) (by omega)
 clear hp hok hsm hz
 generalize hR0:Qz p fuel s=RR
 have HRR:=Zb hR0
 clear hR0
 go_enter Tryd.func49,Tryd.ntmps49
 go_wp2_with (go_at_call 15;refine (Xh _ _ _ _).mono ?_;rw [hin];rintro e w' ⟨rfl,rfl⟩)
 generalize hw1:(w.alloc (.cells #[.slice oF s.fibers.length cF,.int .i64 s.now,.slice oO s.out.length cO] 26)).alloc (.cells #[.slice none 0 0,.int .i64 0,.slice none 0 0] 26)=w1
 have LA:w1.heap[w.heap.size]?=some (.cells #[.slice oF s.fibers.length cF,.int .i64 s.now,.slice oO s.out.length cO] 26):=by rw [← hw1];exact Zr (Zj rfl) _
 have LR:w1.heap[w.heap.size+1]?=some (.cells #[.slice none 0 0,.int .i64 0,.slice none 0 0] 26):=by rw [← hw1];exact Zj (by simp)
 have hk1:Za w w1:=by rw [← hw1];exact ((Za.refl w).alloc _).alloc _
 have hs1:w1.heap.size=w.heap.size+2:=by rw [← hw1];simp
 have HE:=Zb (Zuw p _ _ s w1 ((un HP).kept hk1) ((un HS).kept hk1))
 have HK1:=Zb hk1
 have HLA:=Zb LA
 have HLR:=Zb LR
 have HSZ:=Zb hs1
 clear hw1 hk1 hs1 LA LR
 refine (un HE).mono ?_
 rintro _ w2 ⟨rfl,hk2⟩
 rw [un HZ]
 have hk12:=(un HK1).trans hk2
 have a0:=Zd (Zq hk2 (un HLA)) 0
 have a1:=Zd (Zq hk2 (un HLA)) 1
 have a2:=Zd (Zq hk2 (un HLA)) 2
 have HLR2:=Zb (Zq hk2 (un HLR))
 have hrc:=Zow p s _ _ fuel w2 ((un HP).kept hk12) ((un HS).kept hk12) (un HSM) hf (un HOK)
 rw [un HRR] at hrc
 have HC:=Zb hrc
 clear hrc
 have HK2:=Zb hk12
 have HG:=Zb hk2.size
 clear hk2 hk12 HE
 go_wp2_with fail
 refine (un HC).mono ?_
 rintro _ w3 ⟨V,rfl,ho3,hk3⟩
 obtain ⟨xsF,hrF,_⟩:=ho3.piece .fibers trivial
 obtain ⟨oX,cX,hVf,_⟩:=Xl hrF
 have hrO:_:=ho3.piece .out trivial
 obtain ⟨oY,cY,hVo,_⟩:=Xl hrO
 have LR3:=Zq hk3 (un HLR2)
 generalize hR2:w.heap.size+1=R2 at *
 have r0:=Zd LR3 0
 have r1:=Zd LR3 1
 have r2:=Zd LR3 2
 have f0:=Zk LR3 0
 have f1:=Zk LR3 1
 have f2:=Zk LR3 2
 have HLZ:=Zb (Wv (x:=.slice oX RR.1.fibers.length cX) (y:=.int .i64 RR.1.now) (z:=.slice oY RR.1.out.length cY) LR3)
 have HVF:=Zb hVf
 have HVO:=Zb hVo
 have HO3:=Zb ho3
 have HK3:=Zb ((un HK2).trans hk3)
 have HRZ:Hid (w.heap.size+1=R2∧w2.heap.size ≥ w.heap.size+2):=Zb ⟨hR2,by have:=un HG;have:=un HSZ;omega⟩
 rw [hVf,hVo]
 clear ho3 hk3 hrF hrO hVf hVo LR3 HC a0 a1 a2 hR2
 go_wp2_with fail
 have k0:=Zd (un HLZ) 0
 have k1:=Zd (un HLZ) 1
 have k2:=Zd (un HLZ) 2
 have hwR:w.heap.size≤R2:=by have:=un HRZ;omega
 have hkf:Za w (((w3.setCell ⟨R2,0,none⟩ (.slice oX RR.1.fibers.length cX)).setCell ⟨R2,1,none⟩ (.int .i64 RR.1.now)).setCell ⟨R2,2,none⟩ (.slice oY RR.1.out.length cY)):=(((un HK3).setCell (p:=⟨R2,0,none⟩) hwR _).setCell (p:=⟨R2,1,none⟩) hwR _).setCell (p:=⟨R2,2,none⟩) hwR _
 have hwf:∀ (y:Nat),w2.heap.size≤y→(((w3.setCell ⟨R2,0,none⟩ (.slice oX RR.1.fibers.length cX)).setCell ⟨R2,1,none⟩ (.int .i64 RR.1.now)).setCell ⟨R2,2,none⟩ (.slice oY RR.1.out.length cY)).heap[y]?=w3.heap[y]?:=fun y hy=>by
  have:=un HRZ
  rw [Below.heap_setCell _ _ _ _ (by simp only;omega),Below.heap_setCell _ _ _ _ (by simp only;omega),Below.heap_setCell _ _ _ _ (by simp only;omega)]
 refine bodyPost_ret (v:=.tuple #[.agg #[.slice oX RR.1.fibers.length cX,.int .i64 RR.1.now,.slice oY RR.1.out.length cY],.int .i64 RR.2.1,.int .i64 RR.2.2]) (by simp [results,Tryd.results49,go_sem,k0,k1,k2]) rfl ?_
 exact ⟨V,by rw [un HVF,un HVO],Own.base (base:=w2.heap.size) ((un HO3).same (fun kk g hkk hg=>hwf g (((un HO3).piece kk hkk).block g hg).1)) (by have:=un HRZ;omega),hkf⟩
theorem Zqa (p:List Fn) (vp:Value) (fuel:Nat) (w:World) (hp:Zv w vp p) (hpz:Xd p=0) (hsm:Yc (Up p)) (hf:fuel≤500) (hz:Xi p (Up p)=0) (hok:Zbi p fuel (Up p)) :
  Calls Tryd.prog 27 #[vp,.int .i64 fuel] w (Ziu (Qz p fuel (Up p)).1 w):=by
 obtain ⟨oa,cp,rfl,_,_⟩:=id hp
 have HP:=Zb hp
 have HOK:=Zb hok
 have HSM:=Zb hsm
 have HZ:=Zb hz
 have HPZ:=Zb hpz
 clear hp hok hsm hz hpz
 generalize hR0:Qz p fuel (Up p)=RR
 have HRR:=Zb hR0
 clear hR0
 go_enter Tryd.func27,Tryd.ntmps27
 go_wp2_with fail
 generalize hw1:w.alloc (.cells #[.slice none 0 0,.int .i64 0,.slice none 0 0] 26)=w1
 have LR:w1.heap[w.heap.size]?=some (.cells #[.slice none 0 0,.int .i64 0,.slice none 0 0] 26):=by rw [← hw1];exact Zj rfl
 have hk1:Za w w1:=by rw [← hw1];exact (Za.refl w).alloc _
 have hs1:w1.heap.size=w.heap.size+1:=by rw [← hw1];simp
 have HB:=Zb (Zpi p _ w1 ((un HP).kept hk1) (un HPZ))
 have HK1:=Zb hk1
 have HLR:=Zb LR
 have HSZ:=Zb hs1
 clear hw1 hk1 hs1 LR
 refine (un HB).mono ?_
 rintro _ w2 ⟨vb,rfl,hst2,hk2⟩
 obtain ⟨vf,vo,rfl,hF,hO⟩:=id hst2
 obtain ⟨oF,cF,rfl,_,_⟩:=hF
 obtain ⟨oO,cO,rfl,_,_⟩:=hO
 have hrc:=Zvt p (Up p) _ _ fuel w2 ((un HP).kept ((un HK1).trans hk2)) hst2 (un HSM) hf (un HZ) (un HOK)
 rw [un HRR] at hrc
 have HC:=Zb hrc
 clear hrc
 have HK2:=Zb ((un HK1).trans hk2)
 have HLR2:=Zb (Zq hk2 (un HLR))
 have HG:=Zb hk2.size
 clear hk2 hst2 HB
 go_wp2_with fail
 refine (un HC).mono ?_
 rintro _ w3 ⟨V,rfl,ho3,hk3⟩
 obtain ⟨xsF,hrF,_⟩:=ho3.piece .fibers trivial
 obtain ⟨oX,cX,hVf,_⟩:=Xl hrF
 have hrO:_:=ho3.piece .out trivial
 obtain ⟨oY,cY,hVo,_⟩:=Xl hrO
 rw [hVf,hVo]
 have LR3:=Zq hk3 (un HLR2)
 have HVF:=Zb hVf
 have HVO:=Zb hVo
 have HO3:=Zb ho3
 have HK3:=Zb ((un HK2).trans hk3)
 have HG3:=Zb hk3.size
 clear hrF hrO hVf hVo HC hk3
 go_upto_region 2 with fail
 generalize hw4:w3.alloc (.cells #[.slice oX RR.1.fibers.length cX,.int .i64 RR.1.now,.slice oY RR.1.out.length cY] 26)=w4
 have hk4:Za w3 w4:=by rw [← hw4];exact (Za.refl w3).alloc _
 have hB:w4.heap[w3.heap.size]?=some (.cells #[.slice oX RR.1.fibers.length cX,.int .i64 RR.1.now,.slice oY RR.1.out.length cY] 26):=by rw [← hw4];exact Zj rfl
 have LR4:=Zq hk4 LR3
 have HO4:=Zb (show Own w2.heap.size w4 V RR.1 from (un HO3).same (fun kk g hkk hg=>hk4.block g (((un HO3).piece kk hkk).block g hg).2))
 have HK4:=Zb ((un HK3).trans hk4)
 generalize hR2:w.heap.size=R2 at *
 have r0:=Zd LR4 0
 have r1:=Zd LR4 1
 have r2:=Zd LR4 2
 have f0:=Zk LR4 0
 have f1:=Zk LR4 1
 have f2:=Zk LR4 2
 have b0:=Zd hB 0
 have b1:=Zd hB 1
 have b2:=Zd hB 2
 have HLZ:=Zb (Wv (x:=.slice oX RR.1.fibers.length cX) (y:=.int .i64 RR.1.now) (z:=.slice oY RR.1.out.length cY) LR4)
 have HRZ:Hid (w.heap.size=R2∧w2.heap.size ≥ w.heap.size+1):=Zb ⟨hR2,by have:=un HG;have:=un HSZ;omega⟩
 clear hw4 hk4 hB LR4 LR3 hR2 HO3 HK3 ho3
 go_wp2_with fail
 have k0:=Zd (un HLZ) 0
 have k1:=Zd (un HLZ) 1
 have k2:=Zd (un HLZ) 2
 have hwR:w.heap.size≤R2:=by have:=un HRZ;omega
 have hkf:Za w (((w4.setCell ⟨R2,0,none⟩ (.slice oX RR.1.fibers.length cX)).setCell ⟨R2,1,none⟩ (.int .i64 RR.1.now)).setCell ⟨R2,2,none⟩ (.slice oY RR.1.out.length cY)):=(((un HK4).setCell (p:=⟨R2,0,none⟩) hwR _).setCell (p:=⟨R2,1,none⟩) hwR _).setCell (p:=⟨R2,2,none⟩) hwR _
 have hwf:∀ (y:Nat),w2.heap.size≤y→(((w4.setCell ⟨R2,0,none⟩ (.slice oX RR.1.fibers.length cX)).setCell ⟨R2,1,none⟩ (.int .i64 RR.1.now)).setCell ⟨R2,2,none⟩ (.slice oY RR.1.out.length cY)).heap[y]?=w4.heap[y]?:=fun y hy=>by
  have:=un HRZ
  rw [Below.heap_setCell _ _ _ _ (by simp only;omega),Below.heap_setCell _ _ _ _ (by simp only;omega),Below.heap_setCell _ _ _ _ (by simp only;omega)]
 refine bodyPost_ret (v:=.agg #[.slice oX RR.1.fibers.length cX,.int .i64 RR.1.now,.slice oY RR.1.out.length cY]) (by simp [results,Tryd.results27,go_sem,k0,k1,k2]) rfl ?_
 exact ⟨V,by rw [un HVF,un HVO],Own.base (base:=w2.heap.size) ((un HO4).same (fun kk g hkk hg=>hwf g (((un HO4).piece kk hkk).block g hg).1)) (by have:=un HRZ;omega),hkf⟩
theorem Zjb:Xd Jo=0:=by decide +kernel
theorem Zqc:Yc (Up Jo):=by unfold Yc;decide +kernel
theorem Zfg:Xi Jo (Up Jo)=0:=by decide +kernel
theorem Zju {p:List Fn}:∀ (k:Nat) {s:St},Xi p s=0→Zbi p k s
 | 0,_,_=>trivial
 | k+1,s,h=>by
  by_cases hn:s.now<0
  ·exact .inl hn
  ·refine .inr ⟨Zuk h (by omega),Ztn h (by omega),fun he=>?_⟩
   rcases Zfo h (by omega) with ⟨_,h1⟩ | ⟨_,h1⟩
   ·exact Zju k h1
   ·omega
theorem Zvr (k:Nat) (hk:k≤99) (u:World) (vp:Value) (hp:Zv u vp Jo):Calls Tryd.prog 27 #[vp,.int .i64 k] u fun e w'=>∃ v,e=.returned v∧Xj w' v (Qz Jo k (Up Jo)).1∧Za u w':=by
 refine (Zqa Jo vp k u hp Zjb Zqc (by omega) Zfg (Zju k Zfg)).mono ?_
 rintro e w' ⟨V,rfl,ho,hk⟩
 exact ⟨_,rfl,ho.reads (Zem (Zgf k Zfg)),hk⟩
theorem Zpf (u:World):Calls Tryd.prog 26 #[] u fun e w'=>∃ v,e=.returned v∧Zv w' v Jo∧Za u w':=by
 refine (Zxs u).mono ?_
 rintro e w' ⟨v,rfl,h,hk⟩
 exact ⟨v,rfl,h.prog,hk⟩
def Qv (n:Int):UInt8:=UInt8.ofNat (n % 256).toNat
theorem Zch (n:Int):((Qv n).toNat:Int)=n % 256:=by
 unfold Qv
 rw [UInt8.toNat_ofNat']
 omega
theorem Zkk {n:Nat} (h:n<256):(Qv n).toNat=n:=by
 have:=Zch n
 omega
def Qy (v:Int):List UInt8:=(List.range 8).map fun k=>Qv (v / 2 ^ (56 - 8*k))
def Qp {α:Type} (f:α→List UInt8) (l:List α):List UInt8:=Qv l.length :: l.flatMap f
def Js (x:Fr):List UInt8:=Qv x.fn :: Qv x.at_ :: (Qp Qy x.locals++Qp Qy x.stack)
def Jr (b:Fb):List UInt8:=Qv (b.caller+1) :: Qp Js b.frames
def Qe (s:St):List UInt8:=Qv (s.now+1) :: (Qp Jr s.fibers++Qp Qy s.out)
def rdN:List UInt8→Option (Nat × List UInt8)
 | []=>none
 | b :: r=>some (b.toNat,r)
def Jw (v:Int) (b:UInt8):Int:=IntKind.i64.wrap (v*256+(b.toNat:Int))
def rdK:Nat→Int→List UInt8→Option (Int × List UInt8)
 | 0,v,l=>some (v,l)
 | _+1,_,[]=>none
 | k+1,v,b :: r=>rdK k (Jw v b) r
def rdV (l:List UInt8):Option (Int × List UInt8):=rdK 8 0 l
def rdL {α:Type} (f:List UInt8→Option (α × List UInt8)):Nat→List UInt8→Option (List α × List UInt8)
 | 0,l=>some ([],l)
 | n+1,l=>match f l with
  | none=>none
  | some (x,r)=>match rdL f n r with
   | none=>none
   | some (xs,r')=>some (x :: xs,r')
def Xv {α:Type} (f:List UInt8→Option (α × List UInt8)) (l:List UInt8):Option (List α × List UInt8):=match rdN l with
 | none=>none
 | some (n,r)=>rdL f n r
def rdF (l:List UInt8):Option (Fr × List UInt8):=match rdN l with
 | none=>none
 | some (a,r1)=>match rdN r1 with
  | none=>none
  | some (b,r2)=>match Xv rdV r2 with
   | none=>none
   | some (x,r3)=>match Xv rdV r3 with
    | none=>none
    | some (y,r4)=>some (⟨a,b,x,y⟩,r4)
def rdB (l:List UInt8):Option (Fb × List UInt8):=match rdN l with
 | none=>none
 | some (a,r1)=>match Xv rdF r1 with
  | none=>none
  | some (x,r2)=>some (⟨x,(a:Int) - 1⟩,r2)
def rdS (l:List UInt8):Option (St × List UInt8):=match rdN l with
 | none=>none
 | some (a,r1)=>match Xv rdB r1 with
  | none=>none
  | some (x,r2)=>match Xv rdV r2 with
   | none=>none
   | some (y,r3)=>some (⟨x,(a:Int) - 1,y⟩,r3)
def V8 (v:Int):Prop:=-9223372036854775808≤v∧v<9223372036854775808
theorem Zjg (v:Int):Qy v=[Qv (v / 72057594037927936),Qv (v / 281474976710656),Qv (v / 1099511627776),Qv (v / 4294967296),Qv (v / 16777216),Qv (v / 65536),Qv (v / 256),Qv v]:=by
 unfold Qy
 simp [List.range_succ]
theorem Zfk (v:Int):(Qy v).length=8:=by simp [Qy]
theorem Zgr (v:Int) (hv:V8 v) (r:List UInt8):rdV (Qy v++r)=some (v,r):=by
 rw [Zjg]
 obtain ⟨h1,h2⟩:=hv
 simp only [List.cons_append,List.nil_append,rdV,rdK,Jw,Zch]
 simp only [Option.some.injEq,Prod.mk.injEq,and_true,IntKind.wrap_i64]
 omega
theorem Zlx {α:Type} {f:List UInt8→Option (α × List UInt8)} {g:α→List UInt8}:∀ (l:List α),(∀ x∈l,∀ r,f (g x++r)=some (x,r))→∀ r,rdL f l.length (l.flatMap g++r)=some (l,r)
 | [],_,r=>rfl
 | x :: l,h,r=>by
  have h1:=h x (by simp) (l.flatMap g++r)
  have h2:=Zlx l (fun y hy=>h y (by simp [hy])) r
  simp only [List.flatMap_cons,List.append_assoc,List.length_cons,rdL,h1,h2]
theorem Zdf {α:Type} {f:List UInt8→Option (α × List UInt8)} {g:α→List UInt8} (l:List α) (hl:l.length<256) (h:∀ x∈l,∀ r,f (g x++r)=some (x,r)) (r:List UInt8):Xv f (Qp g l++r)=some (l,r):=by
 unfold Xv Qp
 simp only [List.cons_append,rdN,Zkk hl]
 exact Zlx l h r
structure StB (s:St):Prop where
 now:-1≤s.now∧s.now<255
 fibers:s.fibers.length<256
 out:s.out.length<256∧∀ v∈s.out,V8 v
 fiber:∀ b∈s.fibers,-1≤b.caller∧b.caller<255∧b.frames.length<256∧∀ x∈b.frames,(0≤x.fn∧x.fn<256)∧(0≤x.at_∧x.at_<256)∧(x.locals.length<256∧∀ v∈x.locals,V8 v)∧(x.stack.length<256∧∀ v∈x.stack,V8 v)
theorem Zfb {n:Int} (h0:0≤n) (h:n<256):((Qv n).toNat:Int)=n:=by rw [Zch];omega
theorem Xae (x:Fr) (h1:0≤x.fn∧x.fn<256) (h2:0≤x.at_∧x.at_<256) (h3:x.locals.length<256∧∀ v∈x.locals,V8 v) (h4:x.stack.length<256∧∀ v∈x.stack,V8 v) (r:List UInt8):rdF (Js x++r)=some (x,r):=by
 unfold rdF Js
 simp only [List.cons_append,List.append_assoc,rdN]
 rw [Zdf x.locals h3.1 (fun v hv r=>Zgr v (h3.2 v hv) r)]
 simp only
 rw [Zdf x.stack h4.1 (fun v hv r=>Zgr v (h4.2 v hv) r)]
 simp only [Zfb h1.1 h1.2,Zfb h2.1 h2.2]
theorem Zgp (s:St) (h:StB s) (r:List UInt8):rdS (Qe s++r)=some (s,r):=by
 unfold rdS Qe
 simp only [List.cons_append,List.append_assoc,rdN]
 rw [Zdf s.fibers h.fibers (fun b hb r=>?_)]
 ·simp only
  rw [Zdf s.out h.out.1 (fun v hv r=>Zgr v (h.out.2 v hv) r)]
  have:=h.now
  simp only [Zfb (show 0≤s.now+1 by omega) (by omega)]
  congr 2
  cases s
  simp
 ·obtain ⟨c0,c1,c2,c3⟩:=h.fiber b hb
  unfold rdB Jr
  simp only [List.cons_append,rdN]
  rw [Zdf b.frames c2 (fun x hx r=>by obtain ⟨q1,q2,q3,q4⟩:=c3 x hx;exact Xae x q1 q2 q3 q4 r)]
  simp only [Zfb (show 0≤b.caller+1 by omega) (by omega)]
  congr 2
  cases b
  simp
theorem Zft {z:Int} (h:(Lit.int .i64 z).wf=true):V8 z:=by
 have h1:IntKind.i64.min≤z∧z≤IntKind.i64.max:=by simpa [Lit.wf] using h
 have e1:IntKind.i64.min=-9223372036854775808:=by decide
 have e2:IntKind.i64.max=9223372036854775807:=by decide
 unfold V8
 omega
theorem Zga {p:List Fn} {s:St} (h:Xi p s=0) (hw:StW s):StB s:=by
 obtain ⟨hp,hlim,_⟩:=Zaq h
 obtain ⟨h5,h30,h6,_,⟨n1,n2⟩,hc⟩:=Zaz hlim
 refine ⟨⟨n1,by omega⟩,by omega,⟨by omega,fun v hv=>Zft (hw.1 v hv)⟩,fun b hb=>⟨(hc b hb).1,by have:=(hc b hb).2;omega,by have:=h6 b hb;omega,fun x hx=>?_⟩⟩
 obtain ⟨wl,ws⟩:=hw.2 b hb x hx
 obtain ⟨k,hk,rfl⟩:=Zdj hb
 obtain ⟨j,hj,rfl⟩:=List.getElem_of_mem hx
 have e:Ze s k j=(Zc s k).frames[j]:=by simp [Ze,List.getD,hj]
 obtain ⟨h1,h2⟩:=Zly h hk hj
 rw [e] at h1 h2
 obtain ⟨⟨q1,q2⟩,q3,⟨q4,q5⟩,_⟩:=Ph h1
 obtain ⟨p5,_,hck⟩:=Pt hp
 have hr:=(Zdy hp (f:=(Zc s k).frames[j].fn.toNat) (by omega)).2.2.1
 obtain ⟨i,hi,_,hcl,_⟩:=Zcz (hck (Zc s k).frames[j].fn.toNat (by omega))
 have hi':i=(Zc s k).frames[j].fn.toNat:=by omega
 rw [hi'] at hcl
 have hcode:(Zw p (Zc s k).frames[j].fn.toNat).length≤24:=hcl
 exact ⟨⟨q1,by omega⟩,⟨q4,by omega⟩,⟨by omega,fun v hv=>Zft (wl v hv)⟩,⟨by omega,fun v hv=>Zft (ws v hv)⟩⟩
theorem Zmi {α:Type} (g:α→List UInt8) (K:Nat):∀ (l:List α),(∀ x∈l,(g x).length≤K)→(l.flatMap g).length≤l.length*K
 | [],_=>by simp
 | x :: l,h=>by
  have h1:=h x (by simp)
  have h2:=Zmi g K l (fun y hy=>h y (by simp [hy]))
  simp only [List.flatMap_cons,List.length_append,List.length_cons,Nat.add_mul]
  omega
theorem Zfw {α:Type} (g:α→List UInt8) (K:Nat) (l:List α) (hl:l.length<256) (h:∀ x∈l,(g x).length≤K):(Qp g l).length≤1+256*K:=by
 have h1:=Zmi g K l h
 have h2:l.length*K≤256*K:=Nat.mul_le_mul_right K (by omega)
 simp only [Qp,List.length_cons]
 omega
theorem Zws {s:St} (h:StB s):(Qe s).length≤100000000000:=by
 have hV:∀ (l:List Int),l.length<256→(Qp Qy l).length≤2049:=fun l hl=>by
  have:=Zfw Qy 8 l hl (fun x _=>Nat.le_of_eq (Zfk x))
  omega
 have hB:∀ b∈s.fibers,(Jr b).length≤1049602:=fun b hb=>by
  obtain ⟨_,_,c2,c3⟩:=h.fiber b hb
  have:=Zfw Js 4100 b.frames c2 (fun x hx=>by
   obtain ⟨_,_,q3,q4⟩:=c3 x hx
   have a1:=hV x.locals q3.1
   have a2:=hV x.stack q4.1
   simp only [Js,List.length_cons,List.length_append]
   omega)
  simp only [Jr,List.length_cons]
  omega
 have h1:=Zfw Jr 1049602 s.fibers h.fibers hB
 have h2:=hV s.out h.out.1
 simp only [Qe,List.length_cons,List.length_append]
 omega
def Ju (w:World) (N:Nat) (v:Value):Prop:=∃ oa n cap,v=.slice oa n cap∧(0<n→∃ g cur,oa=some ⟨g,0,none⟩∧N≤g∧w.heap[g]?=some (.cells cur 3)∧n≤cur.size∧n≤9223372036854775807)
def Uf (w:World) (N:Nat) (v:Value):Prop:=∃ oa n cap,v=.slice oa n cap∧(0<n→∃ g cur,oa=some ⟨g,0,none⟩∧N≤g∧w.heap[g]?=some (.cells cur 53)∧n≤9223372036854775807 ∧
 ∀ j,j<n→∃ a b vl vs,cur[j*4]?=some (.int .i64 a)∧cur[j*4+1]?=some (.int .i64 b)∧cur[j*4+2]?=some vl∧cur[j*4+3]?=some vs∧Ju w N vl∧Ju w N vs)
def Zbc (w:World) (N:Nat) (v:Value):Prop:=∃ oa n cap,v=.slice oa n cap∧(0<n→∃ g cur,oa=some ⟨g,0,none⟩∧N≤g∧w.heap[g]?=some (.cells cur 46)∧n≤9223372036854775807 ∧
 ∀ k,k<n→∃ vf c,cur[k*2]?=some vf∧cur[k*2+1]?=some (.int .i64 c)∧Uf w N vf)
theorem Ju.nil (w:World) (N:Nat):Ju w N (.slice none 0 0):=⟨none,0,0,rfl,fun h=>by omega⟩
theorem Uf.nil (w:World) (N:Nat):Uf w N (.slice none 0 0):=⟨none,0,0,rfl,fun h=>by omega⟩
def FrSame (c c':Array Value) (j:Nat):Prop:=(c'[j*4]?=c[j*4]?∧c'[j*4+1]?=c[j*4+1]?∧c'[j*4+2]?=c[j*4+2]?∧c'[j*4+3]?=c[j*4+3]?) ∨
 (c'[j*4]?=some (.int .i64 0)∧c'[j*4+1]?=some (.int .i64 (-1))∧c'[j*4+2]?=some (.slice none 0 0)∧c'[j*4+3]?=some (.slice none 0 0))
def FbSame (c c':Array Value) (k:Nat):Prop:=(c'[k*2]?=c[k*2]?∧c'[k*2+1]?=c[k*2+1]?)∨(c'[k*2]?=some (.slice none 0 0)∧c'[k*2+1]?=some (.int .i64 0))
def Wr (w w':World):Prop:=∀ (g:Nat) (c:Array Value) (t:TypeId),w.heap[g]?=some (.cells c t)→∃ c',w'.heap[g]?=some (.cells c' t)∧c'.size=c.size ∧
 (t=53→∀ j,FrSame c c' j)∧(t=46→∀ k,FbSame c c' k)∧(t=26→c'=c)
theorem Wr.same {w w':World} (h:∀ (g:Nat) (o:Obj),w.heap[g]?=some o→w'.heap[g]?=some o):Wr w w':=fun g c _ hg =>
 ⟨c,h g _ hg,rfl,fun _ _=>.inl ⟨rfl,rfl,rfl,rfl⟩,fun _ _=>.inl ⟨rfl,rfl⟩,fun _=>rfl⟩
theorem Wr.kept {w w':World} (h:Za w w'):Wr w w':=Wr.same fun _ _ hg=>Zq h hg
theorem Ju.wr {w w':World} {N:Nat} {v:Value} (h:Ju w N v) (k:Wr w w'):Ju w' N v:=by
 obtain ⟨oa,n,cap,rfl,h⟩:=h
 refine ⟨oa,n,cap,rfl,fun hn=>?_⟩
 obtain ⟨g,cur,e,hN,hg,hs,hb⟩:=h hn
 obtain ⟨c',hc,hz,_⟩:=k g cur _ hg
 exact ⟨g,c',e,hN,hc,by omega,hb⟩
theorem Uf.wr {w w':World} {N:Nat} {v:Value} (h:Uf w N v) (k:Wr w w'):Uf w' N v:=by
 obtain ⟨oa,n,cap,rfl,h⟩:=h
 refine ⟨oa,n,cap,rfl,fun hn=>?_⟩
 obtain ⟨g,cur,e,hN,hg,hb,hs⟩:=h hn
 obtain ⟨c',hc,hz,hf,_⟩:=k g cur _ hg
 refine ⟨g,c',e,hN,hc,hb,fun j hj=>?_⟩
 obtain ⟨a,b,vl,vs,h1,h2,h3,h4,h5,h6⟩:=hs j hj
 rcases hf rfl j with ⟨q1,q2,q3,q4⟩ | ⟨q1,q2,q3,q4⟩
 ·exact ⟨a,b,vl,vs,q1.trans h1,q2.trans h2,q3.trans h3,q4.trans h4,h5.wr k,h6.wr k⟩
 ·exact ⟨_,_,_,_,q1,q2,q3,q4,Ju.nil _ _,Ju.nil _ _⟩
theorem Zbc.wr {w w':World} {N:Nat} {v:Value} (h:Zbc w N v) (k:Wr w w'):Zbc w' N v:=by
 obtain ⟨oa,n,cap,rfl,h⟩:=h
 refine ⟨oa,n,cap,rfl,fun hn=>?_⟩
 obtain ⟨g,cur,e,hN,hg,hb,hs⟩:=h hn
 obtain ⟨c',hc,hz,_,hf,_⟩:=k g cur _ hg
 refine ⟨g,c',e,hN,hc,hb,fun j hj=>?_⟩
 obtain ⟨vf,c,h1,h2,h3⟩:=hs j hj
 rcases hf rfl j with ⟨q1,q2⟩ | ⟨q1,q2⟩
 ·exact ⟨vf,c,q1.trans h1,q2.trans h2,h3.wr k⟩
 ·exact ⟨_,_,q1,q2,Uf.nil _ _⟩
theorem Zzs {w:World} {g:Nat} {c:Array Value} {t:TypeId} (h:w.heap[g]?=some (.cells c t)) (i:Nat) (u:Value) (b:Nat) :
  (w.setCell ⟨g,i,none⟩ u).heap[b]?=if b=g then some (.cells (c.setIfInBounds i u) t) else w.heap[b]?:=by
 by_cases e:b=g
 ·subst e;rw [if_pos rfl];exact Zl h i u
 ·rw [if_neg e];exact Below.heap_setCell w ⟨g,i,none⟩ u b e
theorem Wr.int {w:World} {g:Nat} {c:Array Value} (h:w.heap[g]?=some (.cells c 3)) (i:Nat) (u:Value):Wr w (w.setCell ⟨g,i,none⟩ u):=by
 intro b c1 t hb
 rw [Zzs h]
 by_cases e:b=g
 ·subst e
  rw [h] at hb
  obtain ⟨rfl,rfl⟩:c=c1∧3=t:=by simpa using hb
  rw [if_pos rfl]
  exact ⟨_,rfl,by simp,fun q=>absurd q (by decide),fun q=>absurd q (by decide),fun q=>absurd q (by decide)⟩
 ·rw [if_neg e]
  exact ⟨c1,hb,rfl,fun _ _=>.inl ⟨rfl,rfl,rfl,rfl⟩,fun _ _=>.inl ⟨rfl,rfl⟩,fun _=>rfl⟩
abbrev Zdp (w:World) (g j:Nat):World:=(((w.setCell ⟨g,j*4,none⟩ (.int .i64 0)).setCell ⟨g,j*4+1,none⟩ (.int .i64 (-1))).setCell ⟨g,j*4+2,none⟩ (.slice none 0 0)).setCell ⟨g,j*4+3,none⟩ (.slice none 0 0)
abbrev Zib (w:World) (g k:Nat):World:=(w.setCell ⟨g,k*2,none⟩ (.slice none 0 0)).setCell ⟨g,k*2+1,none⟩ (.int .i64 0)
theorem Wr.frame {w:World} {g:Nat} {c:Array Value} (h:w.heap[g]?=some (.cells c 53)) {j:Nat} (hj:j*4+3<c.size):Wr w (Zdp w g j):=by
 intro b c1 t hb
 have l4:=Zl (Zl (Zl (Zl h (j*4) (.int .i64 0)) (j*4+1) (.int .i64 (-1))) (j*4+2) (.slice none 0 0)) (j*4+3) (.slice none 0 0)
 by_cases e:b=g
 ·subst e
  rw [h] at hb
  obtain ⟨rfl,rfl⟩:c=c1∧53=t:=by simpa using hb
  refine ⟨_,l4,by simp,fun _ i=>?_,fun q=>absurd q (by decide),fun q=>absurd q (by decide)⟩
  by_cases hi:i=j
  ·subst hi
   right
   simp only [Array.getElem?_setIfInBounds,Array.size_setIfInBounds]
   refine ⟨?_,?_,?_,?_⟩ <;> simp <;> omega
  ·left
   simp only [Array.getElem?_setIfInBounds]
   refine ⟨?_,?_,?_,?_⟩ <;> (repeat rw [if_neg (by omega)])
 ·refine ⟨c1,?_,rfl,fun _ _=>.inl ⟨rfl,rfl,rfl,rfl⟩,fun _ _=>.inl ⟨rfl,rfl⟩,fun _=>rfl⟩
  rw [← hb]
  simp only [Zdp]
  rw [Below.heap_setCell _ _ _ _ e,Below.heap_setCell _ _ _ _ e,Below.heap_setCell _ _ _ _ e,Below.heap_setCell _ _ _ _ e]
theorem Wr.fiber {w:World} {g:Nat} {c:Array Value} (h:w.heap[g]?=some (.cells c 46)) {j:Nat} (hj:j*2+1<c.size):Wr w (Zib w g j):=by
 intro b c1 t hb
 have l4:=Zl (Zl h (j*2) (.slice none 0 0)) (j*2+1) (.int .i64 0)
 by_cases e:b=g
 ·subst e
  rw [h] at hb
  obtain ⟨rfl,rfl⟩:c=c1∧46=t:=by simpa using hb
  refine ⟨_,l4,by simp,fun q=>absurd q (by decide),fun _ i=>?_,fun q=>absurd q (by decide)⟩
  by_cases hi:i=j
  ·subst hi
   right
   simp only [Array.getElem?_setIfInBounds,Array.size_setIfInBounds]
   refine ⟨?_,?_⟩ <;> simp <;> omega
  ·left
   simp only [Array.getElem?_setIfInBounds]
   refine ⟨?_,?_⟩ <;> (repeat rw [if_neg (by omega)])
 ·refine ⟨c1,?_,rfl,fun _ _=>.inl ⟨rfl,rfl,rfl,rfl⟩,fun _ _=>.inl ⟨rfl,rfl⟩,fun _=>rfl⟩
  rw [← hb]
  simp only [Zib]
  rw [Below.heap_setCell _ _ _ _ e,Below.heap_setCell _ _ _ _ e]
theorem Zcc {w:World} {base:Nat} {e:TypeId} {size:Nat} {v:Value} {n:Nat} {xs:List Value} (h:w.ownsRow base e size v n xs) :
  ∃ oa cap,v=.slice oa n cap∧(0<n→∃ g cur,oa=some ⟨g,0,none⟩∧base≤g∧w.heap[g]?=some (.cells cur e)∧n*size≤cur.size∧n≤9223372036854775807∧∀ (j:Nat) u,xs[j]?=some u→cur[j]?=some u):=by
 obtain ⟨hl,⟨rfl,rfl⟩ | ⟨g,cap,cur,rfl,hb,hh,h1,h2,hs,ht⟩⟩:=h
 ·exact ⟨none,0,rfl,fun h=>by omega⟩
 ·refine ⟨_,cap,rfl,fun _=>⟨g,cur,rfl,hb,hh,?_,by unfold maxLen at h2;omega,fun j u hj=>?_⟩⟩
  ·rw [hs];exact Nat.mul_le_mul_right _ h1
  ·rw [← ht,List.getElem?_take] at hj
   split at hj
   ·simpa using hj
   ·cases hj
theorem Ju.low {w:World} {N M:Nat} {v:Value} (h:Ju w N v) (hm:M≤N):Ju w M v:=by
 obtain ⟨oa,n,cap,rfl,h⟩:=h
 refine ⟨oa,n,cap,rfl,fun hn=>?_⟩
 obtain ⟨g,cur,e,hN,r⟩:=h hn
 exact ⟨g,cur,e,by omega,r⟩
theorem Uf.low {w:World} {N M:Nat} {v:Value} (h:Uf w N v) (hm:M≤N):Uf w M v:=by
 obtain ⟨oa,n,cap,rfl,h⟩:=h
 refine ⟨oa,n,cap,rfl,fun hn=>?_⟩
 obtain ⟨g,cur,e,hN,hg,hb,hs⟩:=h hn
 refine ⟨g,cur,e,by omega,hg,hb,fun j hj=>?_⟩
 obtain ⟨a,b,vl,vs,h1,h2,h3,h4,h5,h6⟩:=hs j hj
 exact ⟨a,b,vl,vs,h1,h2,h3,h4,h5.low hm,h6.low hm⟩
theorem Zbc.low {w:World} {N M:Nat} {v:Value} (h:Zbc w N v) (hm:M≤N):Zbc w M v:=by
 obtain ⟨oa,n,cap,rfl,h⟩:=h
 refine ⟨oa,n,cap,rfl,fun hn=>?_⟩
 obtain ⟨g,cur,e,hN,hg,hb,hs⟩:=h hn
 refine ⟨g,cur,e,by omega,hg,hb,fun j hj=>?_⟩
 obtain ⟨vf,c,h1,h2,h3⟩:=hs j hj
 exact ⟨vf,c,h1,h2,h3.low hm⟩
def LAt (w0 w:World) (L:Nat) (cs:Array Value):Prop:=w.heap[L]?=some (.cells cs 26)∧w0.heap.size≤L∧Za w0 w ∧
 ∀ i,i<3→∃ vf c vo,cs[i*3]?=some vf∧cs[i*3+1]?=some (.int .i64 c)∧cs[i*3+2]?=some vo∧Zbc w w0.heap.size vf∧Ju w w0.heap.size vo
theorem LAt.wr {w0 w w':World} {L:Nat} {cs:Array Value} (h:LAt w0 w L cs) (hk:Za w0 w') (k:Wr w w'):LAt w0 w' L cs:=by
 obtain ⟨h1,h2,_,h4⟩:=h
 obtain ⟨c',hc,_,_,_,he⟩:=k L cs _ h1
 refine ⟨by rw [hc,he rfl],h2,hk,fun i hi=>?_⟩
 obtain ⟨vf,c,vo,q1,q2,q3,q4,q5⟩:=h4 i hi
 exact ⟨vf,c,vo,q1,q2,q3,q4.wr k,q5.wr k⟩
theorem LAt.fib {w0 w:World} {L:Nat} {cs:Array Value} (h:LAt w0 w L cs) {i:Nat} (hi:i<3):∃ of nf cf oo no co,w.cell? ⟨L,i*3,none⟩=some (.slice of nf cf)∧w.cell? ⟨L,i*3+2,none⟩=some (.slice oo no co)∧cs[i*3]?=some (.slice of nf cf)∧cs[i*3+2]?=some (.slice oo no co):=by
 obtain ⟨h1,_,_,h4⟩:=h
 obtain ⟨vf,c,vo,q1,_,q3,q4,q5⟩:=h4 i hi
 obtain ⟨of,nf,cf,rfl,_⟩:=q4
 obtain ⟨oo,no,co,rfl,_⟩:=q5
 exact ⟨of,nf,cf,oo,no,co,(Zd h1 _).trans q1,(Zd h1 _).trans q3,q1,q3⟩
theorem LAt.frs {w0 w:World} {L:Nat} {cs:Array Value} (h:LAt w0 w L cs) {i:Nat} (hi:i<3) {of:Option Addr} {nf cf:Nat} (hc:cs[i*3]?=some (.slice of nf cf)) {k:Nat} (hk:k<nf) :
  ∃ g cur,of=some ⟨g,0,none⟩∧w0.heap.size≤g∧w.heap[g]?=some (.cells cur 46)∧nf≤9223372036854775807∧∃ o n c z,cur[k*2]?=some (.slice o n c)∧cur[k*2+1]?=some (.int .i64 z)∧Uf w w0.heap.size (.slice o n c):=by
 obtain ⟨_,_,_,h4⟩:=h
 obtain ⟨vf,c,vo,q1,_,_,q4,_⟩:=h4 i hi
 obtain rfl:vf=.slice of nf cf:=Option.some.inj (q1.symm.trans hc)
 obtain ⟨_,_,_,e,q⟩:=q4
 cases e
 obtain ⟨g,cur,rfl,hg,hh,hb,hs⟩:=q (by omega)
 obtain ⟨vf,z,r1,r2,r3⟩:=hs k hk
 obtain ⟨o,n,c,rfl,_⟩:=id r3
 exact ⟨g,cur,rfl,hg,hh,hb,o,n,c,z,r1,r2,r3⟩
theorem LAt.ints {w0 w:World} {L:Nat} {cs:Array Value} (h:LAt w0 w L cs) {i:Nat} (hi:i<3) {oo:Option Addr} {no co:Nat} (hc:cs[i*3+2]?=some (.slice oo no co)):Ju w w0.heap.size (.slice oo no co):=by
 obtain ⟨_,_,_,h4⟩:=h
 obtain ⟨vf,c,vo,_,_,q3,_,q5⟩:=h4 i hi
 obtain rfl:vo=.slice oo no co:=Option.some.inj (q3.symm.trans hc)
 exact q5
theorem Uf.at {w:World} {N n cf:Nat} {of:Option Addr} (h:Uf w N (.slice of n cf)) {j:Nat} (hj:j<n):∃ g cur,of=some ⟨g,0,none⟩∧N≤g∧w.heap[g]?=some (.cells cur 53)∧∃ a b ol nl cl os ns cs,w.cell? ⟨g,j*4,none⟩=some (.int .i64 a)∧w.cell? ⟨g,j*4+1,none⟩=some (.int .i64 b) ∧
  w.cell? ⟨g,j*4+2,none⟩=some (.slice ol nl cl)∧w.cell? ⟨g,j*4+3,none⟩=some (.slice os ns cs)∧Ju w N (.slice ol nl cl)∧Ju w N (.slice os ns cs)∧j*4+3<cur.size∧n≤9223372036854775807:=by
 obtain ⟨_,_,_,e,q⟩:=h
 cases e
 obtain ⟨g,cur,rfl,hg,hh,hb,hs⟩:=q (by omega)
 obtain ⟨a,b,vl,vs,r1,r2,r3,r4,r5,r6⟩:=hs j hj
 obtain ⟨ol,nl,cl,rfl,_⟩:=id r5
 obtain ⟨os,ns,cs,rfl,_⟩:=id r6
 exact ⟨g,cur,rfl,hg,hh,a,b,ol,nl,cl,os,ns,cs,(Zd hh _).trans r1,(Zd hh _).trans r2,(Zd hh _).trans r3,(Zd hh _).trans r4,r5,r6,(Array.getElem?_eq_some_iff.1 r4).1,hb⟩
theorem Ju.at {w:World} {N n c:Nat} {oo:Option Addr} (h:Ju w N (.slice oo n c)) {m:Nat} (hm:m<n):∃ g cur x,oo=some ⟨g,0,none⟩∧N≤g∧w.heap[g]?=some (.cells cur 3)∧w.cell? ⟨g,m,none⟩=some x∧w.frozen? ⟨g,m,none⟩=false∧n≤9223372036854775807:=by
 obtain ⟨_,_,_,e,q⟩:=h
 cases e
 obtain ⟨g,cur,rfl,hg,hh,hs,hb⟩:=q (by omega)
 exact ⟨g,cur,cur[m]'(by omega),rfl,hg,hh,(Zd hh _).trans (Array.getElem?_eq_getElem (by omega)),Zk hh _,hb⟩
theorem Zat {w:World} {g b:Nat} {c d:Array Value} {t r:TypeId} (h:w.heap[g]?=some (.cells c t)) (k:w.heap[b]?=some (.cells d r)) (hn:t≠r) (i:Nat) (u:Value):(w.setCell ⟨g,i,none⟩ u).heap[b]?=some (.cells d r):=by
 refine Xr k (fun e=>?_) u
 simp only at e
 subst e
 rw [h] at k
 simp only [Option.some.injEq,Obj.cells.injEq] at k
 exact hn k.2.1
def XAt (w0 w:World) (L gf Bx:Nat) (cs curf xc:Array Value) (vl vs:Value):Prop:=LAt w0 w L cs∧w.heap[gf]?=some (.cells curf 46)∧w.heap[Bx]?=some (.cells xc 53)∧Ju w w0.heap.size vl∧Ju w w0.heap.size vs
theorem XAt.int {w0 w:World} {L gf Bx g i:Nat} {cs curf xc cur:Array Value} {vl vs:Value} (h:XAt w0 w L gf Bx cs curf xc vl vs) (hg:w.heap[g]?=some (.cells cur 3)) (hN:w0.heap.size≤g) (u:Value):XAt w0 (w.setCell ⟨g,i,none⟩ u) L gf Bx cs curf xc vl vs:=by
 obtain ⟨h1,h2,h3,h4,h5⟩:=h
 have k:=Wr.int hg i u
 exact ⟨h1.wr (h1.2.2.1.setCell (p:=⟨g,i,none⟩) hN u) k,Zat hg h2 (by decide) i u,Zat hg h3 (by decide) i u,h4.wr k,h5.wr k⟩
theorem LAt.int {w0 w:World} {L g i:Nat} {cs cur:Array Value} (h:LAt w0 w L cs) (hg:w.heap[g]?=some (.cells cur 3)) (hN:w0.heap.size≤g) (u:Value):LAt w0 (w.setCell ⟨g,i,none⟩ u) L cs:=h.wr (h.2.2.1.setCell (p:=⟨g,i,none⟩) hN u) (Wr.int hg i u)
theorem LAt.frame {w0 w:World} {L g j gf:Nat} {cs cur curf:Array Value} (h:LAt w0 w L cs) (h2:w.heap[gf]?=some (.cells curf 46)) (hg:w.heap[g]?=some (.cells cur 53)) (hN:w0.heap.size≤g) (hj:j*4+3<cur.size):LAt w0 (Zdp w g j) L cs∧(Zdp w g j).heap[gf]?=some (.cells curf 46):=by
 refine ⟨h.wr ((((h.2.2.1.setCell (p:=⟨g,_,none⟩) hN _).setCell (p:=⟨g,_,none⟩) hN _).setCell (p:=⟨g,_,none⟩) hN _).setCell (p:=⟨g,_,none⟩) hN _) (Wr.frame hg hj),?_⟩
 have l1:=Zl hg (j*4) (.int .i64 0)
 have l2:=Zl l1 (j*4+1) (.int .i64 (-1))
 have l3:=Zl l2 (j*4+2) (.slice none 0 0)
 exact Zat l3 (Zat l2 (Zat l1 (Zat hg h2 (by decide) _ _) (by decide) _ _) (by decide) _ _) (by decide) _ _
theorem LAt.fiber {w0 w:World} {L g j:Nat} {cs cur:Array Value} (h:LAt w0 w L cs) (hg:w.heap[g]?=some (.cells cur 46)) (hN:w0.heap.size≤g) (hj:j*2+1<cur.size):LAt w0 (Zib w g j) L cs :=
 h.wr ((h.2.2.1.setCell (p:=⟨g,_,none⟩) hN _).setCell (p:=⟨g,_,none⟩) hN _) (Wr.fiber hg hj)
def Zt (w:World) (B:Nat) (l:List UInt8):Prop:=w.heap[B]?=some (.cells #[.string ⟨l.toArray⟩] 81)
theorem Zt.k {w w':World} {B:Nat} {l:List UInt8} (h:Zt w B l) (k:Za w w'):Zt w' B l:=Zq k h
theorem Zwn (b:UInt8) (r:List UInt8) (u:World):(Instr.slice 9 (.string ⟨(b :: r).toArray⟩) (some (.int .i64 1)) none none).run Tryd.prog u=.ok (.string ⟨r.toArray⟩) u:=by
 have hs:(ByteArray.mk (b :: r).toArray).size=r.length+1:=by simp [ByteArray.size]
 have h1:(1:Int)≤(r.length:Int)+1:=by omega
 simp [Instr.slice,Instr.sliceBounds,Instr.sliceBound,asIntOf,run_underlying Tryd.underlying9,hs,h1]
 exact extract_mk_tail b r
theorem Ztm (b:UInt8) (r:List UInt8) (u:World):(Instr.index 9 (.string ⟨(b :: r).toArray⟩) (.int .i64 0)).run Tryd.prog u=.ok (.int .u8 (b.toNat:Int)) u:=by
 rw [run_index_string _ _ _ _ _ Tryd.underlying9,dif_pos ⟨by decide,by simp [ByteArray.size]⟩]
 rfl
theorem Zkw (v:Int) (b:UInt8):IntKind.i64.wrap ((BitVec.ofInt 64 (IntKind.i64.wrap (v*256)) ||| BitVec.ofInt 64 (b.toNat:Int)).toNat:Int)=Jw v b:=by
 have hb:b.toNat<256:=b.toNat_lt
 rw [BitVec.toNat_or,BitVec.toNat_ofInt,BitVec.toNat_ofInt]
 unfold Jw
 have e1:(((b.toNat:Int)) % ((2 ^ 64:Nat):Int)).toNat=b.toNat:=by omega
 obtain ⟨t,ht⟩:∃ t:Nat,((IntKind.i64.wrap (v*256)) % ((2 ^ 64:Nat):Int)).toNat=2 ^ 8*t:=by
  refine ⟨((IntKind.i64.wrap (v*256)) % ((2 ^ 64:Nat):Int)).toNat / 256,?_⟩
  rw [IntKind.wrap_i64]
  omega
 rw [e1,ht,← Nat.two_pow_add_eq_or_of_lt hb]
 have h2:((2 ^ 8*t:Nat):Int)=(IntKind.i64.wrap (v*256)) % ((2 ^ 64:Nat):Int):=by
  rw [← ht]
  rw [IntKind.wrap_i64]
  omega
 rw [IntKind.wrap_i64] at h2 ⊢
 rw [IntKind.wrap_i64]
 omega
theorem Ya (w:World) (B:Nat) (b:UInt8) (r:List UInt8) (h:Zt w B (b :: r)) :
  Calls Tryd.prog 64 #[.pointer (some ⟨B,0,none⟩)] w fun en w'=>en=.returned (.int .i64 (b.toNat:Nat))∧Zt w' B r∧Zm B w w':=by
 have a0:=Zd h 0
 have f0:=Zk h 0
 have h1:=Ztm b r
 have h2:=Zwn b r
 have h3:(ByteArray.mk (b :: r).toArray).toList.isEmpty=false:=by rw [ByteArray.toList_mk];rfl
 have HP:Hid (Zt (w.setCell ⟨B,0,none⟩ (.string ⟨r.toArray⟩)) B r∧Zm B w (w.setCell ⟨B,0,none⟩ (.string ⟨r.toArray⟩))):=Zb ⟨Zl h 0 _,(Zm.refl B w).setCell (p:=⟨B,0,none⟩) (.inl rfl) _⟩
 have hb:b.toNat<256:=b.toNat_lt
 have HB:=Zb hb
 generalize hN:b.toNat=N at *
 have hw:IntKind.i64.wrap (N:Int)=(N:Int):=by rw [IntKind.wrap_i64];omega
 generalize (ByteArray.mk (b :: r).toArray)=S at *
 generalize (ByteArray.mk r.toArray)=R at *
 clear h hb hN
 go_enter Tryd.func64,Tryd.ntmps64
 go_wp2_with fail
 go_ret
 exact ⟨rfl,un HP⟩
theorem Zvs {k:Nat} {v x:Int} {l r:List UInt8} (h:rdK (k+1) v l=some (x,r)):∃ b l',l=b :: l'∧rdK k (Jw v b) l'=some (x,r):=by
 cases l with
 | nil=>cases h
 | cons b l'=>exact ⟨b,l',rfl,h⟩
theorem Zck {n:Nat} {l r:List UInt8} (h:rdN l=some (n,r)):∃ b,l=b :: r∧b.toNat=n:=by
 cases l with
 | nil=>cases h
 | cons b l' =>
  simp only [rdN,Option.some.injEq,Prod.mk.injEq] at h
  exact ⟨b,by rw [h.2],h.1⟩
theorem Zm.rd {w w':World} {B b:Nat} {c:Array Value} {t:TypeId} (k:Zm B w w') (h:w.heap[b]?=some (.cells c t)) (hn:b≠B):w'.heap[b]?=some (.cells c t):=k.lays hn h
theorem Zlp (w:World) (B:Nat) (l r:List UInt8) (x:Int) (h:Zt w B l) (hx:rdV l=some (x,r)) :
  Calls Tryd.prog 68 #[.pointer (some ⟨B,0,none⟩)] w fun en w'=>en=.returned (.int .i64 x)∧Zt w' B r∧Zm B w w':=by
 have H0:Hid (Zt w B l∧rdK 8 0 l=some (x,r)∧Zm B w w):=Zb ⟨h,hx,Zm.refl B w⟩
 clear h hx
 go_enter Tryd.func68,Tryd.ntmps68
 go_wp2
 go_loopw [3,4] (fun s3 s4 wr=>∃ (k:Nat) (v:Int) (l:List UInt8),k≤8∧s3=.int .i64 v∧s4=.int .i64 k∧Hid (Zt wr B l∧rdK (8 - k) v l=some (x,r)∧Zm B w wr)) (fun _ s4 _=>8 - (intOf s4).toNat)
 case atStart=>exact ⟨0,0,l,by omega,rfl,rfl,H0⟩
 case round =>
  obtain ⟨k,v,l,hk8,rfl,rfl,HW⟩:=hrel
  by_cases hk:k<8
  ·obtain ⟨h1,h2,h3⟩:=un HW
   obtain ⟨n,hn⟩:∃ n,8 - k=n+1:=⟨7 - k,by omega⟩
   rw [hn] at h2
   obtain ⟨b,l',rfl,h4⟩:=Zvs h2
   have HC:=Zb (Ya wr B b l' h1)
   have H3:=Zb h3
   have H4:Hid (rdK (8 - (k+1)) (Jw v b) l'=some (x,r)):=Zb (by rw [show 8 - (k+1)=n by omega];exact h4)
   have hor:=Zkw v b
   clear h1 h2 h3 h4 hn HW
   go_wp2_with fail
   refine (un HC).mono ?_
   rintro _ w2 ⟨rfl,q1,q2⟩
   have HN:=Zb (And.intro q1 (And.intro (un H4) ((un H3).trans q2)))
   clear q1 q2 H3 H4 HC
   go_wp2_with fail
   go_roundw
   case rel=>exact ⟨k+1,Jw v b,l',by omega,congrArg (Value.int IntKind.i64) (by unfold bits;simp only [IntKind.bits];rw [show wrap64 (v*256)=IntKind.i64.wrap (v*256) by (unfold wrap64;rw [IntKind.wrap_i64])];exact hor),by go_num,HN⟩
   case measure=>simp [intOf];omega
  ·obtain rfl:k=8:=by omega
   obtain ⟨h1,h2,h3⟩:=un HW
   obtain ⟨rfl,rfl⟩:v=x∧l=r:=by simpa [rdK] using h2
   have HW2:=Zb (And.intro h1 h3)
   clear h1 h2 h3 HW
   go_wp2
   go_ret
   exact ⟨rfl,un HW2⟩
end Go.Proofs.YtblihfpigjiahaaDoor
