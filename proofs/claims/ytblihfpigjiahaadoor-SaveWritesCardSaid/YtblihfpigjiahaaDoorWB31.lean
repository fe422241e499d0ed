/- StateK -/
import Derived.Test.YtblihfpigjiahaaDoorWB29
import Derived.Test.YtblihfpigjiahaaDoorWB16
import Derived.Deep.RegionHeld3
import Derived.StillTailTactics
import Derived.Deep.DeepCutAuto
set_option maxRecDepth 100000
set_option maxHeartbeats 8000000
namespace Go.Proofs.YtblihfpigjiahaaDoor
open Go.RowKit
theorem hgt_of {p:List Fn} (h:Xh p=0) {k:Nat} (hk:k<p.length):Pn p k=(hgt p k,0):=by
 obtain ⟨_,_,hck⟩:=Zaa h
 have hz:=hck k hk
 have hh:Ql p (Zx p k)=some (hgt p k):=Zio h hk
 unfold Pn
 rw [if_pos hz,Int.toNat_natCast,show (p.getD k Fn.zero).code=Zx p k from rfl,hh]
theorem Zti:(Tryd.prog.info? 24).map (fun i=>(i.zero,i.size,i.bytes))=some (some (.slice none 0 0),1,24):=by kernel_rfl
theorem Xbt (m:Nat) (hm:m≤1000) (u:World):(Instr.makeSlice 93 (.int .i64 m) (.int .i64 m)).run Tryd.prog u =
  .ok (.slice (some ⟨u.heap.size,0,none⟩) m m) (u.alloc (.cells (List.replicate m (Value.slice none 0 0)).toArray 24)):=by
 obtain ⟨i0,hi,hz0,hz1,hz2⟩:=info_parts Zti
 have h:=run_make (P:=Tryd.prog) u 93 24 i0 (.slice none 0 0) Tryd.underlying93 hi hz0 .i64 .i64 (m:Int) (m:Int) (by omega) (Int.le_refl _) (by rw [hz2];omega) (by omega)
 rw [Int.toNat_natCast] at h
 have hm:madeCells #[Value.slice none 0 0] m=(List.replicate m (Value.slice none 0 0)).toArray:=by
  apply Array.ext
  ·simp [madeCells]
  ·intro i h1 h2
   simp [madeCells,Nat.mod_one]
 rw [← hm]
 simpa [hz1,Value.cells] using h
theorem Zfc (s:St):Qt s=if (decide (s.fibers.length≤5∧s.out.length≤30) && Zdd s.fibers)=true then (if 0<s.fibers.length then (if (Wd s.now s.fibers.length && Zau s.fibers s.fibers.length)=true then 0 else 3) else 5) else 2:=by
 have hc:(s.fibers.all fun b=>inB b.caller (-1) (s.fibers.length - 1))=Zau s.fibers s.fibers.length:=by
  unfold Zau
  congr 1
  funext b
  rw [Zjv]
 unfold Qt
 rw [hc,← Zjv]
 unfold Zdd
 by_cases h1:s.fibers.length≤5∧s.out.length≤30
 ·rw [if_pos h1,decide_eq_true h1,Bool.true_and]
  by_cases h2:(s.fibers.all fun b=>decide (b.frames.length≤6))=true
  ·rw [if_pos h2,if_pos h2]
   by_cases h3:0<s.fibers.length
   ·rw [if_pos h3,if_pos h3]
    cases h4:Wd s.now s.fibers.length <;> simp
   ·rw [if_neg h3,if_neg h3]
  ·rw [if_neg h2,if_neg h2]
 ·rw [if_neg h1,decide_eq_false h1]
  rfl
theorem Zis {p:List Fn} {s:St} {e:Int} (h:Qt s=e) (he:e≠0):Uq p s=e:=by
 unfold Uq;rw [h,if_neg he]
theorem Zjb {p:List Fn} {s:St} (h:Qt s=0) (hf:Pt p s=false):Uq p s=1:=by
 unfold Uq;rw [h,if_pos rfl,hf];rfl
theorem Zxw {p:List Fn} {s:St} (h:Qt s=0) (hf:Pt p s=true):Uq p s=0:=by
 unfold Uq;rw [h,if_pos rfl,hf];rfl
theorem Qo.store {w:World} {v:Value} {l:List Int} (h:Qo w v l) {B:Nat} {c:Array Value} {t:TypeId} {fr:Nat × Nat} (hb:w.heap[B]?=some (.cells c t fr)) (hc:∀ (i:Nat) z,c[i]?≠some (.int .i64 z)) (j:Nat) (u:Value):Qo (w.setCell ⟨B,j,none⟩ u) v l:=by
 obtain ⟨oa,cap,e,hn,hi⟩:=h
 refine ⟨oa,cap,e,hn,fun i z hz=>?_⟩
 obtain ⟨b,o,e1,h1⟩:=hi i z hz
 refine ⟨b,o,e1,?_⟩
 have hne:b≠B:=by
  rintro rfl
  rw [Zd hb] at h1
  exact hc _ _ h1
 rw [World.cell?_of_block (w:=w)]
 ·exact h1
 ·exact Below.heap_setCell w _ _ _ hne
def isSl:Value→Prop | .slice _ _ _=>True | _=>False
theorem Xcc (p:List Fn) (s:St) (v:Value) (i:Nat) (on:Bool) (w:World) (hj:Wj w v p s) (hl:Um p) (hbd:Zco p) (hlim:Qt s=0) (hall:(s.fibers.all fun b=>b.frames.all (Xb p))=true) (hi:i<s.fibers.length) :
  Calls Tryd.prog 56 #[v,.int .i64 i,.bool on] w fun e w'=>e=Yv 1 (Wk p s i on)∧Zb w w':=by
 obtain ⟨vF,vO,vp,vh,rfl,h1,h2,h3,h4⟩:=id hj
 obtain ⟨of,cf,rfl,hfl,hcell⟩:=id h1
 obtain ⟨bf,off,vf,rfl,k0,k1,hfr⟩:=hcell i _ (Zq s.fibers i Fb.zero hi)
 have hmem:s.fibers.getD i Fb.zero∈s.fibers:=List.mem_of_getElem? (Zq s.fibers i Fb.zero hi)
 have hf6:=(Zbj hlim).2.2.1 _ hmem
 by_cases hn:0<(s.fibers.getD i Fb.zero).frames.length
 ·cases on with
  | true=>exact Ztb p s i _ cf bf off vO vp vh _ vf w hi hj hl hbd k0 hfr rfl hn (by omega) (Zad hall hi) _ rfl
  | false=>exact Zuh p s i _ cf bf off vO vp vh _ vf w hi hj hl hbd k0 hfr rfl hn (by omega) (Zad hall hi) _ rfl
 ·obtain ⟨ofr,cfr,rfl,-,-⟩:=hfr
  have h0:(s.fibers.getD i Fb.zero).frames.length=0:=by omega
  rw [h0] at k0
  have hje:Wk p s i on=!on:=by
   unfold Wk
   rw [show (s.fibers.getD i Fb.zero).frames=[] from List.length_eq_zero_iff.1 h0]
   rfl
  rw [hje]
  exact Zzw i _ cf cfr _ ofr vO vp vh s.now bf off on w hi k0 rfl
theorem Zrm (p:List Fn) (s:St) (vp vs:Value) (w:World) (hp:Zw w vp p) (hs:Zy w vs s) (hk:Je w) (hz:Xh p=0) :
  Calls Tryd.prog 29 #[vp,vs] w fun e w'=>e=.returned (.int .i64 (Uq p s))∧Zb w w':=by
 obtain ⟨hp5,hp0,_⟩:=Zaa hz
 obtain ⟨vF,vO,rfl,h1,h2⟩:=id hs
 obtain ⟨of,cf,rfl,_,_⟩:=id h1
 obtain ⟨oo,co,rfl,_,_⟩:=id h2
 obtain ⟨op,cp,rfl,hpl,_⟩:=id hp
 have HP:=Za hp
 have HS1:=Za h1
 have HS2:=Za h2
 have HK:=Za hk
 have HZ:=Za hz
 clear hp hs h1 h2 hk hz
 generalize hn:p.length=n at *
 have HN:=Za hn
 clear hn
 generalize hR:Uq p s=R
 have HR:=Za hR
 clear hR
 have hmf:∀ (fn:Go.Fn) (first cap:Array Value) (w:World),(Instr.makeFunc fn first cap).run Tryd.prog w=.ok (.func fn first cap) w:=fun _ _ _ _=>rfl
 go_enter_defers Tryd.func29,Tryd.ntmps29
 go_wp2
 have hlen:Um p:=Zig (un HZ)
 have HLEN:=Za hlen
 have HBND:=Za (Zhm (un HZ))
 clear hlen
 generalize hfl:s.fibers.length=fl at *
 have HFL:=Za hfl
 generalize hol:s.out.length=ol at *
 generalize hw1:(w.alloc (.cells #[.slice of fl cf,.int .i64 s.now,.slice oo ol co] 26)).alloc (.cells #[.int .i64 0] 27)=w1 at *
 generalize hB:w.heap.size=B0 at *
 generalize hBE:B0+1=BE at *
 have L0:w1.heap[B0]?=some (.cells #[.slice of fl cf,.int .i64 s.now,.slice oo ol co] 26):=by rw [← hw1];exact Zr (Zg hB) _
 have L1:w1.heap[BE]?=some (.cells #[.int .i64 0] 27):=by rw [← hw1];exact Zg (by simp [hB,hBE])
 have HK1:Hid (Zb w w1):=by rw [← hw1];exact Za (((Zb.refl w).alloc _).alloc _)
 have HBE:Hid (w.heap.size≤BE):=Za (by omega)
 have x0:w1.cell? ⟨B0,0,none⟩=some (.slice of fl cf):=Zo L0 rfl
 have x1:w1.cell? ⟨B0,1,none⟩=some (.int .i64 s.now):=Zo L0 rfl
 have x2:w1.cell? ⟨B0,2,none⟩=some (.slice oo ol co):=Zo L0 rfl
 have lx:=Xo x0
 simp only at lx
 have HL1:=Za L1
 have hmk:=Xbt n (by omega)
 clear hw1 hB hBE L0 L1
 go_cut [5] from 10 to 15 (fun s5 wx=>∃ BJ BH:Nat,s5=.pointer (some ⟨BJ,0,none⟩)∧Hid (wx.heap[BJ]?=some (.cells #[.slice of fl cf,.int .i64 s.now,.slice oo ol co,.slice op n cp,.slice (some ⟨BH,0,none⟩) n n] 95))∧Hid (wx.heap[BH]?=some (.cells (Array.replicate n (Value.slice none 0 0)) 24))∧Hid (w1.heap.size≤BJ∧w1.heap.size≤BH∧BJ≠BH)∧Hid (Zb w1 wx))
 case first =>
  go_region
  all_goals go_wp2_with fail
  all_goals go_meet
  all_goals first
   | exact ⟨w1.heap.size,w1.heap.size+1,rfl,Xi (Zr (Zg rfl) _),Xi (Zg (by simp)),⟨by omega,by omega,by omega⟩,(((Zb.refl w1).alloc _).alloc _).drew⟩
   | exact ⟨w1.heap.size+1,w1.heap.size,rfl,Xi (Zg (by simp)),Xi (Zr (Zg rfl) _),⟨by omega,by omega,by omega⟩,(((Zb.refl w1).alloc _).alloc _).drew⟩
 case rest =>
  obtain ⟨BJ,BH,rfl,HJ,HH,HNE,HKx⟩:=hcut
  have hht:∀ (k:Nat) (u:World),k<n→Zb w u→Calls Tryd.prog 40 #[.slice op n cp,.int .i64 k] u fun e u'=>∃ oa cap,e=.returned (.tuple #[.slice oa (hgt p k).length cap,.int .i64 0])∧Qo u' (.slice oa (hgt p k).length cap) (hgt p k)∧Zb u u':=fun k u hk hu=>by
   have:=Zlj p (.slice op n cp) k u ((un HP).kept hu) ((un HK).kept hu)
   unfold Zgc at this
   rw [hgt_of (un HZ) (by rw [un HN];exact hk)] at this
   refine this.mono ?_
   rintro e u' ⟨v,rfl,hv,hk'⟩
   obtain ⟨oa,cap,rfl,-,-⟩:=id hv
   exact ⟨oa,cap,rfl,hv,hk'⟩
  have HHT:=Za hht
  clear hht
  go_wp2
  go_loopw [18] (fun s18 wr=>∃ (k:Nat) (vals:List Value),k≤n∧s18=.int .i64 k∧Hid (vals.length=n)∧Hid (wr.heap[BH]?=some (.cells vals.toArray 24))∧Hid (∀ (i:Nat) u,vals[i]?=some u→isSl u)∧Hid (∀ i,i<k→∃ u,vals[i]?=some u∧Qo wr u (hgt p i))∧Hid (wr.heap[BJ]?=some (.cells #[.slice of fl cf,.int .i64 s.now,.slice oo ol co,.slice op n cp,.slice (some ⟨BH,0,none⟩) n n] 95))∧Hid (Zb w1 wr)) (fun s18 _=>n - (intOf s18).toNat)
  case atStart =>
   refine ⟨0,List.replicate n (.slice none 0 0),Nat.zero_le _,rfl,Za (by simp),Za (by rw [List.toArray_replicate];exact un HH),Za ?_,Za (fun i hi=>by omega),HJ,HKx⟩
   intro i u hu
   rw [List.getElem?_replicate] at hu
   split at hu
   ·cases hu;trivial
   ·cases hu
  case round =>
   obtain ⟨k,vals,hkm,rfl,HVL,HVB,HSL,HVI,HJr,HKr⟩:=hrel
   by_cases hlt:k<n
   ·have hkv:k<vals.length:=by rw [un HVL];exact hlt
    have y4:wr.cell? ⟨BJ,4,none⟩=some (.slice (some ⟨BH,0,none⟩) n n):=Zo (un HJr) rfl
    have yk:wr.cell? ⟨BH,k,none⟩=some (vals.getD k undef):=Zo (un HVB) (by simp [List.getD,hkv])
    have zk:∀ u,Zb wr u→u.frozen? ⟨BH,k,none⟩=false:=fun u hu=>Zk (Zm hu (un HVB)) k
    have HY:Hid (∀ u,Zb wr u→u.cell? ⟨BJ,4,none⟩=some (.slice (some ⟨BH,0,none⟩) n n)∧u.cell? ⟨BH,k,none⟩=some (vals.getD k undef)∧u.frozen? ⟨BH,k,none⟩=false):=Za (fun u hu=>⟨hu.cell y4,hu.cell yk,zk u hu⟩)
    have HHK:=Za (fun (u:World) (hu:Zb wr u)=>(un HHT) k u hlt (((un HK1).trans (un HKr)).trans hu))
    have hk1:(k:Int)<(n:Int):=by omega
    have hkz:(0:Int)≤(k:Int):=by omega
    clear y4 yk zk hkv
    go_wp2_with fail
    go_region_held3 (fun u=>u.cell? ⟨BJ,4,none⟩=some (.slice (some ⟨BH,0,none⟩) n n))
     (first | exact Zqe ((un HY) _ (Zb.trans (by repeat (first | exact Zb.refl _ | refine Zb.drew ?_ | refine Zb.alloc ?_ _)) hkA)).1 (un HNE).2.2 _ | exact ((un HY) _ (Zb.trans (Zb.trans (by repeat (first | exact Zb.refl _ | refine Zb.drew ?_ | refine Zb.alloc ?_ _)) hkA) (by repeat (first | exact Zb.refl _ | refine Zb.drew ?_ | refine Zb.alloc ?_ _)))).1 | exact ((un HY) _ (by repeat (first | exact Zb.refl _ | refine Zb.drew ?_ | refine Zb.alloc ?_ _))).1)
     (first | (go_at_call 40;refine ((un HHK) _ (by repeat (first | exact Zb.refl _ | refine Zb.drew ?_ | refine Zb.alloc ?_ _))).mono ?_;rintro e wA ⟨oa,cap,rfl,hvA,hkA⟩;obtain ⟨-,hyk,hzk⟩:=(un HY) _ (Zb.trans (by repeat (first | exact Zb.refl _ | refine Zb.drew ?_ | refine Zb.alloc ?_ _)) hkA);have HVA:=Za hvA;clear hvA))
    all_goals go_wp2_with fail
    have hkA2:Zb wr wA:=Zb.trans (by repeat (first | exact Zb.refl _ | refine Zb.drew ?_ | refine Zb.alloc ?_ _)) hkA
    have hLA:=Zm hkA2 (un HVB)
    have hno:∀ (i:Nat) z,vals.toArray[i]?≠some (.int .i64 z):=fun i z h=>by
     have:=(un HSL) i _ (by simpa using h)
     exact this
    go_roundw
    case rel =>
     refine ⟨k+1,vals.set k (.slice oa (hgt p k).length cap),by omega,by go_num,Za (by rw [List.length_set];exact un HVL),Za (by rw [← List.setIfInBounds_toArray];exact Zl hLA k _),Za ?_,Za ?_,Za ?_,Za (((un HKr).trans hkA2).setCell (p:=⟨BH,k,none⟩) (un HNE).2.1 _)⟩
     ·intro i u hu
      rw [List.getElem?_set] at hu
      split at hu
      ·split at hu
       ·cases hu;trivial
       ·cases hu
      ·exact (un HSL) i u hu
     ·intro i hi
      by_cases e:i=k
      ·subst e
       exact ⟨_,by rw [List.getElem?_set,if_pos rfl,if_pos (by rw [un HVL];exact hlt)],(un HVA).store hLA hno _ _⟩
      ·obtain ⟨u,h1,h2⟩:=(un HVI) i (by omega)
       exact ⟨u,by rw [List.getElem?_set,if_neg (fun h=>e h.symm)];exact h1,(h2.kept hkA2).store hLA hno k _⟩
     ·rw [Below.heap_setCell _ _ _ _ (un HNE).2.2]
      exact Zm hkA2 (un HJr)
    case measure=>simp [intOf];omega
   ·have hjv:Hid (Wj wr (.agg #[.slice of fl cf,.int .i64 s.now,.slice oo ol co,.slice op n cp,.slice (some ⟨BH,0,none⟩) n n]) p s):=Za (by
     have hkw:=(un HK1).trans (un HKr)
     refine ⟨_,_,_,_,rfl,(un HS1).kept hkw,(un HS2).kept hkw,(un HP).kept hkw,BH,0,n,by rw [un HN],fun k hk=>?_⟩
     rw [un HN] at hk
     obtain ⟨u,h1,h2⟩:=(un HVI) k (by omega)
     exact ⟨u,by rw [Nat.zero_add];exact Zo (un HVB) (by simpa using h1),h2⟩)
    have HKw:=Za ((un HK1).trans (un HKr))
    have hLE:=Zm (un HKr) (un HL1)
    have HLE:=Za hLE
    have HYJ:Hid (∀ u,Zb wr u→u.cell? ⟨BJ,0,none⟩=some (.slice of fl cf)∧u.cell? ⟨BJ,1,none⟩=some (.int .i64 s.now)∧u.cell? ⟨BJ,2,none⟩=some (.slice oo ol co)∧u.cell? ⟨BJ,3,none⟩=some (.slice op n cp)∧u.cell? ⟨BJ,4,none⟩=some (.slice (some ⟨BH,0,none⟩) n n)):=Za (fun u hu=>⟨hu.cell (Zo (un HJr) rfl),hu.cell (Zo (un HJr) rfl),hu.cell (Zo (un HJr) rfl),hu.cell (Zo (un HJr) rfl),hu.cell (Zo (un HJr) rfl)⟩)
    clear hLE HVL HVB HSL HVI HJr HHT HJ HH HNE HKx
    obtain ⟨y0,y1,y2,y3,y4⟩:=(un HYJ) wr (Zb.refl _)
    have hdn:decide ((k:Int)<(n:Int))=false:=decide_eq_false (by omega)
    by_cases b1:(decide (s.fibers.length≤5∧s.out.length≤30) && Zdd s.fibers)=true
    ·have hal:=Zka p s _ wr (un hjv) true b1
     have HAL:=Za hal
     clear hal
     have hf5:s.fibers.length≤5:=by
      simp only [Bool.and_eq_true,decide_eq_true_eq] at b1;exact b1.1.1
     have B1:=Za b1
     clear b1
     go_wp2_with fail
     refine (un HAL).mono ?_
     rintro e w2 ⟨rfl,hk2⟩
     simp only [Yv,if_true]
     obtain ⟨z0,z1,z2,z3,z4⟩:=(un HYJ) _ (hk2)
     have han:=Zxu p s _ w2 ((un hjv).kept hk2) (by omega)
     by_cases b2:0<s.fibers.length
     ·by_cases b3:(Wd s.now s.fibers.length && Zau s.fibers s.fibers.length)=true
      ·have hlim:Qt s=0:=by rw [Zfc,un B1,if_pos rfl,if_pos b2,b3];rfl
       have HLIM:=Za hlim
       unfold Zck at han
       rw [if_pos b2,b3] at han
       have HAN:=Za han
       clear han hlim b3 y0 y1 y2 y3 y4 HAL
       go_wp2_with fail
       refine (un HAN).mono ?_
       rintro e w3 ⟨rfl,hk3⟩
       simp only [Yv,if_true]
       clear z0 z1 z2 z3 z4 HAN
       obtain ⟨z0,z1,z2,z3,z4⟩:=(un HYJ) _ (hk2.trans hk3)
       by_cases b4:(s.fibers.all fun b=>b.frames.all (Xb p))=true
       ·have haf:=Zkd p s _ w3 ((un hjv).kept (hk2.trans hk3)) (un HLEN) true b4
        have HAF:=Za haf
        have B4:=Za b4
        clear haf b4
        go_wp2_with fail
        refine (un HAF).mono ?_
        rintro e w4 ⟨rfl,hk4⟩
        simp only [Yv,if_true]
        clear z0 z1 z2 z3 z4 HAF
        obtain ⟨z0,z1,z2,z3,z4⟩:=(un HYJ) _ ((hk2.trans hk3).trans hk4)
        have hln:=Zyx p s _ w4 ((un hjv).kept ((hk2.trans hk3).trans hk4)) (un HLIM)
        unfold Zld at hln
        cases hjl:Ug s with
        | none =>
         rw [hjl] at hln
         have HLN:=Za hln
         have hres:R=1:=by
          rw [← un HR];exact Zjb (un HLIM) (by unfold Pt;rw [hjl];simp)
         subst hres
         clear hln hjl
         go_wp2_with fail
         refine (un HLN).mono ?_
         rintro e w5 ⟨hk5,rfl⟩
         dsimp only [left]
         go_wp2_with fail
         refine leaves_cons (f:=51) (args:=#[.pointer (some ⟨BE,0,none⟩)]) (by simp) (by simp [go_sem]) ?_
         refine (Zcx BE 0 1 [] _ (Zm (((hk2.trans hk3).trans hk4).trans hk5) (un HLE))).mono ?_
         rintro e u' w'' ⟨rfl,rfl,rfl⟩
         have hcE:World.cell? _ ⟨BE,0,none⟩=some (Value.int .i64 1):=Zo (Zl (Zm (((hk2.trans hk3).trans hk4).trans hk5) (un HLE)) 0 (.int .i64 1)) rfl
         simp [Leaves,settle,results,Tryd.results29,go_sem]
         exact ⟨_,by rw [hcE],rfl,((un HKw).trans (((hk2.trans hk3).trans hk4).trans hk5)).setCell (p:=⟨BE,0,none⟩) (un HBE) _⟩
        | some B =>
         rw [hjl] at hln
         simp only [un HFL] at hln
         have HLN:=Za hln
         have HJL:=Za hjl
         clear hln hjl
         go_wp2_with fail
         refine (un HLN).mono ?_
         rintro e w5 ⟨hk5,g,rfl,hBL,hLB⟩
         have HK5:=Za (((hk2.trans hk3).trans hk4).trans hk5)
         have HBL:=Za hBL
         have HLB:=Za hLB
         clear z0 z1 z2 z3 z4 hk2 hk3 hk4 hk5 hBL hLB HLN
         obtain ⟨z0,z1,z2,z3,z4⟩:=(un HYJ) _ (un HK5)
         go_wp2
         go_loopw [44] (fun s44 wr=>∃ q:Nat,q≤fl∧s44=.int .i64 q∧Hid (∀ i,i<q→Wk p s i (B.getD i false)=true)∧Hid (Zb w5 wr)) (fun s44 _=>fl - (intOf s44).toNat)
         case atStart=>exact ⟨0,Nat.zero_le _,rfl,(fun i hi=>by omega),Zb.refl _⟩
         case round =>
          obtain ⟨q,hqm,rfl,HQ,HKq⟩:=hrel
          have hk5:=(un HK5).trans (un HKq)
          have HK6:=Za hk5
          by_cases hlt2:q<fl
          ·have hcg:∀ u,Zb wr u→u.cell? ⟨g,q,none⟩=some (.bool (B.getD q false)):=fun u hu=>Zo (Zm ((un HKq).trans hu) (un HLB)) (Zjc (by rw [un HBL];exact hlt2))
           have hask:=fun (u:World) (hu:Zb wr u)=>Xcc p s _ q (B.getD q false) u ((un hjv).kept (hk5.trans hu)) (un HLEN) (un HBND) (un HLIM) (un B4) (by rw [un HFL];exact hlt2)
           generalize hbq:B.getD q false=bq at *
           have HBQ:=Za hbq
           have HY15:Hid (∀ u,Zb wr u→u.cell? ⟨BJ,0,none⟩=some (.slice of fl cf)∧u.cell? ⟨BJ,1,none⟩=some (.int .i64 s.now)∧u.cell? ⟨BJ,2,none⟩=some (.slice oo ol co)∧u.cell? ⟨BJ,3,none⟩=some (.slice op n cp)∧u.cell? ⟨BJ,4,none⟩=some (.slice (some ⟨BH,0,none⟩) n n)∧u.cell? ⟨g,q,none⟩=some (.bool bq)):=Za (fun u hu=>by
            obtain ⟨z0,z1,z2,z3,z4⟩:=(un HYJ) u (hk5.trans hu)
            exact ⟨z0,z1,z2,z3,z4,hcg u hu⟩)
           have hq1:(q:Int)<(fl:Int):=by omega
           have hqz:(0:Int)≤(q:Int):=by omega
           clear hcg hbq hk5 z0 z1 z2 z3 z4
           by_cases hfb:Wk p s q bq=true
           ·have HASK:Hid (∀ u,Zb wr u→Calls Tryd.prog 56 #[.agg #[.slice of fl cf,.int .i64 s.now,.slice oo ol co,.slice op n cp,.slice (some ⟨BH,0,none⟩) n n],.int .i64 q,.bool bq] u fun e w'=>e=.returned (.tuple #[])∧Zb u w'):=Za (fun u hu=>by have:=hask u hu;rw [hfb] at this;exact this)
            have HFB:=Za hfb
            clear hask hfb
            go_wp2_with fail
            go_region_held3 (fun u=>u.cell? ⟨BJ,0,none⟩=some (.slice of fl cf)∧u.cell? ⟨BJ,1,none⟩=some (.int .i64 s.now)∧u.cell? ⟨BJ,2,none⟩=some (.slice oo ol co)∧u.cell? ⟨BJ,3,none⟩=some (.slice op n cp)∧u.cell? ⟨BJ,4,none⟩=some (.slice (some ⟨BH,0,none⟩) n n)∧u.cell? ⟨g,q,none⟩=some (.bool bq))
             (first | exact (un HY15) _ (Zb.trans (Zb.trans (by repeat (first | exact Zb.refl _ | refine Zb.drew ?_ | refine Zb.alloc ?_ _)) hkA) (by repeat (first | exact Zb.refl _ | refine Zb.drew ?_ | refine Zb.alloc ?_ _))) | exact (un HY15) _ (by repeat (first | exact Zb.refl _ | refine Zb.drew ?_ | refine Zb.alloc ?_ _)))
             (first | (go_at_call 56;refine ((un HASK) _ (by repeat (first | exact Zb.refl _ | refine Zb.drew ?_ | refine Zb.alloc ?_ _))).mono ?_;rintro e wA ⟨rfl,hkA⟩))
            all_goals go_wp2_with fail
            go_roundw
            case rel =>
             refine ⟨q+1,by omega,by go_num,?_,Za (Zb.trans (un HKq) (Zb.trans (by repeat (first | exact Zb.refl _ | refine Zb.drew ?_ | refine Zb.alloc ?_ _)) hkA))⟩
             intro i hi
             by_cases e:i=q
             ·subst e;rw [un HBQ];exact un HFB
             ·exact (un HQ) i (by omega)
            case measure=>simp [intOf];omega
           ·have hff:Wk p s q bq=false:=by simpa using hfb
            have HASK:Hid (∀ u,Zb wr u→Calls Tryd.prog 56 #[.agg #[.slice of fl cf,.int .i64 s.now,.slice oo ol co,.slice op n cp,.slice (some ⟨BH,0,none⟩) n n],.int .i64 q,.bool bq] u fun e w'=>e=left 1∧Zb u w'):=Za (fun u hu=>by have:=hask u hu;rw [hff] at this;exact this)
            have hres:R=1:=by
             rw [← un HR]
             refine Zjb (un HLIM) ?_
             unfold Pt
             rw [un B4,un HJL,Bool.true_and]
             rw [Bool.eq_false_iff]
             intro h
             have:=Uc.1 h q (by rw [un HFL];exact hlt2)
             rw [un HBQ,hff] at this
             cases this
            subst hres
            clear hask hfb hff
            go_wp2_with fail
            obtain ⟨z0,z1,z2,z3,z4,z5⟩:=(un HY15) wr (Zb.refl _)
            go_still_tail 6,(by kernel_rfl)
            go_wp2_with (go_at_call 56;refine ((un HASK) _ (Zb.refl wr).drew).mono ?_;rintro e wA ⟨rfl,hkA⟩;dsimp only [left])
            have hkA2:Zb wr wA:=((Zb.refl wr).drew).trans hkA
            refine leaves_cons (f:=51) (args:=#[.pointer (some ⟨BE,0,none⟩)]) (by simp) (by simp [go_sem]) ?_
            refine (Zcx BE 0 1 [] _ (Zm ((un HK6).trans hkA2) (un HLE))).mono ?_
            rintro e u' w'' ⟨rfl,rfl,rfl⟩
            have hcE:World.cell? _ ⟨BE,0,none⟩=some (Value.int .i64 1):=Zo (Zl (Zm ((un HK6).trans hkA2) (un HLE)) 0 (.int .i64 1)) rfl
            simp [Leaves,settle,results,Tryd.results29,go_sem]
            exact ⟨_,by rw [hcE],rfl,((un HKw).trans ((un HK6).trans hkA2)).setCell (p:=⟨BE,0,none⟩) (un HBE) _⟩
          ·have hres:R=0:=by
            rw [← un HR]
            refine Zxw (un HLIM) ?_
            unfold Pt
            rw [un B4,un HJL,Bool.true_and]
            exact Uc.2 (fun i hi=>(un HQ) i (by have:=un HFL;omega))
           subst hres
           have hLE2:=Zm hk5 (un HLE)
           have e0:wr.cell? ⟨BE,0,none⟩=some (.int .i64 0):=Zo hLE2 rfl
           have e1:=Zk hLE2 0
           have HLE2:=Za hLE2
           clear hLE2 z0 z1 z2 z3 z4
           go_wp2
           refine leaves_cons (f:=51) (args:=#[.pointer (some ⟨BE,0,none⟩)]) (by simp) (by simp [go_sem]) ?_
           refine (Zsh BE _).mono ?_
           rintro e u' w'' ⟨rfl,rfl,rfl⟩
           have hcE:World.cell? _ ⟨BE,0,none⟩=some (Value.int .i64 0):=Zo (Zl (un HLE2) 0 (.int .i64 0)) rfl
           simp [Leaves,settle,results,Tryd.results29,go_sem]
           exact ⟨_,by rw [hcE],rfl,((un HKw).trans (un HK6)).setCell (p:=⟨BE,0,none⟩) (un HBE) _⟩
       ·have b4f:(s.fibers.all fun b=>b.frames.all (Xb p))=false:=by simpa using b4
        have haf:=Zkd p s _ w3 ((un hjv).kept (hk2.trans hk3)) (un HLEN) false b4f
        have HAF:=Za haf
        have hres:R=1:=by
         rw [← un HR];exact Zjb (un HLIM) (by unfold Pt;rw [b4f];rfl)
        subst hres
        clear haf b4 b4f
        go_wp2_with fail
        refine (un HAF).mono ?_
        rintro e w4 ⟨rfl,hk4⟩
        dsimp only [Yv,left]
        go_wp2_with fail
        refine leaves_cons (f:=51) (args:=#[.pointer (some ⟨BE,0,none⟩)]) (by simp) (by simp [go_sem]) ?_
        refine (Zcx BE 0 1 [] _ (Zm ((hk2.trans hk3).trans hk4) (un HLE))).mono ?_
        rintro e u' w'' ⟨rfl,rfl,rfl⟩
        have hcE:World.cell? _ ⟨BE,0,none⟩=some (Value.int .i64 1):=Zo (Zl (Zm ((hk2.trans hk3).trans hk4) (un HLE)) 0 (.int .i64 1)) rfl
        simp [Leaves,settle,results,Tryd.results29,go_sem]
        exact ⟨_,by rw [hcE],rfl,((un HKw).trans ((hk2.trans hk3).trans hk4)).setCell (p:=⟨BE,0,none⟩) (un HBE) _⟩
      ·have b3f:(Wd s.now s.fibers.length && Zau s.fibers s.fibers.length)=false:=by simpa using b3
       have hres:R=3:=by
        rw [← un HR];exact Zis (by rw [Zfc,un B1,if_pos rfl,if_pos b2,b3f];rfl) (by decide)
       subst hres
       unfold Zck at han
       rw [if_pos b2,b3f] at han
       have HAN:=Za han
       clear han b3 b3f y0 y1 y2 y3 y4 HAL
       go_wp2_with fail
       refine (un HAN).mono ?_
       rintro e w3 ⟨rfl,hk3⟩
       dsimp only [Yv,left]
       go_wp2_with fail
       refine leaves_cons (f:=51) (args:=#[.pointer (some ⟨BE,0,none⟩)]) (by simp) (by simp [go_sem]) ?_
       refine (Zcx BE 0 3 [] _ (Zm (hk2.trans hk3) (un HLE))).mono ?_
       rintro e u' w'' ⟨rfl,rfl,rfl⟩
       have hcE:World.cell? _ ⟨BE,0,none⟩=some (Value.int .i64 3):=Zo (Zl (Zm (hk2.trans hk3) (un HLE)) 0 (.int .i64 3)) rfl
       simp [Leaves,settle,results,Tryd.results29,go_sem]
       exact ⟨_,by rw [hcE],rfl,((un HKw).trans (hk2.trans hk3)).setCell (p:=⟨BE,0,none⟩) (un HBE) _⟩
     ·have hres:R=5:=by
       rw [← un HR];exact Zis (by rw [Zfc,un B1,if_pos rfl,if_neg b2]) (by decide)
      subst hres
      unfold Zck at han
      rw [if_neg b2] at han
      have HAN:=Za han
      clear han y0 y1 y2 y3 y4 HAL
      go_wp2_with fail
      refine (un HAN).mono ?_
      rintro e w3 ⟨rfl,hk3⟩
      dsimp only [left]
      go_wp2_with fail
      refine leaves_cons (f:=51) (args:=#[.pointer (some ⟨BE,0,none⟩)]) (by simp) (by simp [go_sem]) ?_
      refine (Zcx BE 0 5 [] _ (Zm (hk2.trans hk3) (un HLE))).mono ?_
      rintro e u' w'' ⟨rfl,rfl,rfl⟩
      have hcE:World.cell? _ ⟨BE,0,none⟩=some (Value.int .i64 5):=Zo (Zl (Zm (hk2.trans hk3) (un HLE)) 0 (.int .i64 5)) rfl
      simp [Leaves,settle,results,Tryd.results29,go_sem]
      exact ⟨_,by rw [hcE],rfl,((un HKw).trans (hk2.trans hk3)).setCell (p:=⟨BE,0,none⟩) (un HBE) _⟩
    ·have b1f:(decide (s.fibers.length≤5∧s.out.length≤30) && Zdd s.fibers)=false:=by simpa using b1
     have hal:=Zka p s _ wr (un hjv) false b1f
     have HAL:=Za hal
     have hres:R=2:=by rw [← un HR];exact Zis (by rw [Zfc,b1f];rfl) (by decide)
     subst hres
     clear hal b1 b1f
     go_wp2_with (go_at_call 52;refine (un HAL).mono ?_;rintro e w2 ⟨rfl,hk2⟩;dsimp only [Yv,left])
     refine leaves_cons (f:=51) (args:=#[.pointer (some ⟨BE,0,none⟩)]) (by simp) (by simp [go_sem]) ?_
     refine (Zcx BE 0 2 [] _ (Zm (hk2) (un HLE))).mono ?_
     rintro e u' w'' ⟨rfl,rfl,rfl⟩
     have hcE:World.cell? _ ⟨BE,0,none⟩=some (Value.int .i64 2):=Zo (Zl (Zm (hk2) (un HLE)) 0 (.int .i64 2)) rfl
     simp [Leaves,settle,results,Tryd.results29,go_sem]
     exact ⟨_,by rw [hcE],rfl,((un HKw).trans (hk2)).setCell (p:=⟨BE,0,none⟩) (un HBE) _⟩
def Zcq (p:List Fn) (s:St):Int:=if Xh p=0 then Uq p s else Xh p
theorem Xbb (p:List Fn) (s:St):Zcq p s=Xa p s:=by
 unfold Zcq Xa
 by_cases h:Xh p=0
 ·rw [if_pos h,if_pos h,Zse (Zoy h)]
 ·rw [if_neg h,if_neg h]
theorem Zfs (p:List Fn) (s:St) (vp vs:Value) (w:World) (hp:Zw w vp p) (hs:Zy w vs s) (hk:Je w) :
  Calls Tryd.prog 13 #[vp,vs] w fun e w'=>e=.returned (.int .i64 (Xa p s))∧Zb w w':=by
 rw [← Xbb]
 have hc:∀ u,Zb w u→Calls Tryd.prog 20 #[vp] u fun e w'=>e=.returned (.int .i64 (Xh p))∧Zb u w':=fun u hu=>Zga p vp u (hp.kept hu) (hk.kept hu)
 obtain ⟨vF,vO,rfl,h1,h2⟩:=id hs
 obtain ⟨of,cf,rfl,-,-⟩:=h1
 obtain ⟨oo,co,rfl,-,-⟩:=h2
 by_cases hz:Xh p=0
 ·have hr:Zcq p s=Uq p s:=by unfold Zcq;rw [if_pos hz]
  rw [hr]
  rw [hz] at hc
  have HC:=Za hc
  have HJ:=Za (fun (u:World) (hu:Zb w u)=>Zrm p s vp _ u (hp.kept hu) (hs.kept hu) (hk.kept hu) hz)
  clear hc hr hp hs hk hz
  go_enter Tryd.func13,Tryd.ntmps13
  go_wp2_with fail
  refine ((un HC) _ ((Zb.refl w).alloc _)).mono ?_
  rintro e w1 ⟨rfl,hk1⟩
  have x0:=hk1.cell (show (w.alloc (.cells #[.slice of s.fibers.length cf,.int .i64 s.now,.slice oo s.out.length co] 26)).cell? ⟨w.heap.size,0,none⟩=some (.slice of s.fibers.length cf) by simp)
  have x1:=hk1.cell (show (w.alloc (.cells #[.slice of s.fibers.length cf,.int .i64 s.now,.slice oo s.out.length co] 26)).cell? ⟨w.heap.size,1,none⟩=some (.int .i64 s.now) by simp)
  have x2:=hk1.cell (show (w.alloc (.cells #[.slice of s.fibers.length cf,.int .i64 s.now,.slice oo s.out.length co] 26)).cell? ⟨w.heap.size,2,none⟩=some (.slice oo s.out.length co) by simp)
  have HK1:=Za (((Zb.refl w).alloc _).trans hk1)
  clear hk1
  go_wp2_with fail
  refine ((un HJ) _ (un HK1)).mono ?_
  rintro e w2 ⟨rfl,hk2⟩
  go_wp2_with fail
  go_ret
  exact ⟨rfl,(un HK1).trans hk2⟩
 ·have hr:Zcq p s=Xh p:=by unfold Zcq;rw [if_neg hz]
  rw [hr]
  have hzb:(Xh p != 0)=true:=by rw [bne_iff_ne];exact hz
  have HC:=Za hc
  generalize Xh p=r at *
  clear hc hr hp hs hk hz
  go_enter Tryd.func13,Tryd.ntmps13
  go_wp2_with fail
  refine ((un HC) _ ((Zb.refl w).alloc _)).mono ?_
  rintro e w1 ⟨rfl,hk1⟩
  go_wp2
  go_ret
  exact ⟨rfl,((Zb.refl w).alloc _).trans hk1⟩
end Go.Proofs.YtblihfpigjiahaaDoor
