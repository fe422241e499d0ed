/- StateP, EngG, EngH, EngI, OwnJ, Takes -/
import Derived.Test.YtblihfpigjiahaaGreatDoorYB16
import Derived.Test.YtblihfpigjiahaaGreatDoorYB01
import Derived.Deep.RegionHeld3
import Derived.Defers
import Derived.Recover
import Derived.Test.YtblihfpigjiahaaGreatDoorYB15
import Derived.Test.YtblihfpigjiahaaGreatDoorChecked
set_option maxRecDepth 100000
set_option maxHeartbeats 8000000
namespace Go.Proofs.YtblihfpigjiahaaGreatDoor
open Go.RowKit
def left (e:Int):Ending:=.panicked [{ v:=.iface 27 (.int .i64 e),recovered:=false }]
def Zgp (w:World) (b o:Nat) (l:List Bool):Prop:=∀ i z,l[i]?=some z→w.cell? ⟨b,o+i,none⟩=some (.bool z)
theorem Znt (e:Int) (l:List Bool) (b o n cap:Nat) (w:World) (hn:n=l.length) (hl:l.length≤1000) (hf:Zgp w b o l) (ha:∀ z,z∈l→z=true) :
  Calls Tryz.prog 112 #[.int .i64 e,.slice (some ⟨b,o,none⟩) n cap] w fun en w'=>en=.returned (.tuple #[])∧w=w':=by
 subst hn
 have HF:=Zb hf
 have HA:=Zb ha
 clear hf ha
 go_enter Tryz.func112,Tryz.ntmps112
 go_wp2
 go_loopw [8] (fun s8 wr=>∃ k:Nat,k≤l.length∧s8=.int .i64 k∧Hid (w=wr)) (fun s8 _=>l.length - (intOf s8).toNat)
 case atStart=>exact ⟨0,Nat.zero_le _,rfl,rfl⟩
 case round =>
  obtain ⟨k,hkm,rfl,HW⟩:=hrel
  have hw:=un HW
  subst hw
  clear HW
  by_cases hlt:k<l.length
  ·have hc:=(un HF) k _ (Zs l k false hlt)
   have ht:l.getD k false=true:=(un HA) _ (List.mem_of_getElem? (Zs l k false hlt))
   rw [ht] at hc
   clear ht
   go_wp2
   go_roundw
   case rel=>exact ⟨k+1,by omega,by go_num,trivial⟩
   case measure=>simp [intOf];omega
  ·go_wp2
   go_end0
   exact ⟨rfl,rfl⟩
theorem Zha (e:Int) (l:List Bool) (b o n cap:Nat) (w:World) (hn:n=l.length) (hl:l.length≤1000) (hf:Zgp w b o l) (ha:∃ z,z∈l∧z=false) :
  Calls Tryz.prog 112 #[.int .i64 e,.slice (some ⟨b,o,none⟩) n cap] w fun en w'=>en=left e∧w=w':=by
 subst hn
 have HF:=Zb hf
 have HA:=Zb ha
 clear hf ha
 go_enter Tryz.func112,Tryz.ntmps112
 go_wp2
 go_loopw [8] (fun s8 wr=>∃ k:Nat,k≤l.length∧s8=.int .i64 k∧Hid (∀ i,i<k→l.getD i false=true)∧Hid (w=wr)) (fun s8 _=>l.length - (intOf s8).toNat)
 case atStart=>exact ⟨0,Nat.zero_le _,rfl,(fun i hi=>by omega),rfl⟩
 case round =>
  obtain ⟨k,hkm,rfl,HT,HW⟩:=hrel
  have hw:=un HW
  subst hw
  clear HW
  by_cases hlt:k<l.length
  ·have hc:=(un HF) k _ (Zs l k false hlt)
   by_cases ht:l.getD k false=true
   ·rw [ht] at hc
    have HT2:=Zb ht
    clear ht
    go_wp2
    go_roundw
    case rel =>
     refine ⟨k+1,by omega,by go_num,?_,trivial⟩
     intro i hi
     by_cases e:i=k
     ·subst e;exact un HT2
     ·exact (un HT) i (by omega)
    case measure=>simp [intOf];omega
   ·have ht':l.getD k false=false:=by simpa using ht
    rw [ht'] at hc
    clear ht ht'
    go_wp2
    first | exact ⟨rfl,rfl⟩ | (refine bodyPost_panic ?_;exact ⟨rfl,rfl⟩) | (simp [bodyPost,left];done)
  ·obtain ⟨z,hz,hzf⟩:=un HA
   obtain ⟨i,hi,rfl⟩:=List.getElem_of_mem hz
   have:=(un HT) i (by omega)
   simp [List.getD,hi] at this
   rw [this] at hzf
   cases hzf
theorem Zkt {w:World} {b:Nat} {z:Bool} (h:w.cell? ⟨b,0,none⟩=some (.bool z)):Zgp w b 0 [z]:=fun i y hy=>by
 cases i with
 | zero=>simp at hy;subst hy;exact h
 | succ i=>simp at hy
theorem Zis {w:World} {b:Nat} {z y:Bool} (h:w.cell? ⟨b,0,none⟩=some (.bool z)) (h':w.cell? ⟨b,1,none⟩=some (.bool y)):Zgp w b 0 [z,y]:=fun i u hu=>by
 match i,hu with
 | 0,hu=>simp at hu;subst hu;exact h
 | 1,hu=>simp at hu;subst hu;exact h'
theorem Wo (e:Int) (b cap:Nat) (w:World) (h:w.cell? ⟨b,0,none⟩=some (.bool true)) :
  Calls Tryz.prog 112 #[.int .i64 e,.slice (some ⟨b,0,none⟩) 1 cap] w fun en w'=>en=.returned (.tuple #[])∧w=w' :=
 Znt e [true] b 0 1 cap w rfl (by decide) (Zkt h) (by simp)
theorem Uq (e:Int) (b cap:Nat) (w:World) (h:w.cell? ⟨b,0,none⟩=some (.bool false)) :
  Calls Tryz.prog 112 #[.int .i64 e,.slice (some ⟨b,0,none⟩) 1 cap] w fun en w'=>en=left e∧w=w' :=
 Zha e [false] b 0 1 cap w rfl (by decide) (Zkt h) ⟨false,by simp,rfl⟩
theorem Zft (e:Int) (b cap:Nat) (w:World) (h:w.cell? ⟨b,0,none⟩=some (.bool true)) (h':w.cell? ⟨b,1,none⟩=some (.bool true)) :
  Calls Tryz.prog 112 #[.int .i64 e,.slice (some ⟨b,0,none⟩) 2 cap] w fun en w'=>en=.returned (.tuple #[])∧w=w' :=
 Znt e [true,true] b 0 2 cap w rfl (by decide) (Zis h h') (by simp)
theorem Zcc (e:Int) (b cap:Nat) (y:Bool) (w:World) (h:w.cell? ⟨b,0,none⟩=some (.bool false)) (h':w.cell? ⟨b,1,none⟩=some (.bool y)) :
  Calls Tryz.prog 112 #[.int .i64 e,.slice (some ⟨b,0,none⟩) 2 cap] w fun en w'=>en=left e∧w=w' :=
 Zha e [false,y] b 0 2 cap w rfl (by simp) (Zis h h') ⟨false,by simp,rfl⟩
theorem Zfp (e:Int) (b cap:Nat) (y:Bool) (w:World) (h:w.cell? ⟨b,0,none⟩=some (.bool y)) (h':w.cell? ⟨b,1,none⟩=some (.bool false)) :
  Calls Tryz.prog 112 #[.int .i64 e,.slice (some ⟨b,0,none⟩) 2 cap] w fun en w'=>en=left e∧w=w' :=
 Zha e [y,false] b 0 2 cap w rfl (by simp) (Zis h h') ⟨false,by simp,rfl⟩
def Yt (e:Int) (ok:Bool):Ending:=if ok=true then .returned (.tuple #[]) else left e
theorem Zcf (i n:Int) (w:World):Calls Tryz.prog 114 #[.int .i64 i,.int .i64 n] w fun e w'=>e=.returned (.bool (ixB i n))∧w=w':=by
 by_cases h1:0≤i
 ·by_cases h2:i<n
  ·rw [Jp h1 h2]
   go_enter Tryz.func114,Tryz.ntmps114
   go_wp2
   go_ret
   exact ⟨rfl,rfl⟩
  ·rw [Uh (fun h=>h2 h.2)]
   have hd:decide (i<n)=false:=decide_eq_false h2
   go_enter Tryz.func114,Tryz.ntmps114
   go_wp2
   go_ret
   exact ⟨by rw [← hd];rfl,rfl⟩
 ·rw [Uh (fun h=>h1 h.1)]
  have hd:decide (0≤i)=false:=decide_eq_false h1
  go_enter Tryz.func114,Tryz.ntmps114
  go_wp2
  go_ret
  exact ⟨rfl,rfl⟩
def Zff (w:World) (v:Value) (p:List Fn):Prop :=
 ∃ b o cap,v=.slice (some ⟨b,o,none⟩) p.length cap∧∀ k,k<p.length→∃ u,w.cell? ⟨b,o+k,none⟩=some u∧Qk w u (hgt p k)
theorem Zff.kept {w w':World} (h:Za w w') {v:Value} {p:List Fn} (hv:Zff w v p):Zff w' v p:=by
 obtain ⟨b,o,cap,e,hi⟩:=hv
 refine ⟨b,o,cap,e,fun k hk=>?_⟩
 obtain ⟨u,h1,h2⟩:=hi k hk
 exact ⟨u,h.cell h1,h2.kept h⟩
def Wf (w:World) (v:Value) (p:List Fn) (s:St):Prop :=
 ∃ vF vO vp vh,v=.agg #[vF,.int .i64 s.now,vO,vp,vh]∧We w vF s.fibers∧Xj w vO s.out∧Xa w vp p∧Zff w vh p
theorem Wf.kept {w w':World} (h:Za w w') {v:Value} {p:List Fn} {s:St} (hv:Wf w v p s):Wf w' v p s:=by
 obtain ⟨vF,vO,vp,vh,e,h1,h2,h3,h4⟩:=hv
 exact ⟨vF,vO,vp,vh,e,h1.kept h,h2.kept h,h3.kept h,h4.kept h⟩
def Wi (n:Int) (len:Nat):Bool:=decide (n=-1) || ixB n len
theorem Zkh (n:Int) (len:Nat):Wi n len=inB n (-1) ((len:Int) - 1):=by
 rw [Bool.eq_iff_iff,Zaq]
 simp only [Wi,Bool.or_eq_true,decide_eq_true_eq,Jm]
 omega
theorem Zty (p:List Fn) (s:St) (v:Value) (n:Int) (w:World) (hj:Wf w v p s) :
  Calls Tryz.prog 113 #[v,.int .i64 n] w fun e w'=>e=.returned (.bool (Wi n s.fibers.length))∧Za w w':=by
 obtain ⟨vF,vO,vp,vh,rfl,h1,_,_,_⟩:=hj
 obtain ⟨oa,cap,rfl,hlen,_⟩:=h1
 unfold Wi
 generalize s.fibers.length=m at *
 by_cases hn:n=-1
 ·subst hn
  go_enter Tryz.func113,Tryz.ntmps113
  go_wp2
  go_ret
  exact ⟨rfl,(Za.refl w).alloc _⟩
 ·have hb:(n == -1)=false:=by rw [beq_eq_false_iff_ne];exact hn
  rw [decide_eq_false hn,Bool.false_or]
  clear hn
  go_enter Tryz.func113,Tryz.ntmps113
  go_wp2_with (go_at_call 114;refine (Zcf _ _ _).mono ?_;rintro e w' ⟨rfl,rfl⟩)
  go_ret
  exact ⟨rfl,(Za.refl w).alloc _⟩
theorem Zfh (p:List Fn) (s:St) (v u:Value) (x:Fr) (w:World) (hj:Wf w v p s) (hx:FrV w u x) (hl:Uu p) (hin:Yd p x) :
  Calls Tryz.prog 115 #[v,u] w fun e w'=>e=.returned (.int .i64 (hAt p x))∧Za w w':=by
 obtain ⟨vF,vO,vp,vh,rfl,h1,h2,h3,h4⟩:=hj
 obtain ⟨of,cf,rfl,_,_⟩:=h1
 obtain ⟨oo,co,rfl,_,_⟩:=h2
 obtain ⟨op,cp,rfl,hpl,_⟩:=h3
 obtain ⟨b,o,cap,rfl,hh⟩:=h4
 obtain ⟨vl,vs,rfl,_,_⟩:=hx
 obtain ⟨f0,f1,a0,a1⟩:=hin
 obtain ⟨i,hi⟩:∃ i:Nat,x.fn=i:=⟨x.fn.toNat,by omega⟩
 obtain ⟨a,ha⟩:∃ a:Nat,x.at_=a:=⟨x.at_.toNat,by omega⟩
 have hip:i<p.length:=by omega
 rw [hi,Int.toNat_natCast] at a1
 have hlen:=hl i hip
 obtain ⟨uv,c0,hu⟩:=hh i hip
 obtain ⟨oh,ch,rfl,_,hcell⟩:=hu
 obtain ⟨bh,oh2,rfl,d0⟩:=hcell a _ (Zs (hgt p i) a 0 (by omega))
 unfold hAt
 rw [hi,ha,Int.toNat_natCast,Int.toNat_natCast]
 generalize hz:(hgt p i).getD a 0=z at *
 have hi1:(i:Int)<(p.length:Int):=by omega
 have hi0:(0:Int)≤(i:Int):=by omega
 have ha1:(a:Int)<((hgt p i).length:Int):=by omega
 have ha0:(0:Int)≤(a:Int):=by omega
 generalize (hgt p i).length=m at *
 generalize p.length=n at *
 generalize s.fibers.length=nf at *
 generalize s.out.length=no at *
 have l0:=Xm c0
 have l1:=Xm d0
 simp only at l0 l1
 clear hh hcell hlen hz
 go_enter Tryz.func115,Tryz.ntmps115
 go_wp2
 go_quiet (fail)
 go_wp2
 go_ret
 exact ⟨rfl,(((Za.refl w).alloc _).alloc _).drewN _⟩
def Qj (base bs:Nat) (V:Key→Value) (s:St) (r:St × Int) (w:World) (e:Ending) (w':World):Prop :=
 (r.2=0∧e=.returned (.tuple #[])∧∃ V',Zt base bs V s w V' r.1 w')∨(r.2≠0∧e=left r.2∧Yh bs V s w w')
theorem Zii (base bs:Nat) (V:Key→Value) (s:St) (i n cp:Nat) (oa:Option Addr) (w:World) (h:Zg base w bs V s) (hn:s.now=i) (hi:i<s.fibers.length) :
  Calls Tryz.prog 131 #[eng bs (.slice oa n cp)] w (Jq base bs V s { Zj s i { Zc s i with caller:=-1 } with now:=(Zc s i).caller } (.tuple #[]) w):=by
 obtain ⟨gF,capF,eF,hrun⟩:=Zfc h hn hi oa n cp
 have HT:=Zb hrun
 have HO:=Zb h
 have HEF:=Zb eF
 clear hrun h
 generalize hc:(Zc s i).caller=c at *
 have HC:=Zb hc
 clear hc
 go_enter Tryz.func131,Tryz.ntmps131
 go_wp2_with fail
 generalize hwb:w.alloc (.cells #[.pointer (some ⟨bs,0,none⟩),.slice oa n cp] 93)=wb
 have hkb:Za w wb:=by rw [← hwb];exact (Za.refl w).alloc _
 have lB:wb.heap[w.heap.size]?=some (.cells #[.pointer (some ⟨bs,0,none⟩),.slice oa n cp] 93):=by rw [← hwb];exact Zh rfl
 have hob:Zg base wb bs V s:=(un HO).kept hkb
 refine ((un HT) wb hob).mono ?_
 rintro e w1 ⟨rfl,hk1⟩
 have ho1:=hob.kept hk1
 have hk01:=hkb.trans hk1
 have l1:=Zn hk1 lB
 have b0:w1.cell? ⟨w.heap.size,0,none⟩=some (.pointer (some ⟨bs,0,none⟩)):=Zd l1 0
 obtain ⟨gF',capF',eF',_,k0,k1,kz,_⟩:=ho1.own.fib hi
 rw [un HEF] at eF'
 obtain ⟨⟨rfl⟩,-,rfl⟩:=(by simpa using eF':(gF=gF')∧True∧capF=capF')
 rw [un HC] at k1
 obtain ⟨_,c1,_,cz⟩:=ho1.cells
 have kz1:=kz (i*2+1)
 have cz1:=cz 1
 have hm1:=Zt.setNow ho1 c
 have hm2:=Zt.setCaller hm1.own hi (un HEF) (-1)
 have HM:=Zb ((Zt.of_kept (un HO) hk01).trans (hm1.trans hm2))
 have hne:bs≠gF:=fun e=>(un HO).off .fibers trivial (by rw [un HEF,e];rfl)
 have hne':gF≠bs:=fun e=>hne e.symm
 have hBb:bs≠w.heap.size:=by have:=lt_of_block (un HO).var;omega
 have hBg:gF≠w.heap.size:=by have:=(((un HO).own.piece .fibers trivial).block gF (by rw [un HEF];rfl)).2;omega
 clear hwb hob hk01 hk1 ho1 eF' kz cz hkb lB l1 k0 HT hm1 hm2
 go_upto_region 2 with fail
 go_region
 go_wp2
 go_end0
 exact ⟨rfl,V,(un HM).drew⟩
theorem Zng (base bs:Nat) (V:Key→Value) (s:St) (n cp:Nat) (oa:Option Addr) (z:Int) (w:World) (h:Zg base w bs V s) (ho:s.out.length≤30) :
  Calls Tryz.prog 102 #[eng bs (.slice oa n cp),.int .i64 z] w (Qj base bs V s (Qq s z) w):=by
 obtain ⟨i0,hi0,hz0,hz1,hz2⟩:=Znl
 obtain ⟨_,_,c2,fz⟩:=h.cells
 have hs:w.ownsRow base 3 1 (V .out) s.out.length (ints s.out):=h.own.piece .out trivial
 have hbw:=lt_of_block h.var
 have hlow:=h.low
 obtain ⟨oo,co,eo,_⟩:=Zw hs
 have d2:∀ o,(w.alloc o).cell? ⟨bs,2,none⟩=some (.slice oo s.out.length co):=fun o=>by rw [← eo];exact ((Za.refl w).alloc o).cell c2
 have HO:=Zb h
 have HEO:=Zb eo
 rw [eo] at c2
 have hme:∀ (e:Int),(Instr.makeInterface 27 (.int .i64 e)).run Tryz.prog w=.ok (.iface 27 (.int .i64 e)) w:=fun _=>rfl
 by_cases h30:s.out.length=30
 ·have hp:Qq s z=(St.zero,2):=by unfold Qq;rw [if_pos h30]
  rw [hp]
  rw [h30] at d2
  clear h hp h30 hs c2 fz
  go_enter Tryz.func102,Tryz.ntmps102
  go_wp2
  exact ⟨rfl,Or.inr ⟨by decide,rfl,Yh.of_kept ((Za.refl w).alloc _)⟩⟩
 ·have hp:Qq s z=({ s with out:=s.out++[z] },0):=by unfold Qq;rw [if_neg h30]
  rw [hp]
  have hb30:((s.out.length:Int) == 30)=false:=by rw [beq_eq_false_iff_ne];omega
  generalize hl:s.out=l at *
  have HL:=Zb hl
  generalize hwb:w.alloc (.cells #[.pointer (some ⟨bs,0,none⟩),.slice oa n cp] 93)=wb
  have hkb:Za w wb:=by rw [← hwb];exact (Za.refl w).alloc _
  have lB:wb.heap[w.heap.size]?=some (.cells #[.pointer (some ⟨bs,0,none⟩),.slice oa n cp] 93):=by rw [← hwb];exact Zh rfl
  have hob:Zg base wb bs V s:=h.kept hkb
  have hku:Za wb ((wb.alloc (.cells #[.int .i64 z] 3)).drew):=((Za.refl wb).alloc _).drew
  have hou:=hob.kept hku
  have hsu:((wb.alloc (.cells #[.int .i64 z] 3)).drew).ownsRow base 3 1 (V .out) s.out.length (ints s.out):=hou.own.piece .out trivial
  obtain ⟨v',w2,hrun,hown',hgrow,_,hat⟩:=run_append_own_at (P:=Tryz.prog) _ base 24 24 3 i0 (.int .i64 0) 1 8 Tryz.underlying24 hi0 hz0 hz1 hz2 rfl (by decide) _ _ _ hsu ⟨wb.heap.size,0,none⟩ 1 1 [.int .i64 z] rfl (Zed wb _ _) (Zcr _) (by unfold maxLen;rw [hl];omega) (by rw [hl];omega) (by have:=hkb.size;simp;omega)
  have hm:=Zt.turnOut hou (l++[z]) v' hgrow (by rw [Zcz,List.length_append,← hl];exact hown') hat
  obtain ⟨o2,q2,rfl,-⟩:=Zw hown'
  have hbso:(V .out).ownBlock≠some bs:=h.off .out trivial
  have g2:w2.cell? ⟨bs,2,none⟩=some (.slice oo l.length co):=by
   have:=hou.cells.2.2.1
   rw [eo] at this
   exact hgrow.cell this (fun e=>hbso e.symm)
  have gz:w2.frozen? ⟨bs,2,none⟩=false:=(World.frozen?_of_block (hgrow.block bs (by have:=hkb.size;simp;omega) (fun e=>hbso e.symm))).trans (hou.cells.2.2.2 2)
  rw [eo] at hrun
  rw [hl] at hrun
  have HRUN:=Zb hrun
  rw [hl] at hm
  have HM:=Zb (((Zt.of_kept h hkb).trans (Zt.of_kept hob hku)).trans hm)
  have b0:wb.cell? ⟨w.heap.size,0,none⟩=some (.pointer (some ⟨bs,0,none⟩)):=Zd lB 0
  have d2':wb.cell? ⟨bs,2,none⟩=some (.slice oo l.length co):=by rw [← hwb];exact d2 _
  have e2:∀ o,(wb.alloc o).cell? ⟨bs,2,none⟩=some (.slice oo l.length co):=fun o=>((Za.refl wb).alloc o).cell d2'
  have e0:∀ o,(wb.alloc o).cell? ⟨w.heap.size,0,none⟩=some (.pointer (some ⟨bs,0,none⟩)):=fun o=>((Za.refl wb).alloc o).cell b0
  have b2:w2.cell? ⟨w.heap.size,0,none⟩=some (.pointer (some ⟨bs,0,none⟩)):=hgrow.cell (hku.cell b0) (fun e=>h.own.new_off (.inl (Nat.le_refl _)) .out trivial e.symm)
  have HWB:=Zb hwb
  clear h hp h30 hs c2 fz d2 hwb lB hob hou hsu hown' hgrow hat hm hrun hku hl
  go_enter Tryz.func102,Tryz.ntmps102
  go_upto_region 1 with fail
  rw [un HWB]
  go_upto_region 3 with fail
  go_region_law ((refine Zre _ (by rfl) _ _ 24 (by rfl) (by rfl) (by rfl) (un HRUN) ?_))
  all_goals go_wp2
  all_goals go_end0
  all_goals exact Or.inl ⟨rfl,rfl,_,un HM⟩
theorem Zpl (base bs:Nat) (V:Key→Value) (s:St) (i n cp:Nat) (oa:Option Addr) (z:Int) (w:World) (h:Zg base w bs V s) (hn:s.now=i) (hi:i<s.fibers.length)
  (hc:(Zc s i).caller≠-1→∃ m:Nat,(Zc s i).caller=m∧m≠i∧Zu s m) :
  Calls Tryz.prog 101 #[eng bs (.slice oa n cp),.int .i64 z] w (Qj base bs V s (Pz s i z) w):=by
 obtain ⟨gF,capF,eF,hrun⟩:=Zfc h hn hi oa n cp
 have HT:=Zb hrun
 have HO:=Zb h
 have HEF:=Zb eF
 have hbw:base≤w.heap.size:=by have:=h.low;have:=lt_of_block h.var;omega
 have HW:=Zb (fun u V' (hu:Zg base u bs V' s)=>Zii base bs V' s i n cp oa u hu hn hi)
 generalize hcc:(Zc s i).caller=c at *
 have HCC:=Zb hcc
 have HC:=Zb hc
 clear hrun h hc hcc
 by_cases hm1:c=-1
 ·have hp:Pz s i z=(St.zero,7):=by unfold Pz;rw [if_pos (by rw [un HCC];exact hm1)]
  rw [hp]
  subst hm1
  clear hp
  go_enter Tryz.func101,Tryz.ntmps101
  go_wp2_with fail
  generalize hwb:w.alloc (.cells #[.pointer (some ⟨bs,0,none⟩),.slice oa n cp] 93)=wb
  have hkb:Za w wb:=by rw [← hwb];exact (Za.refl w).alloc _
  have hob:Zg base wb bs V s:=(un HO).kept hkb
  refine ((un HT) wb hob).mono ?_
  rintro e w1 ⟨rfl,hk1⟩
  have ho1:=hob.kept hk1
  obtain ⟨gF',capF',eF',_,k0,k1,kz,_⟩:=ho1.own.fib hi
  rw [un HEF] at eF'
  obtain ⟨⟨rfl⟩,-,rfl⟩:=(by simpa using eF':(gF=gF')∧True∧capF=capF')
  rw [un HCC] at k1
  have HB:Hid (Yh bs V s w w1):=Zb (Yh.of_kept (hkb.trans hk1))
  clear hwb hob hkb hk1 ho1 kz k0 eF'
  go_wp2
  exact ⟨rfl,Or.inr ⟨by decide,rfl,un HB⟩⟩
 ·obtain ⟨m,hcm,hmi,hrm⟩:=(un HC) hm1
  have hp:Pz s i z=(Zy (Jc s i) m z,0):=by unfold Pz;rw [if_neg (by rw [un HCC];exact hm1),un HCC,hcm]
  rw [hp]
  subst hcm
  have hb1:((m:Int) == -1)=false:=by rw [beq_eq_false_iff_ne];omega
  have HR2:=Zb (Zlc hmi hrm)
  have HN2:Hid ((Jc s i).now=m):=Zb (by show (Zc s i).caller=_;rw [un HCC])
  have HP:Hid (∀ V2 u,Zg base u bs V2 (Jc s i)→Calls Tryz.prog 87 #[eng bs (.slice oa n cp),.slice (some ⟨u.heap.size,0,none⟩) 1 1] (u.alloc (.cells #[.int .i64 z] 3)) (Jq base bs V2 (Jc s i) (Zy (Jc s i) m z) (.tuple #[]) (u.alloc (.cells #[.int .i64 z] 3)))):=Zb (fun V2 u hu =>
   Zbg base bs V2 (Jc s i) m n cp u.heap.size oa z _ (hu.alloc _) (un HN2) (un HR2) (Zd (Zh rfl) 0))
  have HWS:Hid (∀ u V',Zg base u bs V' s→Calls Tryz.prog 131 #[eng bs (.slice oa n cp)] u (Jq base bs V' s (Jc s i) (.tuple #[]) u)):=Zb (fun u V' hu=>by
   have:=Zii base bs V' s i n cp oa u hu hn hi
   exact this)
  clear hp hm1 HC HW hrm
  generalize hs2:Jc s i=s2 at *
  clear hs2
  go_enter Tryz.func101,Tryz.ntmps101
  go_wp2_with fail
  generalize hwb:w.alloc (.cells #[.pointer (some ⟨bs,0,none⟩),.slice oa n cp] 93)=wb
  have hkb:Za w wb:=by rw [← hwb];exact (Za.refl w).alloc _
  have lB:wb.heap[w.heap.size]?=some (.cells #[.pointer (some ⟨bs,0,none⟩),.slice oa n cp] 93):=by rw [← hwb];exact Zh rfl
  have hob:Zg base wb bs V s:=(un HO).kept hkb
  refine ((un HT) wb hob).mono ?_
  rintro e w1 ⟨rfl,hk1⟩
  have ho1:=hob.kept hk1
  have hk01:=hkb.trans hk1
  have l1:=Zn hk1 lB
  have b0:w1.cell? ⟨w.heap.size,0,none⟩=some (.pointer (some ⟨bs,0,none⟩)):=Zd l1 0
  have b1:w1.cell? ⟨w.heap.size,1,none⟩=some (.slice oa n cp):=Zd l1 1
  obtain ⟨gF',capF',eF',_,k0,k1,kz,_⟩:=ho1.own.fib hi
  rw [un HEF] at eF'
  obtain ⟨⟨rfl⟩,-,rfl⟩:=(by simpa using eF':(gF=gF')∧True∧capF=capF')
  rw [un HCC] at k1
  obtain ⟨hBn,hBo⟩:=(un HO).new (b:=w.heap.size) (by omega)
  have HM1:=Zb (Zt.of_kept (un HO) hk01)
  have HO1:=Zb ho1
  have HL1:=Zb l1
  have HBO:=Zb hBo
  clear hwb hob hkb hk1 ho1 kz k0 eF' hk01 lB l1 hBo HT
  go_wp2_with fail
  refine ((un HWS) w1 V (un HO1)).mono ?_
  rintro e w2 ⟨rfl,V2,hm2⟩
  have l2:=hm2.lays (un HL1) hBn (un HBO)
  have q0:w2.cell? ⟨w.heap.size,0,none⟩=some (.pointer (some ⟨bs,0,none⟩)):=Zd l2 0
  have q1:w2.cell? ⟨w.heap.size,1,none⟩=some (.slice oa n cp):=Zd l2 1
  have HM2:=Zb ((un HM1).trans hm2)
  clear hm2 l2 b0 b1 k1
  go_wp2_with fail
  refine ((un HP) V2 w2 (un HM2).own).mono ?_
  rintro e w3 ⟨rfl,V3,hm3⟩
  have HM3:=Zb ((un HM2).trans (hm3.pre (un HM2).own ((Za.refl _).alloc _)))
  clear hm3
  go_wp2
  go_end0
  exact Or.inl ⟨rfl,rfl,V3,un HM3⟩
theorem Qj.pre {base bs:Nat} {V V1:Key→Value} {s s1:St} {r:St × Int} {w w1:World} {e:Ending} {w':World} (h:Qj base bs V1 s1 r w1 e w') (_:Zg base w bs V s) (hm:Zt base bs V s w V1 s1 w1):Qj base bs V s r w e w':=by
 rcases h with ⟨h1,h2,V',h3⟩ | ⟨h1,h2,h3⟩
 ·exact .inl ⟨h1,h2,V',hm.trans h3⟩
 ·exact .inr ⟨h1,h2,hm.past h3⟩
theorem Xdi (base bs:Nat) (V:Key→Value) (s:St) (i n cp:Nat) (oa:Option Addr) (z:Int) (w:World) (h:Zg base w bs V s) (hn:s.now=i) (hr:Zu s i) (hout:s.out.length≤30)
  (hc1:(Zc s i).frames.length=1→(Zc s i).caller≠-1→∃ m:Nat,(Zc s i).caller=m∧m≠i∧Zu s m) (hc2:(Zc s i).frames.length≠1→Zu (dropped s i) i) :
  Calls Tryz.prog 98 #[eng bs (.slice oa n cp),.int .i64 z] w (Qj base bs V s (Ut s i z) w):=by
 have hi:=hr.lt
 obtain ⟨gF,capF,eF,hrun⟩:=Zfc h hn hi oa n cp
 obtain ⟨g,cap,eg,hqc,_⟩:=h.own.fr hi (j:=0) hr.fr
 have HMD:Hid (∀ u,Zg base u bs V s→Zt base bs V s u (upd V (.frames i) (.slice (some ⟨g,0,none⟩) ((Zc s i).frames.length - 1) cap)) (dropped s i) (u.setCell ⟨gF,i*2,none⟩ (.slice (some ⟨g,0,none⟩) ((Zc s i).frames.length - 1) cap))):=Zb (fun u hu=>Zt.dropFrame hu hi eF eg)
 have hfr:=hr.fr
 have hfrs:=hr.frs
 have hout1:(Jc (dropped s i) i).out.length≤30:=hout
 have hfd:=Zit hi
 have hnd:(dropped s i).now=i:=hn
 have hid:i<(dropped s i).fibers.length:=by rw [Zel];exact hi
 have HWS:Hid (∀ u V',Zg base u bs V' (dropped s i)→Calls Tryz.prog 131 #[eng bs (.slice oa n cp)] u (Jq base bs V' (dropped s i) (Jc (dropped s i) i) (.tuple #[]) u)):=Zb (fun u V' hu=>Zii base bs V' (dropped s i) i n cp oa u hu hnd hid)
 have HPO:Hid (∀ u V',Zg base u bs V' (Jc (dropped s i) i)→Calls Tryz.prog 102 #[eng bs (.slice oa n cp),.int .i64 z] u (Qj base bs V' (Jc (dropped s i) i) (Qq (Jc (dropped s i) i) z) u)):=Zb (fun u V' hu=>Zng base bs V' _ n cp oa z u hu hout1)
 have HPI:Hid ((Zc s i).frames.length≠1→∀ u V',Zg base u bs V' (dropped s i)→Calls Tryz.prog 87 #[eng bs (.slice oa n cp),.slice (some ⟨u.heap.size,0,none⟩) 1 1] (u.alloc (.cells #[.int .i64 z] 3)) (Jq base bs V' (dropped s i) (Zy (dropped s i) i z) (.tuple #[]) (u.alloc (.cells #[.int .i64 z] 3)))):=Zb (fun hq u V' hu =>
  Zbg base bs V' _ i n cp u.heap.size oa z _ (hu.alloc _) hnd (hc2 hq) (Zd (Zh rfl) 0))
 have HPW:Hid ((Zc s i).frames.length=1→∀ m:Nat,(Zc s i).caller=m→m≠i→Zu s m→∀ u V',Zg base u bs V' (Jc (dropped s i) i)→Calls Tryz.prog 87 #[eng bs (.slice oa n cp),.slice (some ⟨u.heap.size,0,none⟩) 1 1] (u.alloc (.cells #[.int .i64 z] 3)) (Jq base bs V' (Jc (dropped s i) i) (Zy (Jc (dropped s i) i) m z) (.tuple #[]) (u.alloc (.cells #[.int .i64 z] 3)))):=Zb (fun hq m hm hmi hrm u V' hu =>
  Zbg base bs V' _ m n cp u.heap.size oa z _ (hu.alloc _) (by show (Zc (dropped s i) i).caller=m;rw [hfd];exact hm) (Zlc hmi (hrm.other (Zel s i) (Qo _ (fun e=>hmi e.symm)))) (Zd (Zh rfl) 0))
 have HNW:Hid ((Jc (dropped s i) i).now=(Zc s i).caller):=Zb (by show (Zc (dropped s i) i).caller=_;rw [hfd])
 have HGB:Hid (((Zc s i).frames.length=1→(Zc s i).caller=-1→Ut s i z=Qq (Jc (dropped s i) i) z)∧(∀ m:Nat,(Zc s i).frames.length=1→(Zc s i).caller=m→Ut s i z=(Zy (Jc (dropped s i) i) m z,0))∧((Zc s i).frames.length≠1→Ut s i z=(Zy (dropped s i) i z,0))):=Zb ⟨fun h1 h2=>by unfold Ut;rw [if_pos h1,if_pos h2],fun m h1 h2=>by unfold Ut;rw [if_pos h1,if_neg (by omega),h2],fun h1=>by unfold Ut;rw [if_neg h1]⟩
 have HC1:=Zb hc1
 generalize hqq:(Zc s i).frames.length=q at *
 have HQ:=Zb hqq
 obtain ⟨t,rfl⟩:∃ t,q=t+1:=⟨q - 1,by omega⟩
 have hw1:IntKind.i64.wrap ((t:Int)+1 - 1)=(t:Int):=by rw [IntKind.wrap_i64];omega
 have hw2:IntKind.i64.wrap (t:Int)=(t:Int):=by rw [IntKind.wrap_i64];omega
 have ht0:(0:Int)≤(t:Int):=by omega
 have ht1:(t:Int)≤(cap:Int):=by omega
 have HT:=Zb hrun
 have HO:=Zb h
 have HEF:=Zb eF
 have HEG:=Zb eg
 have HND:Hid ((dropped s i).now=i):=Zb hnd
 generalize hcc:(Zc s i).caller=c at *
 generalize hR:Ut s i z=R at *
 have HCC:=Zb hcc
 have HNOW:=Zb hn
 generalize hsd:dropped s i=sd at *
 generalize hsw:Jc sd i=sw at *
 rw [Nat.add_sub_cancel] at HMD
 generalize hVd:upd V (.frames i) (.slice (some ⟨g,0,none⟩) t cap)=Vd at *
 have hVdF:Vd .fibers=.slice (some ⟨gF,0,none⟩) s.fibers.length capF:=by rw [← hVd,Zp V _ (by simp)];exact un HEF
 have hVdf:Vd (.frames i)=.slice (some ⟨g,0,none⟩) t cap:=by rw [← hVd,Qb]
 have HVF:=Zb hVdF
 have HVf:=Zb hVdf
 have HLD:Hid (sd.fibers.length=s.fibers.length):=by rw [← hsd];exact Zb (Zel s i)
 clear hrun h eF eg hqq hcc hn hnd hR hsd hsw hVd hVdF hVdf hfd hc1 hc2 hr hout1 hid hqc
 go_enter Tryz.func98,Tryz.ntmps98
 go_wp2_with fail
 generalize hwb:w.alloc (.cells #[.pointer (some ⟨bs,0,none⟩),.slice oa n cp] 93)=wb
 have hkb:Za w wb:=by rw [← hwb];exact (Za.refl w).alloc _
 have lB:wb.heap[w.heap.size]?=some (.cells #[.pointer (some ⟨bs,0,none⟩),.slice oa n cp] 93):=by rw [← hwb];exact Zh rfl
 have hob:Zg base wb bs V s:=(un HO).kept hkb
 refine ((un HT) wb hob).mono ?_
 rintro e w1 ⟨rfl,hk1⟩
 have ho1:=hob.kept hk1
 have hk01:=hkb.trans hk1
 have l1:=Zn hk1 lB
 obtain ⟨gF',capF',eF',_,k0,k1,kz,_⟩:=ho1.own.fib hi
 rw [un HEF] at eF'
 obtain ⟨⟨rfl⟩,-,rfl⟩:=(by simpa using eF':(gF=gF')∧True∧capF=capF')
 rw [un HEG] at k0
 have kz0:=kz (i*2)
 obtain ⟨hBn,hBo⟩:=(un HO).new (b:=w.heap.size) (by omega)
 have hmd:=(un HMD) w1 ho1
 have l2:=hmd.lays l1 hBn hBo
 have HBO:=Zb (hmd.off _ (Array.getElem?_eq_some_iff.1 l1).1 hBo)
 have HM2:=Zb (((Zt.of_kept (un HO) hk01).trans hmd).drew)
 have HL2:=Zb l2
 clear hwb hob hkb hk1 ho1 kz k1 eF' hk01 lB l1 hBo HT hmd l2
 go_upto_region 2 with fail
 go_region
 go_upto_region 3 with fail
 generalize hw2:(w1.setCell ⟨gF,i*2,none⟩ (.slice (some ⟨g,0,none⟩) t cap)).drew=w2 at *
 have ho2:=(un HM2).own
 obtain ⟨gF2,capF2,eF2,_,j0,j1,_,_⟩:=ho2.own.fib (i:=i) (by rw [un HLD];exact hi)
 rw [un HVF,un HLD] at eF2
 obtain ⟨⟨rfl⟩,-,rfl⟩:=(by simpa using eF2:(gF=gF2)∧True∧capF=capF2)
 rw [un HVf] at j0
 obtain ⟨_,n1,_,_⟩:=ho2.cells
 rw [un HND] at n1
 have L2:w2.heap[w.heap.size]?=some (.cells #[.pointer (some ⟨bs,0,none⟩),.slice oa n cp] 93):=by rw [← hw2];exact Xc (un HL2)
 have b0:w2.cell? ⟨w.heap.size,0,none⟩=some (.pointer (some ⟨bs,0,none⟩)):=Zd L2 0
 have b1:w2.cell? ⟨w.heap.size,1,none⟩=some (.slice oa n cp):=Zd L2 1
 have HLL:=Zb L2
 have HO2:=Zb ho2
 clear hw2 ho2 eF2 L2 k0 kz0 j1
 by_cases hq1:t=0
 ·subst hq1
  clear n1
  have hq:0+1=1:=rfl
  go_wp2_with fail
  refine ((un HWS) w2 Vd (un HO2)).mono ?_
  rintro e w3 ⟨rfl,V3,hm3⟩
  have l3:=hm3.lays (un HLL) hBn (un HBO)
  have HBO3:=Zb (hm3.off _ (Array.getElem?_eq_some_iff.1 (un HLL)).1 (un HBO))
  have q0:w3.cell? ⟨w.heap.size,0,none⟩=some (.pointer (some ⟨bs,0,none⟩)):=Zd l3 0
  have q1:w3.cell? ⟨w.heap.size,1,none⟩=some (.slice oa n cp):=Zd l3 1
  obtain ⟨_,n3,_,_⟩:=hm3.own.cells
  rw [un HNW] at n3
  have HM3:=Zb ((un HM2).trans hm3)
  clear hm3 l3 b0 b1 j0
  by_cases hm1:c=-1
  ·have HR:=Zb ((un HGB).1 hq hm1)
   subst hm1
   go_wp2_with fail
   refine ((un HPO) w3 V3 (un HM3).own).mono ?_
   intro e w4 hp
   have hp':=hp.pre (un HO) (un HM3)
   rw [← un HR] at hp'
   rcases hp with ⟨_,rfl,_⟩ | ⟨_,rfl,_⟩
   ·have HP:=Zb hp'
    clear hp'
    go_wp2
    go_end0
    exact un HP
   ·have HP:=Zb hp'
    clear hp'
    dsimp only [left]
    go_wp2
    exact ⟨rfl,un HP⟩
  ·obtain ⟨m,hcm,hmi,hrm⟩:=(un HC1) hq hm1
   have HR:=Zb ((un HGB).2.1 m hq hcm)
   have hb1:((m:Int) == -1)=false:=by rw [beq_eq_false_iff_ne];omega
   have HPM:=Zb ((un HPW) hq m hcm hmi hrm)
   subst hcm
   clear hrm hm1
   go_wp2_with fail
   refine ((un HPM) w3 V3 (un HM3).own).mono ?_
   rintro e w4 ⟨rfl,V4,hm4⟩
   have HM4:=Zb ((un HM3).trans (hm4.pre (un HM3).own ((Za.refl _).alloc _)))
   clear hm4
   go_wp2
   go_end0
   rw [un HR]
   exact Or.inl ⟨rfl,rfl,V4,un HM4⟩
 ·have hb0:((t:Int) == 0)=false:=by rw [beq_eq_false_iff_ne];omega
  have hbi:((i:Int) == -1)=false:=by rw [beq_eq_false_iff_ne];omega
  have HR:=Zb ((un HGB).2.2 (by omega))
  have HPM:=Zb ((un HPI) (by omega))
  go_wp2_with fail
  refine ((un HPM) w2 Vd (un HO2)).mono ?_
  rintro e w4 ⟨rfl,V4,hm4⟩
  have HM4:=Zb ((un HM2).trans (hm4.pre (un HO2) ((Za.refl _).alloc _)))
  clear hm4
  go_wp2
  go_end0
  rw [un HR]
  exact Or.inl ⟨rfl,rfl,V4,un HM4⟩
theorem Zip:(Tryz.prog.info? 48).map (fun i=>(i.zero,i.size,i.bytes))=some (some (.agg #[.int .i64 0,.int .i64 0,.slice none 0 0,.slice none 0 0]),4,64):=by kernel_rfl
theorem Zht:(Tryz.prog.info? 46).map (fun i=>(i.zero,i.size,i.bytes))=some (some (.agg #[.slice none 0 0,.int .i64 0]),2,32):=by kernel_rfl
theorem Zok (B j:Nat):(⟨B,0,none⟩:Addr).add j=⟨B,j,none⟩:=by unfold Addr.add;split <;> simp_all
theorem Zkj {w:World} {base B:Nat} {l:List Int} (hb:base≤B) (hB:w.heap[B]?=some (.cells (ints l).toArray 3)) (hl:l.length≤1000):w.ownsRow base 3 1 (.slice (some ⟨B,0,none⟩) l.length l.length) l.length (ints l) :=
 ⟨by simp [Pm],.inr ⟨B,l.length,(ints l).toArray,rfl,hb,hB,Nat.le_refl _,by unfold maxLen;omega,by simp [Pm],List.take_of_length_le (by simp [Pm])⟩⟩
theorem Zlk {base bs:Nat} {V:Key→Value} {s:St} {u:World} (h:Zg base u bs V s) {i gF capF BL B:Nat} (hi:i<s.fibers.length) (hF:V .fibers=.slice (some ⟨gF,0,none⟩) s.fibers.length capF)
  (hfr:(Zc s i).frames.length≤1000) (f:Fr) (hst:f.stack=[]) (hlo:f.locals.length≤1000) (hBL:u.heap[BL]?=some (.cells (ints f.locals).toArray 3)) (hoff:Own.off V s BL) (hlow:base≤BL) (hbsL:bs≠BL)
  (hB:u.heap[B]?=some (.cells #[.int .i64 f.fn,.int .i64 f.at_,.slice (some ⟨BL,0,none⟩) f.locals.length f.locals.length,.slice none 0 0] 48)) :
  ∃ v' w' V',(Builtin.append_ #[44,44] 44 #[V (.frames i),.slice (some ⟨B,0,none⟩) 1 1]).run Tryz.prog u=.ok v' w' ∧
   (∃ o c,v'=.slice o ((Zc s i).frames.length+1) c)∧Zg base (w'.setCell ⟨gF,i*2,none⟩ v') bs V' (Zj s i { Zc s i with frames:=(Zc s i).frames++[f] })∧u.grownBy w' (V (.frames i)).ownBlock ∧
   ∀ k b,live (Zj s i { Zc s i with frames:=(Zc s i).frames++[f] }) k→(V' k).ownBlock=some b→(∃ k',live s k'∧(V k').ownBlock=some b)∨b=BL∨b=u.heap.size:=by
 obtain ⟨i0,hi0,hz0,hz1,hz2⟩:=info_parts Zip
 have hbw:bs<u.heap.size:=lt_of_block h.var
 have hbase:base≤u.heap.size:=by have:=h.low;omega
 have hlB:BL<u.heap.size:=(Array.getElem?_eq_some_iff.1 hBL).1
 obtain ⟨xs,hrow,_⟩:=h.own.piece (.frames i) hi
 obtain ⟨v',w',hrun,hown',hgrow,_,hat⟩:=run_append_own_at (P:=Tryz.prog) u base 44 44 48 i0 _ 4 64 Tryz.underlying44 hi0 hz0 hz1 hz2 rfl (by decide) _ _ xs hrow ⟨B,0,none⟩ 1 1
  [.int .i64 f.fn,.int .i64 f.at_,.slice (some ⟨BL,0,none⟩) f.locals.length f.locals.length,.slice none 0 0] rfl (fun j x hj=>by
   rw [Zok,Zd hB]
   simpa using hj) (by intro x hx;simp only [List.mem_cons,List.not_mem_nil,or_false] at hx;rcases hx with rfl | rfl | rfl | rfl <;> rfl) (by unfold maxLen;omega) (by omega) (by omega)
 have hFb:(V .fibers).ownBlock=some gF:=by rw [hF];rfl
 have hloc:w'.ownsRow base 3 1 (.slice (some ⟨BL,0,none⟩) f.locals.length f.locals.length) f.locals.length (ints f.locals) :=
  Zkj hlow ((hgrow.block BL hlB (fun e=>hoff (.frames i) hi e.symm)).trans hBL) hlo
 have hadd:=h.own.addFrame hi hF f (.slice (some ⟨BL,0,none⟩) f.locals.length f.locals.length) v' hst (gl:=BL) (.inr rfl) hoff hlB hloc (fun b hb hne=>hgrow.block b hb (fun e=>hne e.symm)) (fun ys hy=>by
  rw [Zhb hy hrow];exact hown') hat
 have hblk:∀ k b,live (Zj s i { Zc s i with frames:=(Zc s i).frames++[f] }) k→(upd (upd (upd V (.frames i) v') (.locals i (Zc s i).frames.length) (.slice (some ⟨BL,0,none⟩) f.locals.length f.locals.length)) (.stack i (Zc s i).frames.length) (.slice none 0 0) k).ownBlock=some b→(∃ k',live s k'∧(V k').ownBlock=some b)∨b=BL∨b=u.heap.size:=by
  intro k b hk e
  by_cases e1:k=.stack i (Zc s i).frames.length
  ·rw [e1,Qb] at e;cases e
  rw [Zp _ _ e1] at e
  by_cases e2:k=.locals i (Zc s i).frames.length
  ·rw [e2,Qb] at e;exact .inr (.inl (Option.some.inj e).symm)
  rw [Zp _ _ e2] at e
  by_cases e3:k=.frames i
  ·rw [e3,Qb] at e
   rcases hat with h1 | h1
   ·rw [h1] at e;exact .inl ⟨.frames i,hi,e⟩
   ·rw [h1] at e;exact .inr (.inr (Option.some.inj e).symm)
  rw [Zp _ _ e3] at e
  refine .inl ⟨k,?_,e⟩
  have hl:=Xh s i { Zc s i with frames:=(Zc s i).frames++[f] }
  have hfs:Zc (Zj s i { Zc s i with frames:=(Zc s i).frames++[f] }) i={ Zc s i with frames:=(Zc s i).frames++[f] }:=Xu _ hi
  have hq:∀ t q,q≠(Zc s i).frames.length∨t≠i→t<s.fibers.length→q<(Zc (Zj s i { Zc s i with frames:=(Zc s i).frames++[f] }) t).frames.length→q<(Zc s t).frames.length:=fun t q hne _ hq=>by
   by_cases e:i=t
   ·subst e
    rw [hfs] at hq
    simp only [List.length_append,List.length_cons,List.length_nil] at hq
    rcases hne with h1 | h1 <;> omega
   ·rwa [Qo _ e] at hq
  cases k using Key.by with
  | fibers=>trivial
  | out=>trivial
  | frames t=>simpa only [live,hl] using hk
  | locals t q =>
   simp only [live,hl] at hk
   refine ⟨hk.1,hq t q ?_ hk.1 hk.2⟩
   by_cases et:t=i
   ·subst et;exact .inl fun e=>e2 (by rw [e])
   ·exact .inr et
  | stack t q =>
   simp only [live,hl] at hk
   refine ⟨hk.1,hq t q ?_ hk.1 hk.2⟩
   by_cases et:t=i
   ·subst et;exact .inl fun e=>e1 (by rw [e])
   ·exact .inr et
 refine ⟨v',w',_,hrun,?_,h.turn hadd ?_ ?_ ?_ rfl ?_,hgrow,hblk⟩
 ·obtain ⟨o,c,e,_⟩:=Zw hown'
  exact ⟨o,c,e⟩
 ·rw [Below.heap_setCell _ _ _ _ (fun e=>h.off .fibers trivial (by rw [hFb,e]))]
  exact hgrow.block bs hbw (fun e=>h.off (.frames i) hi e.symm)
 ·rw [Zp _ _ (by simp),Zp _ _ (by simp),Zp _ _ (by simp)]
 ·rw [Zp _ _ (by simp),Zp _ _ (by simp),Zp _ _ (by simp)]
 ·intro k hk e
  rcases hblk k bs hk e with ⟨k',hk',e'⟩ | e' | e'
  ·exact h.off k' hk' e'
  ·exact hbsL e'
  ·omega
theorem Zmn {base bs:Nat} {V:Key→Value} {s:St} {u:World} (h:Zg base u bs V s) {BL BF B:Nat} (hfr:s.fibers.length≤1000) (f:Fr) (c:Int) (hst:f.stack=[]) (hlo:f.locals.length≤1000)
  (hBL:u.heap[BL]?=some (.cells (ints f.locals).toArray 3)) (hoff:Own.off V s BL) (hlow:base≤BL) (hbsL:bs≠BL)
  (hBF:u.heap[BF]?=some (.cells #[.int .i64 f.fn,.int .i64 f.at_,.slice (some ⟨BL,0,none⟩) f.locals.length f.locals.length,.slice none 0 0] 48)) (hoffF:Own.off V s BF) (hlowF:base≤BF) (hbsF:bs≠BF) (hne:BL≠BF)
  (hB:u.heap[B]?=some (.cells #[.slice (some ⟨BF,0,none⟩) 1 1,.int .i64 c] 46)) :
  ∃ v' w' V',(Builtin.append_ #[23,23] 23 #[V .fibers,.slice (some ⟨B,0,none⟩) 1 1]).run Tryz.prog u=.ok v' w' ∧
   (∃ o q,v'=.slice o (s.fibers.length+1) q)∧Zg base (w'.setCell ⟨bs,0,none⟩ v') bs V' { s with fibers:=s.fibers++[⟨[f],c⟩] }∧u.grownBy w' (V .fibers).ownBlock ∧
   ∀ k b,live { s with fibers:=s.fibers++[⟨[f],c⟩] } k→(V' k).ownBlock=some b→(∃ k',live s k'∧(V k').ownBlock=some b)∨b=BL∨b=BF∨b=u.heap.size:=by
 obtain ⟨i0,hi0,hz0,hz1,hz2⟩:=info_parts Zht
 have hbw:bs<u.heap.size:=lt_of_block h.var
 have hbase:base≤u.heap.size:=by have:=h.low;omega
 have hlB:BL<u.heap.size:=(Array.getElem?_eq_some_iff.1 hBL).1
 have hlF:BF<u.heap.size:=(Array.getElem?_eq_some_iff.1 hBF).1
 obtain ⟨xs,hrow,_⟩:=h.own.piece .fibers trivial
 obtain ⟨v',w',hrun,hown',hgrow,_,hat⟩:=run_append_own_at (P:=Tryz.prog) u base 23 23 46 i0 _ 2 32 Tryz.underlying23 hi0 hz0 hz1 hz2 rfl (by decide) _ _ xs hrow ⟨B,0,none⟩ 1 1
  [.slice (some ⟨BF,0,none⟩) 1 1,.int .i64 c] rfl (fun j x hj=>by
   rw [Zok,Zd hB]
   simpa using hj) (by intro x hx;simp only [List.mem_cons,List.not_mem_nil,or_false] at hx;rcases hx with rfl | rfl <;> rfl) (by unfold maxLen;omega) (by omega) (by omega)
 have hloc:w'.ownsRow base 3 1 (.slice (some ⟨BL,0,none⟩) f.locals.length f.locals.length) f.locals.length (ints f.locals) :=
  Zkj hlow ((hgrow.block BL hlB (fun e=>hoff .fibers trivial e.symm)).trans hBL) hlo
 have hfrw:w'.ownsRow base 48 4 (.slice (some ⟨BF,0,none⟩) 1 1) 1 [.int .i64 f.fn,.int .i64 f.at_,.slice (some ⟨BL,0,none⟩) f.locals.length f.locals.length,.slice none 0 0] :=
  ⟨rfl,.inr ⟨BF,1,#[.int .i64 f.fn,.int .i64 f.at_,.slice (some ⟨BL,0,none⟩) f.locals.length f.locals.length,.slice none 0 0],rfl,hlowF,(hgrow.block BF hlF (fun e=>hoffF .fibers trivial e.symm)).trans hBF,by omega,by decide,rfl,rfl⟩⟩
 have hadd:=h.own.addFiber f c (.slice (some ⟨BL,0,none⟩) f.locals.length f.locals.length) (.slice (some ⟨BF,0,none⟩) 1 1) v' hst (gl:=BL) (gf:=BF) (.inr rfl) rfl hne hoff hoffF hlB hlF hloc hfrw
  (fun b hb hne=>hgrow.block b hb (fun e=>hne e.symm)) (fun ys hy=>by rw [Zhb hy hrow];exact hown') hat
 have hblk:∀ k b,live { s with fibers:=s.fibers++[⟨[f],c⟩] } k→(upd (upd (upd (upd V .fibers v') (.frames s.fibers.length) (.slice (some ⟨BF,0,none⟩) 1 1)) (.locals s.fibers.length 0) (.slice (some ⟨BL,0,none⟩) f.locals.length f.locals.length)) (.stack s.fibers.length 0) (.slice none 0 0) k).ownBlock=some b→(∃ k',live s k'∧(V k').ownBlock=some b)∨b=BL∨b=BF∨b=u.heap.size:=by
  intro k b hk e
  by_cases e1:k=.stack s.fibers.length 0
  ·rw [e1,Qb] at e;cases e
  rw [Zp _ _ e1] at e
  by_cases e2:k=.locals s.fibers.length 0
  ·rw [e2,Qb] at e;exact .inr (.inl (Option.some.inj e).symm)
  rw [Zp _ _ e2] at e
  by_cases e3:k=.frames s.fibers.length
  ·rw [e3,Qb] at e;exact .inr (.inr (.inl (Option.some.inj e).symm))
  rw [Zp _ _ e3] at e
  by_cases e4:k=.fibers
  ·rw [e4,Qb] at e
   rcases hat with h1 | h1
   ·rw [h1] at e;exact .inl ⟨.fibers,trivial,e⟩
   ·rw [h1] at e;exact .inr (.inr (.inr (Option.some.inj e).symm))
  rw [Zp _ _ e4] at e
  refine .inl ⟨k,?_,e⟩
  have hfo:∀ t,t<s.fibers.length→Zc { s with fibers:=s.fibers++[⟨[f],c⟩] } t=Zc s t:=fun t ht=>Zcy _ _ _ _ ht
  have hfn:Zc { s with fibers:=s.fibers++[⟨[f],c⟩] } s.fibers.length=⟨[f],c⟩:=Zdn _ _ _
  have hq:∀ t q,¬ (t=s.fibers.length∧q=0)→t<s.fibers.length+1→q<(Zc { s with fibers:=s.fibers++[⟨[f],c⟩] } t).frames.length→t<s.fibers.length∧q<(Zc s t).frames.length:=fun t q hn ht hq=>by
   by_cases et:t=s.fibers.length
   ·rw [et,hfn] at hq
    simp only [List.length_cons,List.length_nil] at hq
    exact absurd ⟨et,by omega⟩ hn
   ·rw [hfo t (by omega)] at hq;exact ⟨by omega,hq⟩
  cases k using Key.by with
  | fibers=>trivial
  | out=>trivial
  | frames t =>
   simp only [live,List.length_append,List.length_cons,List.length_nil] at hk ⊢
   have:t≠s.fibers.length:=fun e=>e3 (by rw [e])
   omega
  | locals t q =>
   simp only [live,List.length_append,List.length_cons,List.length_nil] at hk ⊢
   exact hq t q (fun ⟨h1,h2⟩=>e2 (by rw [h1,h2])) hk.1 hk.2
  | stack t q =>
   simp only [live,List.length_append,List.length_cons,List.length_nil] at hk ⊢
   exact hq t q (fun ⟨h1,h2⟩=>e1 (by rw [h1,h2])) hk.1 hk.2
 have hoff':Own.off (upd (upd (upd (upd V .fibers v') (.frames s.fibers.length) (.slice (some ⟨BF,0,none⟩) 1 1)) (.locals s.fibers.length 0) (.slice (some ⟨BL,0,none⟩) f.locals.length f.locals.length)) (.stack s.fibers.length 0) (.slice none 0 0)) { s with fibers:=s.fibers++[⟨[f],c⟩] } bs:=by
  intro k hk e
  rcases hblk k bs hk e with ⟨k',hk',e'⟩ | e' | e' | e'
  ·exact h.off k' hk' e'
  ·exact hbsL e'
  ·exact hbsF e'
  ·omega
 have hv:w'.heap[bs]?=some (.cells #[V .fibers,.int .i64 s.now,V .out] 26):=(hgrow.block bs hbw (fun e=>h.off .fibers trivial e.symm)).trans h.var
 refine ⟨v',w',_,hrun,?_,⟨?_,hadd.setOff (a:=⟨bs,0,none⟩) hoff' v',hoff',h.low⟩,hgrow,hblk⟩
 ·obtain ⟨o,q,e,_⟩:=Zw hown'
  exact ⟨o,q,e⟩
 ·rw [Zm hv 0 v',Zp _ _ (by simp),Zp _ _ (by simp),Zp _ _ (by simp),Qb,Zp _ _ (by simp),Zp _ _ (by simp),Zp _ _ (by simp),Zp _ _ (by simp)]
  rfl
theorem PS:(∀ (a:Act) (t:Tmp) (v:Value),a.put (some t) v={ a with tmps:=a.tmps.setIfInBounds t v })∧(∀ (a:Act) (v:Value),a.put none v=a) ∧
  (∀ (l:List Value) (i:Nat) (a:Value),l.toArray.setIfInBounds i a=(l.set i a).toArray)∧(∀ (l:List Bool) (i:Nat) (a:Bool),l.toArray.setIfInBounds i a=(l.set i a).toArray) ∧
  (∀ (l:List Value) (a b:Value),(b :: l).set 0 a=a :: l)∧(∀ (l:List Bool) (a b:Bool),(b :: l).set 0 a=a :: l) ∧
  (∀ (l:List Value) (i:Nat) (a b:Value),(b :: l).set (i+1) a=b :: l.set i a)∧(∀ (l:List Bool) (i:Nat) (a b:Bool),(b :: l).set (i+1) a=b :: l.set i a) :=
 ⟨fun _ _ _=>rfl,fun _ _=>rfl,fun _ _ _=>by simp,fun _ _ _=>by simp,fun _ _ _=>rfl,fun _ _ _=>rfl,fun _ _ _ _=>rfl,fun _ _ _ _=>rfl⟩
theorem Up {L tl:List Oper} {i:Nat} {oi:Oper} (hd:L.drop i=oi :: tl):L.toArray[i]?=some oi:=by
 have h:(L.drop i)[0]?=some oi:=by rw [hd];rfl
 rw [List.getElem?_drop] at h
 simpa using h
theorem Zqn {P:Program} {md:Region.Mode} {Q:Exit→Act→World→Prop} {S:World→Prop} {L tl:List Oper} {i:Nat} {oi:Oper} {v:Value} {fuel:Nat} {listed:Array Bool} {a:Act} {w:World} (hd:L.drop i=oi :: tl)
  (hs:Region.noSelect L.toArray=true) (hf:Region.free md L.toArray listed i=true) (hr:(Region.ready md L.toArray listed).contains i=true)
  (hQ:∀ c a w,Q (.panic c) (a.put oi.dst v) w→Q (.panic c) a w) (hw:Region.wanted oi (yielded L.toArray a.tmps)=true) (hy:∀ u,S u→(execOp a.eval oi).run P u=.ok (.value v) u) (hS:S w)
  (h:wpAnyH P md L.toArray Q S fuel (listed.setIfInBounds i true) (a.put oi.dst v) w):wpAnyH P md L.toArray Q S (fuel+1) listed a w :=
 wpAnyH_take (Up hd) hs hf hr hQ (.inl ⟨hw,hy⟩) hS h
theorem Zrg {P:Program} {md:Region.Mode} {Q:Exit→Act→World→Prop} {S:World→Prop} {L tl:List Oper} {i:Nat} {oi:Oper} {fuel:Nat} {listed:Array Bool} {a:Act} {w:World} (hd:L.drop i=oi :: tl)
  (hs:Region.noSelect L.toArray=true) (hf:Region.free md L.toArray listed i=true) (hr:(Region.ready md L.toArray listed).contains i=true)
  (hQ:∀ c a w,Q (.panic c) (a.put oi.dst undef) w→Q (.panic c) a w) (hw:Region.wanted oi (yielded L.toArray a.tmps)=false) (hS:S w)
  (h:wpAnyH P md L.toArray Q S fuel (listed.setIfInBounds i true) (a.put oi.dst undef) w):wpAnyH P md L.toArray Q S (fuel+1) listed a w :=
 wpAnyH_take (Up hd) hs hf hr hQ (.inr ⟨hw,rfl⟩) hS h
theorem Ql {P:Program} {md:Region.Mode} {Q:Exit→Act→World→Prop} {S:World→Prop} {L tl:List Oper} {i:Nat} {oi:Oper} {fuel:Nat} {listed:Array Bool} {a:Act} {w:World} (hd:L.drop i=oi :: tl)
  (hr:Region.ready md L.toArray listed=[i])
  (h:∀ K':Act→World→Prop,Shut (∀ a w,S w→(S w→wpAnyH P md L.toArray Q S fuel (listed.setIfInBounds i true) a w)→K' a w)→if Region.wanted oi (yielded L.toArray a.tmps)=true then Oper.wp P oi a w K' Q else K' (a.put oi.dst undef) w) :
  wpAnyH P md L.toArray Q S (fuel+1) listed a w :=
 wpAnyH_ready hr (by simp) (AllReadyH.cons (Up hd) h AllReadyH.nil)
end Go.Proofs.YtblihfpigjiahaaGreatDoor
