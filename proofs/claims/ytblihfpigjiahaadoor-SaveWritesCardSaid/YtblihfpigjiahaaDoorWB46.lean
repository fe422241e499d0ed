/- SaveU, SaveEb, SaveEe, SaveEf, SaveY, SaveEa -/
import Derived.Test.YtblihfpigjiahaaDoorWB44
import Derived.Test.YtblihfpigjiahaaDoorWB45
import Derived.Test.YtblihfpigjiahaaDoorWB43
import Derived.Test.YtblihfpigjiahaaDoorWB41
import Derived.Test.YtblihfpigjiahaaDoorWB11
set_option maxRecDepth 100000
set_option maxHeartbeats 8000000
namespace Go.Proofs.YtblihfpigjiahaaDoor
open Go.RowKit
theorem Zqv (vp:Value) (S:ByteArray) (er:Int) (hz:er≠0) (w:World)
  (HPC:Hid (∀ u,Zb w u→Calls Tryd.prog 20 #[vp] u fun e w'=>e=.returned (.int .i64 er)∧Zb u w')) :
  Jc 8 #[vp,.string S] w St.zero [.int .i64 er]:=by
 unfold Jc
 have hb:(er != 0)=true:=bne_iff_ne.2 hz
 clear hz
 have LR:Hid ((w.alloc (.cells #[.slice none 0 0,.int .i64 0,.slice none 0 0] 26)).heap[w.heap.size]?=some (.cells #[.slice none 0 0,.int .i64 0,.slice none 0 0] 26)):=Za (Zg rfl)
 have HK:Hid (Zb w (w.alloc (.cells #[.slice none 0 0,.int .i64 0,.slice none 0 0] 26))):=Za ((Zb.refl w).alloc _)
 go_enter Tryd.func8,Tryd.ntmps8
 go_wp2_with fail
 generalize w.alloc (.cells #[.slice none 0 0,.int .i64 0,.slice none 0 0] 26)=wa at *
 generalize hRR:w.heap.size=R at LR ⊢
 have HR:Hid (w.heap.size≤R):=Za (by omega)
 clear hRR
 refine ((un HPC) _ (un HK)).mono ?_
 rintro _ w1 ⟨rfl,hk⟩
 replace LR:=Za (Zm hk (un LR))
 replace HK:=Za ((un HK).trans hk)
 clear hk HPC
 have x0:=Zd (un LR) 0
 have x1:=Zd (un LR) 1
 have x2:=Zd (un LR) 2
 have z0:=Zk (un LR) 0
 have z1:=Zk (un LR) 1
 have z2:=Zk (un LR) 2
 simp only [List.getElem?_toArray,List.getElem?_cons_zero,List.getElem?_cons_succ] at x0 x1 x2
 go_wp2_with fail
 have k1:=Zl (Zl (Zl (un LR) 0 (.slice none 0 0)) 1 (.int .i64 0)) 2 (.slice none 0 0)
 have t0:=Zd k1 0
 have t1:=Zd k1 1
 have t2:=Zd k1 2
 simp only [Array.setIfInBounds,List.size_toArray,List.length_cons,List.length_nil] at t0 t1 t2
 refine bodyPost_ret (v:=.tuple #[.agg #[.slice none 0 0,.int .i64 0,.slice none 0 0],.int .i64 er]) (by simp [results,Tryd.results8,go_sem,t0,t1,t2]) rfl ?_
 exact ⟨none,0,0,0,none,0,0,rfl,Ps _,(((un HK).setCell (p:=⟨R,0,none⟩) (un HR) _).setCell (p:=⟨R,1,none⟩) (un HR) _).setCell (p:=⟨R,2,none⟩) (un HR) _⟩
theorem Zvo (vp:Value) (l:List UInt8) (hl:8192<l.length) (w:World)
  (HPC:Hid (∀ u,Zb w u→Calls Tryd.prog 20 #[vp] u fun e w'=>e=.returned (.int .i64 0)∧Zb u w')) :
  Jc 8 #[vp,.string ⟨l.toArray⟩] w St.zero [.int .i64 2]:=by
 unfold Jc
 have hsz:(ByteArray.mk l.toArray).size=l.length:=by simp [ByteArray.size]
 have hl1:(8192:Int)<(l.length:Int):=by omega
 generalize (ByteArray.mk l.toArray)=S at *
 generalize l.length=N at *
 have LR:Hid ((w.alloc (.cells #[.slice none 0 0,.int .i64 0,.slice none 0 0] 26)).heap[w.heap.size]?=some (.cells #[.slice none 0 0,.int .i64 0,.slice none 0 0] 26)):=Za (Zg rfl)
 have HK:Hid (Zb w (w.alloc (.cells #[.slice none 0 0,.int .i64 0,.slice none 0 0] 26))):=Za ((Zb.refl w).alloc _)
 go_enter Tryd.func8,Tryd.ntmps8
 go_wp2_with fail
 generalize w.alloc (.cells #[.slice none 0 0,.int .i64 0,.slice none 0 0] 26)=wa at *
 generalize hRR:w.heap.size=R at LR ⊢
 have HR:Hid (w.heap.size≤R):=Za (by omega)
 clear hRR
 refine ((un HPC) _ (un HK)).mono ?_
 rintro _ w1 ⟨rfl,hk⟩
 replace LR:=Za (Zm hk (un LR))
 replace HK:=Za ((un HK).trans hk)
 clear hk HPC
 have x0:=Zd (un LR) 0
 have x1:=Zd (un LR) 1
 have x2:=Zd (un LR) 2
 have z0:=Zk (un LR) 0
 have z1:=Zk (un LR) 1
 have z2:=Zk (un LR) 2
 simp only [List.getElem?_toArray,List.getElem?_cons_zero,List.getElem?_cons_succ] at x0 x1 x2
 go_wp2_with fail
 have k1:=Zl (Zl (Zl (un LR) 0 (.slice none 0 0)) 1 (.int .i64 0)) 2 (.slice none 0 0)
 have t0:=Zd k1 0
 have t1:=Zd k1 1
 have t2:=Zd k1 2
 simp only [Array.setIfInBounds,List.size_toArray,List.length_cons,List.length_nil] at t0 t1 t2
 refine bodyPost_ret (v:=.tuple #[.agg #[.slice none 0 0,.int .i64 0,.slice none 0 0],.int .i64 2]) (by simp [results,Tryd.results8,go_sem,t0,t1,t2]) rfl ?_
 exact ⟨none,0,0,0,none,0,0,rfl,Ps _,(((un HK).setCell (p:=⟨R,0,none⟩) (un HR) _).setCell (p:=⟨R,1,none⟩) (un HR) _).setCell (p:=⟨R,2,none⟩) (un HR) _⟩
theorem Zrr (vp:Value) (l:List UInt8) (s:St) (er:Int) (hz:er≠0) (w:World) (hl:l.length≤8192) (hsm:Yi s)
  (HPC:Hid (∀ u,Zb w u→Calls Tryd.prog 20 #[vp] u fun e w'=>e=.returned (.int .i64 0)∧Zb u w'))
  (HWH:Hid (∀ u,Zb w u→Calls Tryd.prog 21 #[.string ⟨l.toArray⟩] u fun en w'=>∃ gf go,en=.returned (.tuple #[.agg #[.slice (some ⟨gf,0,none⟩) s.fibers.length s.fibers.length,.int .i64 s.now,.slice (some ⟨go,0,none⟩) s.out.length s.out.length],.int .i64 0])∧StN w' gf go s∧Zb u w'))
  (HSC:Hid (∀ u v,Zb w u→Zy u v s→Calls Tryd.prog 13 #[vp,v] u fun e w'=>e=.returned (.int .i64 er)∧Zb u w')) :
  Jc 8 #[vp,.string ⟨l.toArray⟩] w St.zero [.int .i64 1]:=by
 unfold Jc
 have hb:(er != 0)=true:=bne_iff_ne.2 hz
 have HSM:=Za hsm
 clear hsm hz
 generalize hla:s.fibers.length=la at *
 generalize hls:s.out.length=ls at *
 have HLA:=Za (And.intro hla hls)
 clear hla hls
 have LR:Hid ((w.alloc (.cells #[.slice none 0 0,.int .i64 0,.slice none 0 0] 26)).heap[w.heap.size]?=some (.cells #[.slice none 0 0,.int .i64 0,.slice none 0 0] 26)):=Za (Zg rfl)
 have HK:Hid (Zb w (w.alloc (.cells #[.slice none 0 0,.int .i64 0,.slice none 0 0] 26))):=Za ((Zb.refl w).alloc _)
 have hsz:(ByteArray.mk l.toArray).size=l.length:=by simp [ByteArray.size]
 have hl1:¬ (8192:Int)<(l.length:Int):=by omega
 generalize (ByteArray.mk l.toArray)=S at *
 generalize l.length=N at *
 go_enter Tryd.func8,Tryd.ntmps8
 go_wp2_with fail
 generalize w.alloc (.cells #[.slice none 0 0,.int .i64 0,.slice none 0 0] 26)=wa at *
 generalize hRR:w.heap.size=R at LR ⊢
 have HR:Hid (w.heap.size≤R):=Za (by omega)
 clear hRR
 refine ((un HPC) _ (un HK)).mono ?_
 rintro _ w1 ⟨rfl,hk⟩
 replace LR:=Za (Zm hk (un LR))
 replace HK:=Za ((un HK).trans hk)
 clear hk
 go_wp2_with fail
 refine ((un HWH) _ (un HK)).mono ?_
 rintro _ w2 ⟨gf,go,rfl,hst,hk⟩
 replace LR:=Za (Zr (Zm hk (un LR)) (.cells #[.slice (some ⟨gf,0,none⟩) la la,.int .i64 s.now,.slice (some ⟨go,0,none⟩) ls ls] 26))
 replace HK:=Za (((un HK).trans hk).alloc (.cells #[.slice (some ⟨gf,0,none⟩) la la,.int .i64 s.now,.slice (some ⟨go,0,none⟩) ls ls] 26))
 have hA:=(show StN (w2.alloc (.cells #[.slice (some ⟨gf,0,none⟩) la la,.int .i64 s.now,.slice (some ⟨go,0,none⟩) ls ls] 26)) gf go s from ⟨hst.1.stay (Zs.alloc _),hst.2.stay (Zs.alloc _)⟩).st (un HSM)
 rw [(un HLA).1,(un HLA).2] at hA
 have HS:=Za hA
 clear hA hst hk HPC HWH
 go_wp2_with fail
 generalize w2.alloc (.cells #[.slice (some ⟨gf,0,none⟩) la la,.int .i64 s.now,.slice (some ⟨go,0,none⟩) ls ls] 26)=w3 at *
 generalize w2.heap.size=X at *
 refine ((un HSC) _ _ (un HK) (un HS)).mono ?_
 rintro _ w4 ⟨rfl,hk⟩
 replace LR:=Za (Zm hk (un LR))
 replace HK:=Za ((un HK).trans hk)
 clear hk HS
 have x0:=Zd (un LR) 0
 have x1:=Zd (un LR) 1
 have x2:=Zd (un LR) 2
 have z0:=Zk (un LR) 0
 have z1:=Zk (un LR) 1
 have z2:=Zk (un LR) 2
 simp only [List.getElem?_toArray,List.getElem?_cons_zero,List.getElem?_cons_succ] at x0 x1 x2
 go_wp2_with fail
 have k1:=Zl (Zl (Zl (un LR) 0 (.slice none 0 0)) 1 (.int .i64 0)) 2 (.slice none 0 0)
 have t0:=Zd k1 0
 have t1:=Zd k1 1
 have t2:=Zd k1 2
 simp only [Array.setIfInBounds,List.size_toArray,List.length_cons,List.length_nil] at t0 t1 t2
 refine bodyPost_ret (v:=.tuple #[.agg #[.slice none 0 0,.int .i64 0,.slice none 0 0],.int .i64 1]) (by simp [results,Tryd.results8,go_sem,t0,t1,t2]) rfl ?_
 exact ⟨none,0,0,0,none,0,0,rfl,Ps _,(((un HK).setCell (p:=⟨R,0,none⟩) (un HR) _).setCell (p:=⟨R,1,none⟩) (un HR) _).setCell (p:=⟨R,2,none⟩) (un HR) _⟩
def Zbi (p:List Fn) (l:List UInt8):St × Int :=
 if Xh p=0 then if l.length≤8192 then match rdS l with
  | some (s,[])=>if Xa p s=0 then (s,0) else (St.zero,1)
  | _=>(St.zero,1) else (St.zero,2) else (St.zero,Xh p)
theorem Ztt (p:List Fn) (l:List UInt8) (vp:Value) (w:World) (hp:Zw w vp p) (hk:Je w):Jc 8 #[vp,.string ⟨l.toArray⟩] w (Zbi p l).1 [.int .i64 (Zbi p l).2]:=by
 have HPC:Hid (∀ u,Zb w u→Calls Tryd.prog 20 #[vp] u fun e w'=>e=.returned (.int .i64 (Xh p))∧Zb u w'):=Za fun u hu=>Zga p vp u (hp.kept hu) (hk.kept hu)
 unfold Zbi
 by_cases hz:Xh p=0
 ·rw [if_pos hz]
  rw [hz] at HPC
  by_cases hl:l.length≤8192
  ·rw [if_pos hl]
   cases hr:rdS l with
   | none=>exact Zhg vp l w hl HPC (Za fun u hu=>Ztw u l hr)
   | some q =>
    obtain ⟨s,r⟩:=q
    have hb:=(Zms hr).2
    have hwh:=fun u=>Zgs u l r s hr
    cases r with
    | cons b r'=>exact Zhg vp l w hl HPC (Za fun u _=>(hwh u).mono fun e w' h=>by unfold Zaj at h;rwa [if_neg (by simp)] at h)
    | nil =>
     have hwh2:=fun u=>(hwh u).mono fun e w' h=>by unfold Zaj at h;rwa [if_pos rfl] at h
     by_cases hs:Xa p s=0
     ·simp only [hs,if_true]
      refine Zna vp l s w hl hb.small HPC (Za fun u _=>hwh2 u) (Za fun u v hu hv=>?_)
      have:=Zfs p s vp v u (hp.kept hu) hv (hk.kept hu)
      rwa [hs] at this
     ·simp only [hs,if_false]
      exact Zrr vp l s _ hs w hl hb.small HPC (Za fun u _=>hwh2 u) (Za fun u v hu hv=>Zfs p s vp v u (hp.kept hu) hv (hk.kept hu))
  ·rw [if_neg hl]
   exact Zvo vp l (by omega) w HPC
 ·rw [if_neg hz]
  exact Zqv vp _ _ hz w HPC
open Go.RowKit Go.Maps
def Qw (w0 w:World) (cv:Value) (l:List UInt8):Prop:=w.ownsRow w0.heap.size 5 1 cv l.length (Jh l)∧Zb w0 w
theorem Qw.kept {w0 w w':World} {cv:Value} {l:List UInt8} (h:Qw w0 w cv l) (k:Zb w w'):Qw w0 w' cv l :=
 ⟨Jl h.1 (fun g hg=>k.block g (World.ownsRow.lt h.1 g hg).2),h.2.trans k⟩
def ByK (w w':World):Prop:=∀ (b:Nat) (c:Array Value) (t:TypeId),t≠5→w.heap[b]?=some (.cells c t)→w'.heap[b]?=some (.cells c t)
theorem ByK.trans {a b c:World} (h:ByK a b) (k:ByK b c):ByK a c:=fun g d t ht hg=>k g d t ht (h g d t ht hg)
theorem ByK.kept {w w':World} (h:Zb w w'):ByK w w':=fun _ _ _ _ hb=>Zm h hb
theorem Zcu (w0 w:World) (cv:Value) (l e:List UInt8) (a:Addr) (c:Nat) (h:Qw w0 w cv l) (hnews:∀ j u,(Jh e)[j]?=some u→w.cell? (a.add j)=some u) (hl:l.length+e.length≤100000000000) :
  ∃ v' w',(Builtin.append_ #[40,40] 40 #[cv,.slice (some a) e.length c]).run Tryd.prog w=.ok v' w'∧Qw w0 w' v' (l++e)∧ByK w w':=by
 obtain ⟨i0,hi0,hz0,hz1,hz2⟩:=info_parts Zlb
 obtain ⟨hrow,hk⟩:=h
 obtain ⟨v',w2,hrun,hown,hgrow,_,_⟩:=run_append_own_at (P:=Tryd.prog) _ w0.heap.size 40 40 5 i0 _ 1 1 Tryd.underlying40 hi0 hz0 hz1 hz2 rfl (by decide) _ l.length (Jh l) hrow a e.length c (Jh e) (by simp [Jh]) hnews (fun x hx=>by
   obtain ⟨b,_,rfl⟩:=List.mem_map.1 hx
   rfl) (by unfold maxLen;omega) (by omega) hk.size
 refine ⟨v',w2,hrun,⟨?_,Below.grown hk hgrow hk.size (fun g hg=>(World.ownsRow.lt hrow g hg).1)⟩,fun b c t ht hb=>?_⟩
 ·rw [List.length_append,show Jh (l++e)=Jh l++Jh e by simp [Jh]]
  exact hown
 ·refine (hgrow.block b (Array.getElem?_eq_some_iff.1 hb).1 (fun e=>?_)).trans hb
  obtain ⟨_,⟨h0,_⟩ | ⟨g,_,cur',h0,_,hh,_⟩⟩:=hrow
  ·rw [h0] at e;cases e
  ·rw [h0] at e
   obtain rfl:b=g:=by simpa [Value.ownBlock] using e
   rw [hb] at hh
   simp only [Option.some.injEq,Obj.cells.injEq] at hh
   exact ht hh.2.1
theorem Zrw (w0 w:World) (cv:Value) (l:List UInt8) (b:UInt8) (X:Int) (h:Qw w0 w cv l) (hX:X=(b.toNat:Int)) (hl:l.length+1≤100000000000) :
  ∃ v' w',(Builtin.append_ #[40,40] 40 #[cv,.slice (some ⟨w.heap.size,0,none⟩) 1 1]).run Tryd.prog (w.alloc (.cells #[.int .u8 X] 5))=.ok v' w'∧Qw w0 w' v' (l++[b])∧ByK w w':=by
 have hL:(w.alloc (.cells #[.int .u8 X] 5)).heap[w.heap.size]?=some (.cells #[.int .u8 X] 5):=Zg rfl
 obtain ⟨v',w',q1,q2,q3⟩:=Zcu w0 _ cv l [b] ⟨w.heap.size,0,none⟩ 1 (h.kept (Zb.refl w |>.alloc _)) (fun j u hj=>by
  have:((⟨w.heap.size,0,none⟩:Addr).add j)=⟨w.heap.size,j,none⟩:=by unfold Addr.add;split <;> simp_all
  rw [this,Zd hL,hX];simpa [Jh] using hj) hl
 exact ⟨v',w',q1,q2,(ByK.kept ((Zb.refl w).alloc _)).trans q3⟩
theorem Zru (v:Int) (k:Nat) (hk:k<8):IntKind.u64.wrap v / 2 ^ (56 - 8*k) % 256=((Xg (v / 2 ^ (56 - 8*k))).toNat:Int):=by
 rw [Zat,IntKind.wrap_u64]
 obtain rfl | rfl | rfl | rfl | rfl | rfl | rfl | rfl:k=0∨k=1∨k=2∨k=3∨k=4∨k=5∨k=6∨k=7:=by omega
 all_goals simp only [Nat.reduceMul,Nat.reduceSub,Int.reducePow,Nat.mul_zero,Nat.sub_zero];omega
theorem Xcf (w:World) (v:Int):Calls Tryd.prog 38 #[.int .i64 v] w fun en w'=>∃ cv,en=.returned cv∧Qw w w' cv (Qd v):=by
 have H0:Hid (Qw w w (.slice none 0 0) []):=Za ⟨World.ownsRow_nil _ _ _ _,Zb.refl w⟩
 go_enter Tryd.func38,Tryd.ntmps38
 go_wp2
 go_loopw [4,5] (fun s4 s5 wr=>∃ k:Nat,k≤8∧s5=.int .i64 (56 - 8*(k:Int))∧Hid (Qw w wr s4 ((Qd v).take k))) (fun _ s5 _=>((intOf s5)+8).toNat)
 case atStart=>exact ⟨0,by omega,rfl,by simpa using H0⟩
 case round =>
  obtain ⟨k,hk8,rfl,HW⟩:=hrel
  by_cases hk:k<8
  ·have g0:(0:Int)≤56 - 8*(k:Int):=by omega
   have g1:¬ (56 - 8*(k:Int))<0:=by omega
   have g2:min (56 - 8*(k:Int)).toNat 64=56 - 8*k:=by omega
   obtain ⟨v2,w2,hrun,hby,_⟩:=Zrw w wr u4 _ _ _ (un HW) (Zru v k hk) (by simp [Pe];omega)
   have HR:=Za hrun
   have HN:Hid (Qw w w2 v2 ((Qd v).take (k+1))):=Za (by rwa [List.take_add_one,Zkm v hk,Option.toList_some])
   clear hrun hby HW
   go_wp2_with (at_builtin;refine un ?_)
   refine Za ?_
   refine Zai _ rfl (.tmp 12) (.tmp 17) 40 rfl rfl rfl (un HR) ?_
   clear HR
   go_wp2_with fail
   go_roundw
   case rel=>exact ⟨k+1,by omega,by go_num,HN⟩
   case measure=>simp [intOf];omega
  ·obtain rfl:k=8:=by omega
   go_wp2
   go_ret
   exact ⟨_,rfl,by have:=un HW;rwa [List.take_of_length_le (by rw [Pe];omega)] at this⟩
theorem Qw.news {w0 w:World} {cv:Value} {l:List UInt8} (h:Qw w0 w cv l) (hl:0<l.length):∃ g c,cv=.slice (some ⟨g,0,none⟩) l.length c∧∀ j u,(Jh l)[j]?=some u→w.cell? ((⟨g,0,none⟩:Addr).add j)=some u:=by
 obtain ⟨oa,cap,rfl,h1⟩:=Zag h.1
 obtain ⟨g,_,rfl,_⟩:=h1 hl
 exact ⟨g,cap,rfl,World.ownsRow.cells h.1 rfl⟩
theorem Qw.low {w0 w1 w:World} {cv:Value} {l:List UInt8} (h:Qw w1 w cv l) (k:Zb w0 w1):Qw w0 w cv l:=by
 refine ⟨⟨h.1.1,?_⟩,k.trans h.2⟩
 rcases h.1.2 with hn | ⟨g,cap,cur,rfl,hb,r⟩
 ·exact .inl hn
 ·exact .inr ⟨g,cap,cur,rfl,Nat.le_trans k.size hb,r⟩
theorem Zwr (w:World) (b:UInt8) (X:Int) (hX:X=(b.toNat:Int)):Qw w (w.alloc (.cells #[.int .u8 X] 5)) (.slice (some ⟨w.heap.size,0,none⟩) 1 1) [b]:=by
 refine ⟨⟨by simp [Jh],.inr ⟨w.heap.size,1,#[.int .u8 X],rfl,Nat.le_refl _,Zg rfl,Nat.le_refl _,by unfold maxLen;omega,rfl,?_⟩⟩,(Zb.refl w).alloc _⟩
 simp [Jh,hX]
theorem Zhl (w:World) (vl:Value) (l:List Int) (h:Xn w vl l) (hl:l.length≤1000000000):Calls Tryd.prog 19 #[vl] w fun en w'=>∃ cv,en=.returned cv∧Qw w w' cv (Xp Qd l):=by
 obtain ⟨oa,cap,rfl,hn,hi⟩:=h
 have H0:Hid (∀ X:Int,X=((Xg l.length).toNat:Int)→Qw w (w.alloc (.cells #[.int .u8 X] 5)) (.slice (some ⟨w.heap.size,0,none⟩) 1 1) [Xg l.length]):=Za fun X hX=>Zwr w _ X hX
 have hB:(l.length:Int) % 256=((Xg l.length).toNat:Int):=(Zat l.length).symm
 generalize hN:l.length=n at *
 have HN:=Za hN
 have HI:=Za hi
 have HB:=Za hB
 clear hi hN hn hB
 go_enter Tryd.func19,Tryd.ntmps19
 go_wp2_with fail
 go_loopw [3,4] (fun s3 s4 wr=>∃ k:Nat,k≤n∧s4=.int .i64 k∧Hid (Qw w wr s3 ([Xg n]++(l.take k).flatMap Qd))) (fun _ s4 _=>n - (intOf s4).toNat)
 case atStart=>exact ⟨0,Nat.zero_le _,rfl,Za (by simpa using (un H0) _ (un HB))⟩
 case round =>
  obtain ⟨k,hkm,rfl,HW⟩:=hrel
  by_cases hk:k<n
  ·obtain ⟨x,hx⟩:∃ x,l[k]?=some x:=⟨_,List.getElem?_eq_getElem (by rw [un HN];exact hk)⟩
   have hk0:(0:Int)≤(k:Int):=by omega
   have hk1:(k:Int)<(n:Int):=by omega
   obtain ⟨b,o,rfl,c0⟩:=(un HI) k x hx
   replace c0:=(un HW).2.cell c0
   have HC:=Za (Xcf wr x)
   have HX:=Za hx
   clear hx
   go_wp2_with fail
   refine (un HC).mono ?_
   rintro _ w2 ⟨cv,rfl,h2⟩
   obtain ⟨g,c,rfl,hnews⟩:=h2.news (by rw [Pe];omega)
   obtain ⟨v3,w3,hrun,hby,_⟩:=Zcu w w2 u3 _ _ _ c ((un HW).kept h2.2) hnews (by rw [Pe];have:=Zib Qd 8 (l.take k) (fun x _=>Nat.le_of_eq (Pe x));simp only [List.length_append,List.length_cons,List.length_nil,List.length_take] at this ⊢;omega)
   rw [Pe] at hrun
   have HR:=Za hrun
   have HN2:Hid (Qw w w3 v3 ([Xg n]++(l.take (k+1)).flatMap Qd)):=Za (by rw [Zbz Qd l (un HX),← List.append_assoc];exact hby)
   simp only [Pe]
   clear h2 hnews hrun hby HW HC
   go_wp2_with (at_builtin;refine un ?_)
   refine Za ?_
   refine Zai _ rfl (.tmp 15) (.tmp 20) 40 rfl rfl rfl (un HR) ?_
   clear HR
   go_wp2_with fail
   go_roundw
   case rel=>exact ⟨k+1,by omega,by go_num,HN2⟩
   case measure=>simp [intOf];omega
  ·obtain rfl:k=n:=by omega
   go_wp2
   go_ret
   refine ⟨_,rfl,?_⟩
   have:=un HW
   rw [List.take_of_length_le (by rw [un HN];omega)] at this
   simpa [Xp,un HN] using this
theorem Zuz (w:World) (e:List UInt8) (c:Array Value) (n:Nat) (hc:c.toList=Jh e) (hn:e.length=n) (h1:n≤1000):Qw w (w.alloc (.cells c 5)) (.slice (some ⟨w.heap.size,0,none⟩) n n) e:=by
 have hs:c.size=n:=by rw [← Array.length_toList,hc];simpa [Jh] using hn
 refine ⟨⟨by simp [Jh],.inr ⟨w.heap.size,n,c,by rw [hn],Nat.le_refl _,Zg rfl,by omega,by unfold maxLen;omega,by omega,?_⟩⟩,(Zb.refl w).alloc _⟩
 rw [hc,List.take_of_length_le (by simp [Jh])]
theorem Zkh (w0 w:World) (cv:Value) (l e:List UInt8) (c:Array Value) (n:Nat) (h:Qw w0 w cv l) (hc:c.toList=Jh e) (hn:e.length=n) (hl:l.length+n≤100000000000) :
  ∃ v' w',(Builtin.append_ #[40,40] 40 #[cv,.slice (some ⟨w.heap.size,0,none⟩) n n]).run Tryd.prog (w.alloc (.cells c 5))=.ok v' w'∧Qw w0 w' v' (l++e)∧ByK w w':=by
 subst hn
 have hL:(w.alloc (.cells c 5)).heap[w.heap.size]?=some (.cells c 5):=Zg rfl
 obtain ⟨v',w',q1,q2,q3⟩:=Zcu w0 _ cv l e ⟨w.heap.size,0,none⟩ _ (h.kept (Zb.refl w |>.alloc _)) (fun j u hj=>by
  have:((⟨w.heap.size,0,none⟩:Addr).add j)=⟨w.heap.size,j,none⟩:=by unfold Addr.add;split <;> simp_all
  rw [this,Zd hL,← hj,← hc,Array.getElem?_toList]) hl
 exact ⟨v',w',q1,q2,(ByK.kept ((Zb.refl w).alloc _)).trans q3⟩
theorem Zhi (x y:Int):(#[Value.int .u8 (x % 256),Value.int .u8 (y % 256)]:Array Value).toList=Jh [Xg x,Xg y]:=by simp [Jh,Zat]
theorem Znf (w:World) (s:St) (oa oo:Option Addr) (n m cap co:Nat) (c:Int) (hs:Zy w (.agg #[.slice oa n cap,.int .i64 c,.slice oo m co]) s) (HB:Hid (StB s)) (hl:(Xk s).length≤100000000000) :
  Calls Tryd.prog 7 #[.agg #[.slice oa n cap,.int .i64 c,.slice oo m co]] w fun en w'=>en=.returned (.string ⟨(Xk s).toArray⟩)∧Zb w w':=by
 obtain ⟨vf,vo,e,hf,ho⟩:=hs
 simp only [Value.agg.injEq,Array.mk.injEq,List.cons.injEq,and_true,Value.int.injEq,true_and] at e
 obtain ⟨rfl,rfl,rfl⟩:=e
 obtain ⟨oa',cap',e,hn,hi⟩:=hf
 simp only [Value.slice.injEq] at e
 obtain ⟨rfl,rfl,rfl⟩:=e
 have HF:=Za hi
 have HO:=Za ho
 have HL:=Za hl
 have hnow:=(un HB).now
 have hw1:wrap64 (s.now+1)=s.now+1:=by unfold wrap64;omega
 generalize hN:s.fibers.length=n at *
 have HN:=Za hN
 have HN9:Hid (n<256):=Za (by have:=(un HB).fibers;omega)
 have hn9:n≤8796093022208000:=by have:=un HN9;omega
 clear hi ho hl hn hnow hN
 go_enter Tryd.func7,Tryd.ntmps7
 go_wp2_with fail
 obtain ⟨k9,l9⟩:=Jm (Zb.refl w) #[.slice oa n cap,.int .i64 s.now,.slice oo m co] 26
 have HS0:Hid (∀ u:World,Qw u (u.alloc (.cells #[.int .u8 ((s.now+1) % 256),.int .u8 ((n:Int) % 256)] 5)) (.slice (some ⟨u.heap.size,0,none⟩) 2 2) [Xg (s.now+1),Xg n]):=Za fun u=>Zuz u _ _ 2 (Zhi _ _) rfl (by omega)
 have HK:=Za k9
 have HLx:=Za l9
 have HS1:=Za ((un HS0) (w.alloc (.cells #[.slice oa n cap,.int .i64 s.now,.slice oo m co] 26)))
 have hsz:(w.alloc (.cells #[.slice oa n cap,.int .i64 s.now,.slice oo m co] 26)).heap.size=w.heap.size+1:=by simp
 rw [hsz] at HS1
 clear k9 l9 HS0
 generalize w.alloc (.cells #[.slice oa n cap,.int .i64 s.now,.slice oo m co] 26)=w1 at *
 generalize w.heap.size=B0 at *
 rw [hw1]
 clear hw1
 go_loopw [3,4] (fun s3 s4 wr=>∃ k:Nat,k≤n∧s4=.int .i64 k∧Hid (Qw w1 wr s3 ([Xg (s.now+1),Xg n]++(s.fibers.take k).flatMap Ja))) (fun _ s4 _=>n - (intOf s4).toNat)
 case atStart=>exact ⟨0,Nat.zero_le _,rfl,Za (by simpa using un HS1)⟩
 case round =>
  obtain ⟨k,hkn,rfl,HW⟩:=hrel
  have l9:=Zm (un HW).2 (un HLx)
  have a0:=Zd l9 0
  have a2:=Zd l9 2
  clear l9
  by_cases hk:k<n
  ·obtain ⟨x,hx⟩:∃ x,s.fibers[k]?=some x:=⟨_,List.getElem?_eq_getElem (by rw [un HN];exact hk)⟩
   have hk0:(0:Int)≤(k:Int):=by omega
   have hk1:(k:Int)<(n:Int):=by omega
   obtain ⟨b,o,vf,rfl,c0,c1,hfr⟩:=(un HF) k x hx
   have kk:=(un HK).trans (un HW).2
   replace c0:=kk.cell c0
   replace c1:=kk.cell c1
   obtain ⟨oF,cf,rfl,hnf,hif⟩:=hfr
   have HIF:=Za hif
   have HX:=Za hx
   clear kk hif hx
   have hc:=(un HB).fiber x (List.mem_of_getElem? (un HX))
   have hw2:wrap64 (x.caller+1)=x.caller+1:=by have:=hc.1;have:=hc.2.1;unfold wrap64;omega
   have HQ:=Za hc
   have HLK:Hid (([Xg (s.now+1),Xg n]++(s.fibers.take k).flatMap Ja).length+(Ja x).length≤100000000000):=Za (by
    have h1:=Zdt Ja s.fibers (un HX)
    have h2:=un HL
    simp only [Xk,Xp,List.length_cons,List.length_append,List.length_nil] at h2 ⊢
    omega)
   have HFB:Hid ((Ja x).length=2+(x.frames.flatMap Qx).length):=Za (by simp [Ja,Xp];omega)
   obtain ⟨v2,w2,hrun,hby,hbk⟩:=Zkh w1 (wr.alloc (.cells #[.slice oF x.frames.length cf,.int .i64 x.caller] 46)) u3 _ [Xg (x.caller+1),Xg x.frames.length] _ 2 ((un HW).kept ((Zb.refl wr).alloc _)) (Zhi (x.caller+1) x.frames.length) rfl (by have:=un HLK;have:=un HFB;omega)
   have hz2:(wr.alloc (.cells #[.slice oF x.frames.length cf,.int .i64 x.caller] 46)).heap.size=wr.heap.size+1:=by simp
   rw [hz2] at hrun
   have HR:=Za hrun
   have HBy:=Za hby
   have HLf:=Za (hbk wr.heap.size _ _ (by decide) (Zg (w:=wr) (o:=.cells #[.slice oF x.frames.length cf,.int .i64 x.caller] 46) rfl))
   clear hrun hby hbk hc hz2 HW
   go_wp2_with (at_builtin;refine un ?_)
   refine Za ?_
   refine Zai _ rfl (.tmp 28) (.tmp 37) 40 rfl rfl rfl (un HR) ?_
   clear HR a0 a2 c0 c1
   go_wp2_with fail
   generalize hNF:x.frames.length=nf at *
   generalize hPRE:([Xg (s.now+1),Xg n]++(s.fibers.take k).flatMap Ja++[Xg (x.caller+1),Xg nf])=pre at *
   generalize wr.heap.size=F0 at *
   have HLP:Hid (pre.length+(x.frames.flatMap Qx).length≤100000000000):=Za (by
    have h1:=un HLK
    have h2:=un HFB
    rw [← hPRE]
    simp only [List.length_append,List.length_cons,List.length_nil] at h1 ⊢
    omega)
   go_loopw [3,6] (fun s3 s6 wi=>∃ i:Nat,i≤nf∧s6=.int .i64 i∧Hid (Qw w1 wi s3 (pre++(x.frames.take i).flatMap Qx)∧wi.heap[F0]?=some (.cells #[.slice oF nf cf,.int .i64 x.caller] 46))) (fun _ s6 _=>nf - (intOf s6).toNat)
   case atStart=>exact ⟨0,Nat.zero_le _,rfl,Za ⟨by simpa using un HBy,un HLf⟩⟩
   case round =>
    obtain ⟨i,hin,rfl,HW⟩:=hrel
    have a0:=Zd (un HW).2 0
    by_cases hi:i<nf
    ·obtain ⟨y,hy⟩:∃ y,x.frames[i]?=some y:=⟨_,List.getElem?_eq_getElem (by rw [hNF];exact hi)⟩
     have hi0:(0:Int)≤(i:Int):=by omega
     have hi1:(i:Int)<(nf:Int):=by omega
     obtain ⟨b',o',vl,vs,rfl,d0,d1,d2,d3,hvl,hvs⟩:=(un HIF) i y hy
     have kk:=un HK
     replace d0:=kk.cell d0
     replace d1:=kk.cell d1
     replace d2:=kk.cell d2
     replace d3:=kk.cell d3
     have HV:=Za (And.intro (hvl.kept kk) (hvs.kept kk))
     have HY:=Za hy
     have HLY:Hid ((pre++(x.frames.take i).flatMap Qx).length+(Qx y).length≤100000000000):=Za (by
      have h1:=Zdt Qx x.frames hy
      have h2:=un HLP
      simp only [List.length_append] at h2 ⊢
      omega)
     have HFL:Hid ((Qx y).length=2+(Xp Qd y.locals).length+(Xp Qd y.stack).length):=Za (by simp [Qx];omega)
     clear kk hy hvl hvs
     obtain ⟨hW1,hW2⟩:=un HW
     have HWd:=Za (hW1.kept ((Zb.refl wr).drew))
     obtain ⟨v3,w3,hrun,hby,hbk⟩:=Zkh w1 wr.drew u3 _ [Xg y.fn,Xg y.at_] _ 2 (un HWd) (Zhi y.fn y.at_) rfl (by have:=un HLY;have:=un HFL;omega)
     have HS0:Hid (Zb w1 wr.drew∧wr.drew.heap[F0]?=some (.cells #[.slice (some ⟨b',o',none⟩) nf cf,.int .i64 x.caller] 46)):=Za ⟨(un HWd).2,hW2⟩
     have HS1:Hid (Zb w1 (wr.drew.alloc (.cells #[.int .u8 (y.fn % 256),.int .u8 (y.at_ % 256)] 5))∧(wr.drew.alloc (.cells #[.int .u8 (y.fn % 256),.int .u8 (y.at_ % 256)] 5)).heap[F0]?=some (.cells #[.slice (some ⟨b',o',none⟩) nf cf,.int .i64 x.caller] 46)):=Za ⟨(un HWd).2.alloc _,Zr hW2 _⟩
     have HS3:Hid (Zb w1 w3∧w3.heap[F0]?=some (.cells #[.slice (some ⟨b',o',none⟩) nf cf,.int .i64 x.caller] 46)):=Za ⟨hby.2,hbk _ _ _ (by decide) hW2⟩
     have HR:=Za hrun
     have HB3:=Za hby
     clear hrun hby hbk hW1 hW2 HW HWd
     go_wp2_with fail
     refine wp_region_held_drew (S:=fun q=>Zb w1 q∧q.heap[F0]?=some (.cells #[.slice (some ⟨b',o',none⟩) nf cf,.int .i64 x.caller] 46)) (by kernel_rfl) (un HS0) (fun hHeld=>?_)
     refine Xd [0,1,2,3,4,5,6,7,8,9,10,11,12,13,14] ?_
     repeat
      refine Xe (v:=?_) hHeld (fun u hSu=>?_) ?_
      rotate_left
      ·(have y0:=Zd hSu.2 0;have y1:=Zb.cell hSu.1 d0;have y2:=Zb.cell hSu.1 d1;(try dsimp only at y0 y1 y2);go_simp) <;> with_reducible rfl
      try simp only [PS]
     refine Xc ?_
     refine Xw (i:=15) rfl (by kernel_rfl) (fun K hK=>?_)
     go_simp
     refine hK.out _ _ (un HS1) (fun hHeld=>?_)
     clear hK K
     try simp only [PS]
     refine Xw (i:=16) rfl (by kernel_rfl) (fun K hK=>?_)
     rw [if_pos (by rfl)]
     refine Yp _ _ _ 40 rfl rfl rfl (un HR) ?_
     refine hK.out _ _ (un HS3) (fun hHeld=>?_)
     clear hK K HR HS1 HS0
     try simp only [PS]
     refine Xw (i:=17) rfl (by kernel_rfl) (fun K hK=>?_)
     go_simp
     refine hK.out _ _ hHeld (fun hHeld=>?_)
     clear hK K
     try simp only [PS]
     refine wpAnyH_done (by kernel_rfl) ?_ _
     clear hHeld
     have hq:=(un HQ).2.2.2 y (List.mem_of_getElem? (un HY))
     have HM1:Hid (∀ u,Zb w1 u→Calls Tryd.prog 19 #[vl] u fun en w'=>∃ cv,en=.returned cv∧Qw u w' cv (Xp Qd y.locals)):=Za fun u hu=>Zhl u vl _ ((un HV).1.kept hu) (by have:=hq.2.2.1.1;omega)
     have HM2:Hid (∀ u,Zb w1 u→Calls Tryd.prog 19 #[vs] u fun en w'=>∃ cv,en=.returned cv∧Qw u w' cv (Xp Qd y.stack)):=Za fun u hu=>Zhl u vs _ ((un HV).2.kept hu) (by have:=hq.2.2.2.1;omega)
     have HS4:Hid (Zb w1 w3.drew∧w3.drew.heap[F0]?=some (.cells #[.slice (some ⟨b',o',none⟩) nf cf,.int .i64 x.caller] 46)):=Za ⟨(un HS3).1.drew,(un HS3).2⟩
     obtain ⟨ol,cl,rfl,_⟩:=(un HV).1
     obtain ⟨os,cs,rfl,_⟩:=(un HV).2
     clear hq HS3
     go_wp2_with fail
     refine wp_region_held_drew (S:=fun q=>Zb w1 q∧q.heap[F0]?=some (.cells #[.slice (some ⟨b',o',none⟩) nf cf,.int .i64 x.caller] 46)) (by kernel_rfl) (un HS4) (fun hHeld=>?_)
     refine Xd [0,1,2,3,4,5,6,9,10,11,12,13,14] ?_
     repeat
      refine Xe (v:=?_) hHeld (fun u hSu=>?_) ?_
      rotate_left
      ·(have y0:=Zd hSu.2 0;have y1:=Zb.cell hSu.1 d2;have y2:=Zb.cell hSu.1 d3;(try dsimp only at y0 y1 y2);go_simp) <;> with_reducible rfl
      try simp only [PS]
     refine Xc ?_
     have HC:=Za ((un HM1) w3.drew hHeld.1)
     refine Xw (i:=7) rfl (by kernel_rfl) (fun K hK=>?_)
     go_simp
     refine (un HC).mono ?_
     rintro _ w4 ⟨cv,rfl,h4⟩
     obtain ⟨g4,c4,rfl,hn4⟩:=h4.news (by simp [Xp])
     obtain ⟨v5,w5,hrun,hby,hbk⟩:=Zcu w1 w4 v3 _ _ _ c4 (((un HB3).kept ((Zb.refl w3).drew)).kept h4.2) hn4 (by have:=un HLY;have:=un HFL;simp only [List.length_append,List.length_cons,List.length_nil] at *;omega)
     have hS:Zb w1 w4∧w4.heap[F0]?=some (.cells #[.slice (some ⟨b',o',none⟩) nf cf,.int .i64 x.caller] 46):=⟨hHeld.1.trans h4.2,Zm h4.2 hHeld.2⟩
     have hS5:Zb w1 w5∧w5.heap[F0]?=some (.cells #[.slice (some ⟨b',o',none⟩) nf cf,.int .i64 x.caller] 46):=⟨hby.2,hbk _ _ _ (by decide) hS.2⟩
     have HR:=Za hrun
     have HB5:=Za hby
     clear h4 hn4 hrun hby hbk HC HM1
     refine hK.out _ _ hS (fun hHeld=>?_)
     clear hK K
     try simp only [PS]
     refine Xw (i:=8) rfl (by kernel_rfl) (fun K hK=>?_)
     rw [if_pos (by rfl)]
     refine Yp _ _ _ 40 rfl rfl rfl (un HR) ?_
     refine hK.out _ _ hS5 (fun hHeld=>?_)
     clear hK K HR hS
     try simp only [PS]
     have HC:=Za ((un HM2) w5 hHeld.1)
     refine Xw (i:=15) rfl (by kernel_rfl) (fun K hK=>?_)
     go_simp
     refine (un HC).mono ?_
     rintro _ w6 ⟨cv,rfl,h4⟩
     obtain ⟨g6,c6,rfl,hn4⟩:=h4.news (by simp [Xp])
     obtain ⟨v7,w7,hrun,hby,hbk⟩:=Zcu w1 w6 v5 _ _ _ c6 ((un HB5).kept h4.2) hn4 (by have:=un HLY;have:=un HFL;simp only [List.length_append,List.length_cons,List.length_nil] at *;omega)
     have hS:Zb w1 w6∧w6.heap[F0]?=some (.cells #[.slice (some ⟨b',o',none⟩) nf cf,.int .i64 x.caller] 46):=⟨hHeld.1.trans h4.2,Zm h4.2 hHeld.2⟩
     have hS7:Zb w1 w7∧w7.heap[F0]?=some (.cells #[.slice (some ⟨b',o',none⟩) nf cf,.int .i64 x.caller] 46):=⟨hby.2,hbk _ _ _ (by decide) hS.2⟩
     have HR:=Za hrun
     have HN:Hid (Qw w1 w7 v7 (pre++(x.frames.take (i+1)).flatMap Qx)∧w7.heap[F0]?=some (.cells #[.slice (some ⟨b',o',none⟩) nf cf,.int .i64 x.caller] 46)):=Za ⟨by
      rw [Zbz Qx x.frames (un HY)]
      simpa [Qx,List.append_assoc] using hby,hS7.2⟩
     clear h4 hn4 hrun hby hbk HC HM2
     refine hK.out _ _ hS (fun hHeld=>?_)
     clear hK K
     try simp only [PS]
     refine Xw (i:=16) rfl (by kernel_rfl) (fun K hK=>?_)
     rw [if_pos (by rfl)]
     refine Yp _ _ _ 40 rfl rfl rfl (un HR) ?_
     refine hK.out _ _ hS7 (fun hHeld=>?_)
     clear hK K HR hS
     try simp only [PS]
     refine Xw (i:=17) rfl (by kernel_rfl) (fun K hK=>?_)
     go_simp
     refine hK.out _ _ hHeld (fun hHeld=>?_)
     clear hK K
     try simp only [PS]
     refine wpAnyH_done (by kernel_rfl) ?_ _
     clear hHeld hS5 hS7 a0 d0 d1 d2 d3
     go_wp2_with fail
     go_roundw
     case rel=>exact ⟨i+1,by omega,by go_num,HN⟩
     case measure=>simp [intOf];omega
    ·obtain rfl:i=nf:=by omega
     have HN:Hid (Qw w1 wr u3 ([Xg (s.now+1),Xg n]++(s.fibers.take (k+1)).flatMap Ja)):=Za (by
      have h1:=(un HW).1
      rw [List.take_of_length_le (by omega),← hPRE] at h1
      rw [Zbz Ja s.fibers (un HX)]
      simpa [Ja,Xp,hNF,List.append_assoc] using h1)
     clear HW
     go_wp2_with fail
     go_roundw
     case rel=>exact ⟨k+1,by omega,by go_num,HN⟩
     case measure=>simp [intOf];omega
  ·obtain rfl:k=n:=by omega
   have kk:=(un HK).trans (un HW).2
   obtain ⟨oO,cO,e,_⟩:=id (un HO)
   have HM:=Za (Zhl wr _ s.out ((un HO).kept kk) (by have:=(un HB).out.1;omega))
   clear kk e
   go_wp2_with fail
   refine (un HM).mono ?_
   rintro _ w4 ⟨cv,rfl,h4⟩
   obtain ⟨g4,c4,rfl,hn4⟩:=h4.news (by simp [Xp])
   obtain ⟨v5,w5,hrun,hby,hbk⟩:=Zcu w1 w4 u3 _ _ _ c4 ((un HW).kept h4.2) hn4 (by
    have h1:=un HL
    rw [List.take_of_length_le (by rw [un HN];omega)]
    simp only [Xk,Xp,List.length_append,List.length_cons,List.length_nil] at *
    omega)
   have hby2:Qw w1 w5 v5 (Xk s):=by
    rw [List.take_of_length_le (by rw [un HN];omega)] at hby
    simpa [Xk,Xp,un HN,List.append_assoc] using hby
   obtain ⟨g5,c5,rfl,hn5⟩:=hby2.news (by simp [Xk])
   have hcv:=run_convert_bytes_back (P:=Tryd.prog) w5 40 9 5 ⟨g5,0,none⟩ c5 (Xk s) Tryd.underlying40 Tryd.underlying5 Tryd.underlying9 (fun j hj=>hn5 j _ (by simp [Jh,hj]))
   have HR:=Za hrun
   have HK5:=Za ((un HK).trans hby2.2)
   generalize hNN:(Xk s).length=NN at *
   clear h4 hn4 hrun hby hbk hby2 hn5 HM HW a0 a2 hNN HL
   go_wp2_with (at_builtin;refine un ?_)
   refine Za ?_
   refine Zai _ rfl (.tmp 80) (.tmp 83) 40 rfl rfl rfl (un HR) ?_
   clear HR
   go_wp2_with fail
   go_ret
   exact ⟨rfl,un HK5⟩
def eaN:List UInt8→Nat × List UInt8
 | []=>(0,[])
 | b :: r=>(b.toNat,r)
def eaK:Nat→Int→List UInt8→Int × List UInt8
 | 0,v,l=>(v,l)
 | k+1,v,l=>eaK k (IntKind.i64.wrap (v*256+((eaN l).1:Int))) (eaN l).2
def eaV (l:List UInt8):Int × List UInt8:=eaK 8 0 l
def eaL {α:Type} (f:List UInt8→α × List UInt8):Nat→List UInt8→List α × List UInt8
 | 0,l=>([],l)
 | n+1,l=>((f l).1 :: (eaL f n (f l).2).1,(eaL f n (f l).2).2)
def Qi {α:Type} (f:List UInt8→α × List UInt8) (l:List UInt8):List α × List UInt8:=eaL f (eaN l).1 (eaN l).2
def eaF (l:List UInt8):Fr × List UInt8 :=
 let a:=eaN l
 let b:=eaN a.2
 let x:=Qi eaV b.2
 let y:=Qi eaV x.2
 (⟨a.1,b.1,x.1,y.1⟩,y.2)
def eaB (l:List UInt8):Fb × List UInt8 :=
 let a:=eaN l
 let x:=Qi eaF a.2
 (⟨x.1,(a.1:Int) - 1⟩,x.2)
def eaS (l:List UInt8):St × List UInt8 :=
 let a:=eaN l
 let x:=Qi eaB a.2
 let y:=Qi eaV x.2
 (⟨x.1,(a.1:Int) - 1,y.1⟩,y.2)
theorem Znr:∀ (k:Nat) (v:Int) (l r:List UInt8) (x:Int),rdK k v l=some (x,r)→eaK k v l=(x,r)
 | 0,_,_,_,_,h=>by simpa [rdK,eaK] using h
 | _+1,_,[],_,_,h=>by cases h
 | k+1,_,_ :: l,r,x,h=>Znr k _ l r x h
theorem Zhd (l:List UInt8) (x:Int) (r:List UInt8) (h:rdV l=some (x,r)):eaV l=(x,r):=Znr 8 0 l r x h
theorem Zjs {α:Type} {f:List UInt8→Option (α × List UInt8)} {g:List UInt8→α × List UInt8} (hf:∀ l x r,f l=some (x,r)→g l=(x,r)):∀ (n:Nat) (l r:List UInt8) (xs:List α),rdL f n l=some (xs,r)→eaL g n l=(xs,r)
 | 0,_,_,_,h=>by simpa [rdL,eaL] using h
 | n+1,l,r,xs,h=>by
  obtain ⟨x,l',ys,h1,h2,rfl⟩:=Zcm h
  have q1:=hf l x l' h1
  have q2:=Zjs hf n l' r ys h2
  simp only [eaL,q1,q2]
theorem Zdx {α:Type} {f:List UInt8→Option (α × List UInt8)} {g:List UInt8→α × List UInt8} (hf:∀ l x r,f l=some (x,r)→g l=(x,r)) {l r:List UInt8} {xs:List α} (h:Xu f l=some (xs,r)):Qi g l=(xs,r):=by
 obtain ⟨b,l',rfl,hr⟩:=Zdp h
 exact Zjs hf _ _ _ _ hr
theorem eaF_rd (l:List UInt8) (x:Fr) (r:List UInt8) (h:rdF l=some (x,r)):eaF l=(x,r):=by
 obtain ⟨a,b,l',rfl,r3,h3,h4,e1,e2⟩:=Zhf h
 have q3:=Zdx Zhd h3
 have q4:=Zdx Zhd h4
 simp only [eaF,eaN,q3,q4]
 cases x
 simp_all
theorem eaB_rd (l:List UInt8) (x:Fb) (r:List UInt8) (h:rdB l=some (x,r)):eaB l=(x,r):=by
 obtain ⟨a,l',rfl,h3,e1⟩:=Zht h
 have q3:=Zdx eaF_rd h3
 simp only [eaB,eaN,q3]
 cases x
 simp_all
theorem eaS_rd {l r:List UInt8} {s:St} (h:rdS l=some (s,r)):eaS l=(s,r):=by
 obtain ⟨a,l',rfl,r3,h3,h4,e1⟩:=Zhx h
 have q3:=Zdx eaB_rd h3
 have q4:=Zdx Zhd h4
 simp only [eaS,eaN,q3,q4]
 cases s
 simp_all
theorem Xao (z:Int):(Lit.int .i64 (IntKind.i64.wrap z)).wf=true:=by
 have e1:IntKind.i64.min=-9223372036854775808:=by decide
 have e2:IntKind.i64.max=9223372036854775807:=by decide
 simp only [Lit.wf,e1,e2,IntKind.wrap_i64]
 simp
 omega
theorem Zch (l:List UInt8):(eaN l).1<256:=by
 cases l with
 | nil=>simp [eaN]
 | cons b r=>exact b.toNat_lt
theorem Zlv:∀ (k:Nat) (v:Int) (l:List UInt8),(Lit.int .i64 v).wf=true→(Lit.int .i64 (eaK k v l).1).wf=true
 | 0,_,_,h=>h
 | k+1,_,_,_=>Zlv k _ _ (Xao _)
theorem Zgx (l:List UInt8):(Lit.int .i64 (eaV l).1).wf=true:=Zlv 8 0 l (by decide)
theorem Zct {α:Type} {f:List UInt8→α × List UInt8} {Q:α→Prop} (hf:∀ l,Q (f l).1):∀ (n:Nat) (l:List UInt8),∀ x∈(eaL f n l).1,Q x
 | 0,_,_,h=>by cases h
 | n+1,l,x,h=>by
  rcases List.mem_cons.1 h with rfl | h
  ·exact hf l
  ·exact Zct hf n _ x h
theorem Zko {α:Type} (f:List UInt8→α × List UInt8):∀ (n:Nat) (l:List UInt8),(eaL f n l).1.length=n
 | 0,_=>rfl
 | n+1,_=>by simp [eaL,Zko f n]
theorem Zgy {α:Type} (f:List UInt8→α × List UInt8) (l:List UInt8):(Qi f l).1.length<256:=by
 unfold Qi
 rw [Zko]
 exact Zch l
theorem eaF_wf (l:List UInt8):(∀ z∈(eaF l).1.locals,(Lit.int .i64 z).wf=true)∧∀ z∈(eaF l).1.stack,(Lit.int .i64 z).wf=true :=
 ⟨fun z hz=>Zct (Q:=fun z=>(Lit.int .i64 z).wf=true) Zgx _ _ z hz,fun z hz=>Zct (Q:=fun z=>(Lit.int .i64 z).wf=true) Zgx _ _ z hz⟩
theorem Zke (l:List UInt8):StW (eaS l).1 :=
 ⟨fun z hz=>Zct (Q:=fun z=>(Lit.int .i64 z).wf=true) Zgx _ _ z hz,fun b hb x hx =>
  Zct (Q:=fun b:Fb=>∀ x∈b.frames,(∀ z∈x.locals,(Lit.int .i64 z).wf=true)∧∀ z∈x.stack,(Lit.int .i64 z).wf=true)
   (fun _ x hx=>Zct (Q:=fun x:Fr=>(∀ z∈x.locals,(Lit.int .i64 z).wf=true)∧∀ z∈x.stack,(Lit.int .i64 z).wf=true) eaF_wf _ _ x hx) _ _ b hb x hx⟩
def Wt (p:List Fn) (l:List UInt8):Option St:=if Xa p (eaS l).1=0∧Xk (eaS l).1=l then some (eaS l).1 else none
theorem Zqd (p:List Fn) (l:List UInt8):Wt p l=match rdS l with
  | some (s,[])=>if Xa p s=0 then some s else none
  | _=>none:=by
 have hno:(∀ s,rdS l≠some (s,[]))→Wt p l=none:=fun h=>by
  unfold Wt
  rw [if_neg]
  rintro ⟨h1,h2⟩
  have h3:=Zjl (eaS l).1 (Zbn h1 (Zke l)) []
  rw [List.append_nil,h2] at h3
  exact h _ h3
 cases h:rdS l with
 | none=>exact hno (by simp [h])
 | some q =>
  obtain ⟨s,r⟩:=q
  cases r with
  | cons b r=>exact hno (by simp [h])
  | nil =>
   have h1:=eaS_rd h
   obtain ⟨h2,_⟩:=Zms h
   simp only [List.append_nil] at h2
   unfold Wt
   rw [h1]
   simp only [h2,and_true]
def Qh (w:World) (B:Nat) (l:List UInt8):Prop:=w.heap[B]?=some (.cells #[.string ⟨l.toArray⟩] 63)
def Zil (B:Nat) (v:Value) (r:List UInt8) (w:World) (en:Ending) (w':World):Prop:=en=.returned v∧Qh w' B r∧Zn B w w'
theorem Zfu (w:World) (B:Nat) (l:List UInt8) (h:Qh w B l) :
  Calls Tryd.prog 24 #[.pointer (some ⟨B,0,none⟩)] w (Zil B (.int .i64 ((eaN l).1:Nat)) (eaN l).2 w):=by
 cases l with
 | nil =>
  have a0:=Zd h 0
  have h3:(ByteArray.mk ([]:List UInt8).toArray).toList.isEmpty=true:=by rw [ByteArray.toList_mk];rfl
  have HP:Hid (Qh w B []∧Zn B w w):=Za ⟨h,Zn.refl B w⟩
  generalize (ByteArray.mk ([]:List UInt8).toArray)=S at *
  clear h
  go_enter Tryd.func24,Tryd.ntmps24
  go_wp2_with fail
  go_ret
  exact ⟨rfl,un HP⟩
 | cons b r =>
  have a0:=Zd h 0
  have f0:=Zk h 0
  have h1:=Zmi b r
  have h2:=Zku b r
  have h3:(ByteArray.mk (b :: r).toArray).toList.isEmpty=false:=by rw [ByteArray.toList_mk];rfl
  have HP:Hid (Qh (w.setCell ⟨B,0,none⟩ (.string ⟨r.toArray⟩)) B r∧Zn B w (w.setCell ⟨B,0,none⟩ (.string ⟨r.toArray⟩))):=Za ⟨Zl h 0 _,(Zn.refl B w).setCell (p:=⟨B,0,none⟩) (.inl rfl) _⟩
  have hb:b.toNat<256:=b.toNat_lt
  have HB:=Za hb
  simp only [eaN]
  generalize hN:b.toNat=N at *
  have hw:IntKind.i64.wrap (N:Int)=(N:Int):=by rw [IntKind.wrap_i64];omega
  generalize (ByteArray.mk (b :: r).toArray)=S at *
  generalize (ByteArray.mk r.toArray)=R at *
  clear h hb hN
  go_enter Tryd.func24,Tryd.ntmps24
  go_wp2_with fail
  go_ret
  exact ⟨rfl,un HP⟩
theorem Zqc (v:Int) (n:Nat):(v % 18446744073709551616*256 % 18446744073709551616+(n:Int) % 18446744073709551616) % 18446744073709551616=IntKind.i64.wrap (v*256+n) % 18446744073709551616:=by
 rw [IntKind.wrap_i64]
 omega
theorem Zzr (w:World) (B:Nat) (l:List UInt8) (h:Qh w B l) :
  Calls Tryd.prog 47 #[.pointer (some ⟨B,0,none⟩)] w (Zil B (.int .i64 (eaV l).1) (eaV l).2 w):=by
 have H0:Hid (Qh w B l∧eaK 8 0 l=eaV l∧Zn B w w∧V8 0):=Za ⟨h,rfl,Zn.refl B w,by unfold V8;omega⟩
 clear h
 go_enter Tryd.func47,Tryd.ntmps47
 go_wp2
 go_loopw [3,4] (fun s2 s3 wr=>∃ (k:Nat) (v:Int) (m:List UInt8),k≤8∧s2=.int .u64 (v % 18446744073709551616)∧s3=.int .i64 k∧Hid (Qh wr B m∧eaK (8 - k) v m=eaV l∧Zn B w wr∧V8 v)) (fun _ s3 _=>8 - (intOf s3).toNat)
 case atStart=>exact ⟨0,0,l,by omega,rfl,rfl,H0⟩
 case round =>
  obtain ⟨k,v,m,hk8,rfl,rfl,HW⟩:=hrel
  by_cases hk:k<8
  ·obtain ⟨h1,h2,h3,h4⟩:=un HW
   obtain ⟨n,hn⟩:∃ n,8 - k=n+1:=⟨7 - k,by omega⟩
   rw [hn] at h2
   have HC:=Za (Zfu wr B m h1)
   have H3:=Za h3
   have H4:Hid (eaK (8 - (k+1)) (IntKind.i64.wrap (v*256+((eaN m).1:Int))) (eaN m).2=eaV l∧V8 (IntKind.i64.wrap (v*256+((eaN m).1:Int)))):=Za ⟨by rw [show 8 - (k+1)=n by omega];exact h2,by unfold V8;rw [IntKind.wrap_i64];omega⟩
   have hst:=Zqc v (eaN m).1
   clear h1 h2 h3 h4 hn HW
   go_wp2_with fail
   refine (un HC).mono ?_
   rintro _ w2 ⟨rfl,q1,q2⟩
   have HN:=Za (And.intro q1 (And.intro (un H4).1 (And.intro ((un H3).trans q2) (un H4).2)))
   clear q1 q2 H3 H4 HC
   go_wp2_with fail
   go_roundw
   case rel=>exact ⟨k+1,_,(eaN m).2,by omega,congrArg (Value.int IntKind.u64) (by simpa only [IntKind.wrap_u64] using hst),by go_num,HN⟩
   case measure=>simp [intOf];omega
  ·obtain rfl:k=8:=by omega
   obtain ⟨h1,h2,h3,h4⟩:=un HW
   have h5:eaV l=(v,m):=by rw [← h2];rfl
   have HW2:=Za (And.intro h1 h3)
   have hv:IntKind.i64.wrap (v % 18446744073709551616)=v:=by
    obtain ⟨_,_⟩:=h4
    rw [IntKind.wrap_i64]
    omega
   have HE:=Za h5
   clear h1 h2 h3 h4 h5 HW
   go_wp2
   go_ret
   have h6:=un HE
   exact ⟨by rw [h6];rfl,by rw [h6];exact un HW2⟩
end Go.Proofs.YtblihfpigjiahaaDoor
