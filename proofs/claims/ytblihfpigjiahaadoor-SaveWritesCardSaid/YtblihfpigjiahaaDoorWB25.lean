/- StateP, EngG, EngH, EngI, OwnJ, TakesT, TakesU, EngJ, EngK, EngL, EngM, EngN, EngO, EngP, EngQ, EngR, StateQ -/
import Derived.Test.YtblihfpigjiahaaDoorWB12
import Derived.Test.YtblihfpigjiahaaDoorWB01
import Derived.Deep.RegionHeld3
import Derived.Defers
import Derived.Recover
import Derived.Test.YtblihfpigjiahaaDoorWB24
import Derived.Test.YtblihfpigjiahaaDoorWB11
import Derived.Deep.DeepCutAuto
set_option maxRecDepth 100000
set_option maxHeartbeats 8000000
namespace Go.Proofs.YtblihfpigjiahaaDoor
open Go.RowKit
def left (e:Int):Ending:=.panicked [{ v:=.iface 27 (.int .i64 e),recovered:=false }]
def Zge (w:World) (b o:Nat) (l:List Bool):Prop:=∀ i z,l[i]?=some z→w.cell? ⟨b,o+i,none⟩=some (.bool z)
theorem Zmg (e:Int) (l:List Bool) (b o n cap:Nat) (w:World) (hn:n=l.length) (hl:l.length≤1000) (hf:Zge w b o l) (ha:∀ z,z∈l→z=true) :
  Calls Tryd.prog 70 #[.int .i64 e,.slice (some ⟨b,o,none⟩) n cap] w fun en w'=>en=.returned (.tuple #[])∧w=w':=by
 subst hn
 have HF:=Za hf
 have HA:=Za ha
 clear hf ha
 go_enter Tryd.func70,Tryd.ntmps70
 go_wp2
 go_loopw [8] (fun s8 wr=>∃ k:Nat,k≤l.length∧s8=.int .i64 k∧Hid (w=wr)) (fun s8 _=>l.length - (intOf s8).toNat)
 case atStart=>exact ⟨0,Nat.zero_le _,rfl,rfl⟩
 case round =>
  obtain ⟨k,hkm,rfl,HW⟩:=hrel
  have hw:=un HW
  subst hw
  clear HW
  by_cases hlt:k<l.length
  ·have hc:=(un HF) k _ (Zq l k false hlt)
   have ht:l.getD k false=true:=(un HA) _ (List.mem_of_getElem? (Zq l k false hlt))
   rw [ht] at hc
   clear ht
   go_wp2
   go_roundw
   case rel=>exact ⟨k+1,by omega,by go_num,trivial⟩
   case measure=>simp [intOf];omega
  ·go_wp2
   go_end0
   exact ⟨rfl,rfl⟩
theorem Zie (e:Int) (l:List Bool) (b o n cap:Nat) (w:World) (hn:n=l.length) (hl:l.length≤1000) (hf:Zge w b o l) (ha:∃ z,z∈l∧z=false) :
  Calls Tryd.prog 70 #[.int .i64 e,.slice (some ⟨b,o,none⟩) n cap] w fun en w'=>en=left e∧w=w':=by
 subst hn
 have HF:=Za hf
 have HA:=Za ha
 clear hf ha
 go_enter Tryd.func70,Tryd.ntmps70
 go_wp2
 go_loopw [8] (fun s8 wr=>∃ k:Nat,k≤l.length∧s8=.int .i64 k∧Hid (∀ i,i<k→l.getD i false=true)∧Hid (w=wr)) (fun s8 _=>l.length - (intOf s8).toNat)
 case atStart=>exact ⟨0,Nat.zero_le _,rfl,(fun i hi=>by omega),rfl⟩
 case round =>
  obtain ⟨k,hkm,rfl,HT,HW⟩:=hrel
  have hw:=un HW
  subst hw
  clear HW
  by_cases hlt:k<l.length
  ·have hc:=(un HF) k _ (Zq l k false hlt)
   by_cases ht:l.getD k false=true
   ·rw [ht] at hc
    have HT2:=Za ht
    clear ht
    go_wp2
    go_roundw
    case rel =>
     refine ⟨k+1,by omega,by go_num,?_,trivial⟩
     intro i hi
     by_cases e:i=k
     ·subst e;exact un HT2
     ·exact (un HT) i (by omega)
    case measure=>simp [intOf];omega
   ·have ht':l.getD k false=false:=by simpa using ht
    rw [ht'] at hc
    clear ht ht'
    go_wp2
    first | exact ⟨rfl,rfl⟩ | (refine bodyPost_panic ?_;exact ⟨rfl,rfl⟩) | (simp [bodyPost,left];done)
  ·obtain ⟨z,hz,hzf⟩:=un HA
   obtain ⟨i,hi,rfl⟩:=List.getElem_of_mem hz
   have:=(un HT) i (by omega)
   simp [List.getD,hi] at this
   rw [this] at hzf
   cases hzf
theorem Zoa {w:World} {b:Nat} {z:Bool} (h:w.cell? ⟨b,0,none⟩=some (.bool z)):Zge w b 0 [z]:=fun i y hy=>by
 cases i with
 | zero=>simp at hy;subst hy;exact h
 | succ i=>simp at hy
theorem Zhr {w:World} {b:Nat} {z y:Bool} (h:w.cell? ⟨b,0,none⟩=some (.bool z)) (h':w.cell? ⟨b,1,none⟩=some (.bool y)):Zge w b 0 [z,y]:=fun i u hu=>by
 match i,hu with
 | 0,hu=>simp at hu;subst hu;exact h
 | 1,hu=>simp at hu;subst hu;exact h'
theorem Wo (e:Int) (b cap:Nat) (w:World) (h:w.cell? ⟨b,0,none⟩=some (.bool true)) :
  Calls Tryd.prog 70 #[.int .i64 e,.slice (some ⟨b,0,none⟩) 1 cap] w fun en w'=>en=.returned (.tuple #[])∧w=w' :=
 Zmg e [true] b 0 1 cap w rfl (by decide) (Zoa h) (by simp)
theorem Ul (e:Int) (b cap:Nat) (w:World) (h:w.cell? ⟨b,0,none⟩=some (.bool false)) :
  Calls Tryd.prog 70 #[.int .i64 e,.slice (some ⟨b,0,none⟩) 1 cap] w fun en w'=>en=left e∧w=w' :=
 Zie e [false] b 0 1 cap w rfl (by decide) (Zoa h) ⟨false,by simp,rfl⟩
theorem Zek (e:Int) (b cap:Nat) (w:World) (h:w.cell? ⟨b,0,none⟩=some (.bool true)) (h':w.cell? ⟨b,1,none⟩=some (.bool true)) :
  Calls Tryd.prog 70 #[.int .i64 e,.slice (some ⟨b,0,none⟩) 2 cap] w fun en w'=>en=.returned (.tuple #[])∧w=w' :=
 Zmg e [true,true] b 0 2 cap w rfl (by decide) (Zhr h h') (by simp)
theorem Zbo (e:Int) (b cap:Nat) (y:Bool) (w:World) (h:w.cell? ⟨b,0,none⟩=some (.bool false)) (h':w.cell? ⟨b,1,none⟩=some (.bool y)) :
  Calls Tryd.prog 70 #[.int .i64 e,.slice (some ⟨b,0,none⟩) 2 cap] w fun en w'=>en=left e∧w=w' :=
 Zie e [false,y] b 0 2 cap w rfl (by simp) (Zhr h h') ⟨false,by simp,rfl⟩
theorem Zel (e:Int) (b cap:Nat) (y:Bool) (w:World) (h:w.cell? ⟨b,0,none⟩=some (.bool y)) (h':w.cell? ⟨b,1,none⟩=some (.bool false)) :
  Calls Tryd.prog 70 #[.int .i64 e,.slice (some ⟨b,0,none⟩) 2 cap] w fun en w'=>en=left e∧w=w' :=
 Zie e [y,false] b 0 2 cap w rfl (by simp) (Zhr h h') ⟨false,by simp,rfl⟩
def Yv (e:Int) (ok:Bool):Ending:=if ok=true then .returned (.tuple #[]) else left e
theorem Zbr (i n:Int) (w:World):Calls Tryd.prog 72 #[.int .i64 i,.int .i64 n] w fun e w'=>e=.returned (.bool (ixB i n))∧w=w':=by
 by_cases h1:0≤i
 ·by_cases h2:i<n
  ·rw [Jr h1 h2]
   go_enter Tryd.func72,Tryd.ntmps72
   go_wp2
   go_ret
   exact ⟨rfl,rfl⟩
  ·rw [Wy (fun h=>h2 h.2)]
   have hd:decide (i<n)=false:=decide_eq_false h2
   go_enter Tryd.func72,Tryd.ntmps72
   go_wp2
   go_ret
   exact ⟨by rw [← hd];rfl,rfl⟩
 ·rw [Wy (fun h=>h1 h.1)]
  have hd:decide (0≤i)=false:=decide_eq_false h1
  go_enter Tryd.func72,Tryd.ntmps72
  go_wp2
  go_ret
  exact ⟨rfl,rfl⟩
def Zfl (w:World) (v:Value) (p:List Fn):Prop :=
 ∃ b o cap,v=.slice (some ⟨b,o,none⟩) p.length cap∧∀ k,k<p.length→∃ u,w.cell? ⟨b,o+k,none⟩=some u∧Qo w u (hgt p k)
theorem Zfl.kept {w w':World} (h:Zb w w') {v:Value} {p:List Fn} (hv:Zfl w v p):Zfl w' v p:=by
 obtain ⟨b,o,cap,e,hi⟩:=hv
 refine ⟨b,o,cap,e,fun k hk=>?_⟩
 obtain ⟨u,h1,h2⟩:=hi k hk
 exact ⟨u,h.cell h1,h2.kept h⟩
def Wj (w:World) (v:Value) (p:List Fn) (s:St):Prop :=
 ∃ vF vO vp vh,v=.agg #[vF,.int .i64 s.now,vO,vp,vh]∧Wu w vF s.fibers∧Xn w vO s.out∧Zw w vp p∧Zfl w vh p
theorem Wj.kept {w w':World} (h:Zb w w') {v:Value} {p:List Fn} {s:St} (hv:Wj w v p s):Wj w' v p s:=by
 obtain ⟨vF,vO,vp,vh,e,h1,h2,h3,h4⟩:=hv
 exact ⟨vF,vO,vp,vh,e,h1.kept h,h2.kept h,h3.kept h,h4.kept h⟩
def Wd (n:Int) (len:Nat):Bool:=decide (n=-1) || ixB n len
theorem Zjv (n:Int) (len:Nat):Wd n len=inB n (-1) ((len:Int) - 1):=by
 rw [Bool.eq_iff_iff,Zbb]
 simp only [Wd,Bool.or_eq_true,decide_eq_true_eq,Jq]
 omega
theorem Zvm (p:List Fn) (s:St) (v:Value) (n:Int) (w:World) (hj:Wj w v p s) :
  Calls Tryd.prog 71 #[v,.int .i64 n] w fun e w'=>e=.returned (.bool (Wd n s.fibers.length))∧Zb w w':=by
 obtain ⟨vF,vO,vp,vh,rfl,h1,_,_,_⟩:=hj
 obtain ⟨oa,cap,rfl,hlen,_⟩:=h1
 unfold Wd
 generalize s.fibers.length=m at *
 by_cases hn:n=-1
 ·subst hn
  go_enter Tryd.func71,Tryd.ntmps71
  go_wp2
  go_ret
  exact ⟨rfl,(Zb.refl w).alloc _⟩
 ·have hb:(n == -1)=false:=by rw [beq_eq_false_iff_ne];exact hn
  rw [decide_eq_false hn,Bool.false_or]
  clear hn
  go_enter Tryd.func71,Tryd.ntmps71
  go_wp2_with (go_at_call 72;refine (Zbr _ _ _).mono ?_;rintro e w' ⟨rfl,rfl⟩)
  go_ret
  exact ⟨rfl,(Zb.refl w).alloc _⟩
theorem Zfr (p:List Fn) (s:St) (v u:Value) (x:Fr) (w:World) (hj:Wj w v p s) (hx:FrV w u x) (hl:Um p) (hin:Yg p x) :
  Calls Tryd.prog 73 #[v,u] w fun e w'=>e=.returned (.int .i64 (hAt p x))∧Zb w w':=by
 obtain ⟨vF,vO,vp,vh,rfl,h1,h2,h3,h4⟩:=hj
 obtain ⟨of,cf,rfl,_,_⟩:=h1
 obtain ⟨oo,co,rfl,_,_⟩:=h2
 obtain ⟨op,cp,rfl,hpl,_⟩:=h3
 obtain ⟨b,o,cap,rfl,hh⟩:=h4
 obtain ⟨vl,vs,rfl,_,_⟩:=hx
 obtain ⟨f0,f1,a0,a1⟩:=hin
 obtain ⟨i,hi⟩:∃ i:Nat,x.fn=i:=⟨x.fn.toNat,by omega⟩
 obtain ⟨a,ha⟩:∃ a:Nat,x.at_=a:=⟨x.at_.toNat,by omega⟩
 have hip:i<p.length:=by omega
 rw [hi,Int.toNat_natCast] at a1
 have hlen:=hl i hip
 obtain ⟨uv,c0,hu⟩:=hh i hip
 obtain ⟨oh,ch,rfl,_,hcell⟩:=hu
 obtain ⟨bh,oh2,rfl,d0⟩:=hcell a _ (Zq (hgt p i) a 0 (by omega))
 unfold hAt
 rw [hi,ha,Int.toNat_natCast,Int.toNat_natCast]
 generalize hz:(hgt p i).getD a 0=z at *
 have hi1:(i:Int)<(p.length:Int):=by omega
 have hi0:(0:Int)≤(i:Int):=by omega
 have ha1:(a:Int)<((hgt p i).length:Int):=by omega
 have ha0:(0:Int)≤(a:Int):=by omega
 generalize (hgt p i).length=m at *
 generalize p.length=n at *
 generalize s.fibers.length=nf at *
 generalize s.out.length=no at *
 have l0:=Xo c0
 have l1:=Xo d0
 simp only at l0 l1
 clear hh hcell hlen hz
 go_enter Tryd.func73,Tryd.ntmps73
 go_wp2
 go_quiet (fail)
 go_wp2
 go_ret
 exact ⟨rfl,(((Zb.refl w).alloc _).alloc _).drewN _⟩
def Zgl (base bs:Nat) (V:Key→Value) (s:St) (r:St × Int) (w:World) (e:Ending) (w':World):Prop :=
 (r.2=0∧e=.returned (.tuple #[])∧∃ V',Xr base bs V s w V' r.1 w')∨(r.2≠0∧e=left r.2∧Zaf bs V s w w')
theorem Zgl.pre {base bs:Nat} {V V1:Key→Value} {s s1:St} {r:St × Int} {w w1:World} {e:Ending} {w':World} (h:Zgl base bs V1 s1 r w1 e w') (_:Zi base w bs V s) (hm:Xr base bs V s w V1 s1 w1):Zgl base bs V s r w e w':=by
 rcases h with ⟨h1,h2,V',h3⟩ | ⟨h1,h2,h3⟩
 ·exact .inl ⟨h1,h2,V',hm.trans h3⟩
 ·exact .inr ⟨h1,h2,hm.past h3⟩
theorem Zkw:(Tryd.prog.info? 53).map (fun i=>(i.zero,i.size,i.bytes))=some (some (.agg #[.int .i64 0,.int .i64 0,.slice none 0 0,.slice none 0 0]),4,64):=by kernel_rfl
theorem Znx:(Tryd.prog.info? 46).map (fun i=>(i.zero,i.size,i.bytes))=some (some (.agg #[.slice none 0 0,.int .i64 0]),2,32):=by kernel_rfl
theorem Zky (B j:Nat):(⟨B,0,none⟩:Addr).add j=⟨B,j,none⟩:=by unfold Addr.add;split <;> simp_all
theorem Znw {w:World} {base B:Nat} {l:List Int} (hb:base≤B) (hB:w.heap[B]?=some (.cells (ints l).toArray 3)) (hl:l.length≤1000):w.ownsRow base 3 1 (.slice (some ⟨B,0,none⟩) l.length l.length) l.length (ints l) :=
 ⟨by simp [Zcw],.inr ⟨B,l.length,(ints l).toArray,rfl,hb,hB,Nat.le_refl _,by unfold maxLen;omega,by simp [Zcw],List.take_of_length_le (by simp [Zcw])⟩⟩
theorem Xbi {base bs:Nat} {V:Key→Value} {s:St} {u:World} (h:Zi base u bs V s) {i gF capF BL B:Nat} (hi:i<s.fibers.length) (hF:V .fibers=.slice (some ⟨gF,0,none⟩) s.fibers.length capF)
  (hfr:(Zc s i).frames.length≤1000) (f:Fr) (hst:f.stack=[]) (hlo:f.locals.length≤1000) (hBL:u.heap[BL]?=some (.cells (ints f.locals).toArray 3)) (hoff:Own.off V s BL) (hlow:base≤BL) (hbsL:bs≠BL)
  (hB:u.heap[B]?=some (.cells #[.int .i64 f.fn,.int .i64 f.at_,.slice (some ⟨BL,0,none⟩) f.locals.length f.locals.length,.slice none 0 0] 53)) :
  ∃ v' w' V',(Builtin.append_ #[44,44] 44 #[V (.frames i),.slice (some ⟨B,0,none⟩) 1 1]).run Tryd.prog u=.ok v' w' ∧
   (∃ o c,v'=.slice o ((Zc s i).frames.length+1) c)∧Zi base (w'.setCell ⟨gF,i*2,none⟩ v') bs V' (Zh s i { Zc s i with frames:=(Zc s i).frames++[f] })∧u.grownBy w' (V (.frames i)).ownBlock ∧
   ∀ k b,live (Zh s i { Zc s i with frames:=(Zc s i).frames++[f] }) k→(V' k).ownBlock=some b→(∃ k',live s k'∧(V k').ownBlock=some b)∨b=BL∨b=u.heap.size:=by
 obtain ⟨i0,hi0,hz0,hz1,hz2⟩:=info_parts Zkw
 have hbw:bs<u.heap.size:=lt_of_block h.var
 have hbase:base≤u.heap.size:=by have:=h.low;omega
 have hlB:BL<u.heap.size:=(Array.getElem?_eq_some_iff.1 hBL).1
 obtain ⟨xs,hrow,_⟩:=h.own.piece (.frames i) hi
 obtain ⟨v',w',hrun,hown',hgrow,_,hat⟩:=run_append_own_at (P:=Tryd.prog) u base 44 44 53 i0 _ 4 64 Tryd.underlying44 hi0 hz0 hz1 hz2 rfl (by decide) _ _ xs hrow ⟨B,0,none⟩ 1 1
  [.int .i64 f.fn,.int .i64 f.at_,.slice (some ⟨BL,0,none⟩) f.locals.length f.locals.length,.slice none 0 0] rfl (fun j x hj=>by
   rw [Zky,Zd hB]
   simpa using hj) (by intro x hx;simp only [List.mem_cons,List.not_mem_nil,or_false] at hx;rcases hx with rfl | rfl | rfl | rfl <;> rfl) (by unfold maxLen;omega) (by omega) (by omega)
 have hFb:(V .fibers).ownBlock=some gF:=by rw [hF];rfl
 have hloc:w'.ownsRow base 3 1 (.slice (some ⟨BL,0,none⟩) f.locals.length f.locals.length) f.locals.length (ints f.locals) :=
  Znw hlow ((hgrow.block BL hlB (fun e=>hoff (.frames i) hi e.symm)).trans hBL) hlo
 have hadd:=h.own.addFrame hi hF f (.slice (some ⟨BL,0,none⟩) f.locals.length f.locals.length) v' hst (gl:=BL) (.inr rfl) hoff hlB hloc (fun b hb hne=>hgrow.block b hb (fun e=>hne e.symm)) (fun ys hy=>by
  rw [Zik hy hrow];exact hown') hat
 have hblk:∀ k b,live (Zh s i { Zc s i with frames:=(Zc s i).frames++[f] }) k→(upd (upd (upd V (.frames i) v') (.locals i (Zc s i).frames.length) (.slice (some ⟨BL,0,none⟩) f.locals.length f.locals.length)) (.stack i (Zc s i).frames.length) (.slice none 0 0) k).ownBlock=some b→(∃ k',live s k'∧(V k').ownBlock=some b)∨b=BL∨b=u.heap.size:=by
  intro k b hk e
  by_cases e1:k=.stack i (Zc s i).frames.length
  ·rw [e1,Qk] at e;cases e
  rw [Zp _ _ e1] at e
  by_cases e2:k=.locals i (Zc s i).frames.length
  ·rw [e2,Qk] at e;exact .inr (.inl (Option.some.inj e).symm)
  rw [Zp _ _ e2] at e
  by_cases e3:k=.frames i
  ·rw [e3,Qk] at e
   rcases hat with h1 | h1
   ·rw [h1] at e;exact .inl ⟨.frames i,hi,e⟩
   ·rw [h1] at e;exact .inr (.inr (Option.some.inj e).symm)
  rw [Zp _ _ e3] at e
  refine .inl ⟨k,?_,e⟩
  have hl:=Xf s i { Zc s i with frames:=(Zc s i).frames++[f] }
  have hfs:Zc (Zh s i { Zc s i with frames:=(Zc s i).frames++[f] }) i={ Zc s i with frames:=(Zc s i).frames++[f] }:=Qg _ hi
  have hq:∀ t q,q≠(Zc s i).frames.length∨t≠i→t<s.fibers.length→q<(Zc (Zh s i { Zc s i with frames:=(Zc s i).frames++[f] }) t).frames.length→q<(Zc s t).frames.length:=fun t q hne _ hq=>by
   by_cases e:i=t
   ·subst e
    rw [hfs] at hq
    simp only [List.length_append,List.length_cons,List.length_nil] at hq
    rcases hne with h1 | h1 <;> omega
   ·rwa [Jb _ e] at hq
  cases k using Key.by with
  | fibers=>trivial
  | out=>trivial
  | frames t=>simpa only [live,hl] using hk
  | locals t q =>
   simp only [live,hl] at hk
   refine ⟨hk.1,hq t q ?_ hk.1 hk.2⟩
   by_cases et:t=i
   ·subst et;exact .inl fun e=>e2 (by rw [e])
   ·exact .inr et
  | stack t q =>
   simp only [live,hl] at hk
   refine ⟨hk.1,hq t q ?_ hk.1 hk.2⟩
   by_cases et:t=i
   ·subst et;exact .inl fun e=>e1 (by rw [e])
   ·exact .inr et
 refine ⟨v',w',_,hrun,?_,h.turn hadd ?_ ?_ ?_ rfl ?_,hgrow,hblk⟩
 ·obtain ⟨o,c,e,_⟩:=Xq hown'
  exact ⟨o,c,e⟩
 ·rw [Below.heap_setCell _ _ _ _ (fun e=>h.off .fibers trivial (by rw [hFb,e]))]
  exact hgrow.block bs hbw (fun e=>h.off (.frames i) hi e.symm)
 ·rw [Zp _ _ (by simp),Zp _ _ (by simp),Zp _ _ (by simp)]
 ·rw [Zp _ _ (by simp),Zp _ _ (by simp),Zp _ _ (by simp)]
 ·intro k hk e
  rcases hblk k bs hk e with ⟨k',hk',e'⟩ | e' | e'
  ·exact h.off k' hk' e'
  ·exact hbsL e'
  ·omega
theorem Zzf {base bs:Nat} {V:Key→Value} {s:St} {u:World} (h:Zi base u bs V s) {BL BF B:Nat} (hfr:s.fibers.length≤1000) (f:Fr) (c:Int) (hst:f.stack=[]) (hlo:f.locals.length≤1000)
  (hBL:u.heap[BL]?=some (.cells (ints f.locals).toArray 3)) (hoff:Own.off V s BL) (hlow:base≤BL) (hbsL:bs≠BL)
  (hBF:u.heap[BF]?=some (.cells #[.int .i64 f.fn,.int .i64 f.at_,.slice (some ⟨BL,0,none⟩) f.locals.length f.locals.length,.slice none 0 0] 53)) (hoffF:Own.off V s BF) (hlowF:base≤BF) (hbsF:bs≠BF) (hne:BL≠BF)
  (hB:u.heap[B]?=some (.cells #[.slice (some ⟨BF,0,none⟩) 1 1,.int .i64 c] 46)) :
  ∃ v' w' V',(Builtin.append_ #[23,23] 23 #[V .fibers,.slice (some ⟨B,0,none⟩) 1 1]).run Tryd.prog u=.ok v' w' ∧
   (∃ o q,v'=.slice o (s.fibers.length+1) q)∧Zi base (w'.setCell ⟨bs,0,none⟩ v') bs V' { s with fibers:=s.fibers++[⟨[f],c⟩] }∧u.grownBy w' (V .fibers).ownBlock ∧
   ∀ k b,live { s with fibers:=s.fibers++[⟨[f],c⟩] } k→(V' k).ownBlock=some b→(∃ k',live s k'∧(V k').ownBlock=some b)∨b=BL∨b=BF∨b=u.heap.size:=by
 obtain ⟨i0,hi0,hz0,hz1,hz2⟩:=info_parts Znx
 have hbw:bs<u.heap.size:=lt_of_block h.var
 have hbase:base≤u.heap.size:=by have:=h.low;omega
 have hlB:BL<u.heap.size:=(Array.getElem?_eq_some_iff.1 hBL).1
 have hlF:BF<u.heap.size:=(Array.getElem?_eq_some_iff.1 hBF).1
 obtain ⟨xs,hrow,_⟩:=h.own.piece .fibers trivial
 obtain ⟨v',w',hrun,hown',hgrow,_,hat⟩:=run_append_own_at (P:=Tryd.prog) u base 23 23 46 i0 _ 2 32 Tryd.underlying23 hi0 hz0 hz1 hz2 rfl (by decide) _ _ xs hrow ⟨B,0,none⟩ 1 1
  [.slice (some ⟨BF,0,none⟩) 1 1,.int .i64 c] rfl (fun j x hj=>by
   rw [Zky,Zd hB]
   simpa using hj) (by intro x hx;simp only [List.mem_cons,List.not_mem_nil,or_false] at hx;rcases hx with rfl | rfl <;> rfl) (by unfold maxLen;omega) (by omega) (by omega)
 have hloc:w'.ownsRow base 3 1 (.slice (some ⟨BL,0,none⟩) f.locals.length f.locals.length) f.locals.length (ints f.locals) :=
  Znw hlow ((hgrow.block BL hlB (fun e=>hoff .fibers trivial e.symm)).trans hBL) hlo
 have hfrw:w'.ownsRow base 53 4 (.slice (some ⟨BF,0,none⟩) 1 1) 1 [.int .i64 f.fn,.int .i64 f.at_,.slice (some ⟨BL,0,none⟩) f.locals.length f.locals.length,.slice none 0 0] :=
  ⟨rfl,.inr ⟨BF,1,#[.int .i64 f.fn,.int .i64 f.at_,.slice (some ⟨BL,0,none⟩) f.locals.length f.locals.length,.slice none 0 0],rfl,hlowF,(hgrow.block BF hlF (fun e=>hoffF .fibers trivial e.symm)).trans hBF,by omega,by decide,rfl,rfl⟩⟩
 have hadd:=h.own.addFiber f c (.slice (some ⟨BL,0,none⟩) f.locals.length f.locals.length) (.slice (some ⟨BF,0,none⟩) 1 1) v' hst (gl:=BL) (gf:=BF) (.inr rfl) rfl hne hoff hoffF hlB hlF hloc hfrw
  (fun b hb hne=>hgrow.block b hb (fun e=>hne e.symm)) (fun ys hy=>by rw [Zik hy hrow];exact hown') hat
 have hblk:∀ k b,live { s with fibers:=s.fibers++[⟨[f],c⟩] } k→(upd (upd (upd (upd V .fibers v') (.frames s.fibers.length) (.slice (some ⟨BF,0,none⟩) 1 1)) (.locals s.fibers.length 0) (.slice (some ⟨BL,0,none⟩) f.locals.length f.locals.length)) (.stack s.fibers.length 0) (.slice none 0 0) k).ownBlock=some b→(∃ k',live s k'∧(V k').ownBlock=some b)∨b=BL∨b=BF∨b=u.heap.size:=by
  intro k b hk e
  by_cases e1:k=.stack s.fibers.length 0
  ·rw [e1,Qk] at e;cases e
  rw [Zp _ _ e1] at e
  by_cases e2:k=.locals s.fibers.length 0
  ·rw [e2,Qk] at e;exact .inr (.inl (Option.some.inj e).symm)
  rw [Zp _ _ e2] at e
  by_cases e3:k=.frames s.fibers.length
  ·rw [e3,Qk] at e;exact .inr (.inr (.inl (Option.some.inj e).symm))
  rw [Zp _ _ e3] at e
  by_cases e4:k=.fibers
  ·rw [e4,Qk] at e
   rcases hat with h1 | h1
   ·rw [h1] at e;exact .inl ⟨.fibers,trivial,e⟩
   ·rw [h1] at e;exact .inr (.inr (.inr (Option.some.inj e).symm))
  rw [Zp _ _ e4] at e
  refine .inl ⟨k,?_,e⟩
  have hfo:∀ t,t<s.fibers.length→Zc { s with fibers:=s.fibers++[⟨[f],c⟩] } t=Zc s t:=fun t ht=>Zef _ _ _ _ ht
  have hfn:Zc { s with fibers:=s.fibers++[⟨[f],c⟩] } s.fibers.length=⟨[f],c⟩:=Zed _ _ _
  have hq:∀ t q,¬ (t=s.fibers.length∧q=0)→t<s.fibers.length+1→q<(Zc { s with fibers:=s.fibers++[⟨[f],c⟩] } t).frames.length→t<s.fibers.length∧q<(Zc s t).frames.length:=fun t q hn ht hq=>by
   by_cases et:t=s.fibers.length
   ·rw [et,hfn] at hq
    simp only [List.length_cons,List.length_nil] at hq
    exact absurd ⟨et,by omega⟩ hn
   ·rw [hfo t (by omega)] at hq;exact ⟨by omega,hq⟩
  cases k using Key.by with
  | fibers=>trivial
  | out=>trivial
  | frames t =>
   simp only [live,List.length_append,List.length_cons,List.length_nil] at hk ⊢
   have:t≠s.fibers.length:=fun e=>e3 (by rw [e])
   omega
  | locals t q =>
   simp only [live,List.length_append,List.length_cons,List.length_nil] at hk ⊢
   exact hq t q (fun ⟨h1,h2⟩=>e2 (by rw [h1,h2])) hk.1 hk.2
  | stack t q =>
   simp only [live,List.length_append,List.length_cons,List.length_nil] at hk ⊢
   exact hq t q (fun ⟨h1,h2⟩=>e1 (by rw [h1,h2])) hk.1 hk.2
 have hoff':Own.off (upd (upd (upd (upd V .fibers v') (.frames s.fibers.length) (.slice (some ⟨BF,0,none⟩) 1 1)) (.locals s.fibers.length 0) (.slice (some ⟨BL,0,none⟩) f.locals.length f.locals.length)) (.stack s.fibers.length 0) (.slice none 0 0)) { s with fibers:=s.fibers++[⟨[f],c⟩] } bs:=by
  intro k hk e
  rcases hblk k bs hk e with ⟨k',hk',e'⟩ | e' | e' | e'
  ·exact h.off k' hk' e'
  ·exact hbsL e'
  ·exact hbsF e'
  ·omega
 have hv:w'.heap[bs]?=some (.cells #[V .fibers,.int .i64 s.now,V .out] 26):=(hgrow.block bs hbw (fun e=>h.off .fibers trivial e.symm)).trans h.var
 refine ⟨v',w',_,hrun,?_,⟨?_,hadd.setOff (a:=⟨bs,0,none⟩) hoff' v',hoff',h.low⟩,hgrow,hblk⟩
 ·obtain ⟨o,q,e,_⟩:=Xq hown'
  exact ⟨o,q,e⟩
 ·rw [Zl hv 0 v',Zp _ _ (by simp),Zp _ _ (by simp),Zp _ _ (by simp),Qk,Zp _ _ (by simp),Zp _ _ (by simp),Zp _ _ (by simp),Zp _ _ (by simp)]
  rfl
end Go.Proofs.YtblihfpigjiahaaDoor
namespace Go.Proofs.YtblihfpigjiahaaDoor
open Go.RowKit
def Jo (P:Program) (md:Region.Mode) (ops:Array Oper) (Q:Exit→Act→World→Prop) (S:World→Prop) (T:Nat):Nat→Array Bool→Act→World→Prop
 | 0,listed,a,w=>Region.ready md ops listed=[]∧Q .normal a w
 | n+1,listed,a,w=>(Region.ready md ops listed=[]→Q .normal a w) ∧
   ∀ i∈Region.ready md ops listed,wpOp P ops Q i (fun a' w'=>(i≠T→S w')∧Jo P md ops Q S T n (listed.setIfInBounds i true) a' w') a w
variable {P:Program} {md:Region.Mode} {ops:Array Oper} {Q:Exit→Act→World→Prop} {S:World→Prop} {T:Nat}
theorem Jo.any:∀ (n:Nat) (listed:Array Bool) (a:Act) (w:World),Jo P md ops Q S T n listed a w→wpAny P md ops Q n listed a w
 | 0,_,_,_,h=>h
 | n+1,_,_,_,h=>⟨h.1,fun i hi=>wpOp_mono (fun _ _ h'=>Jo.any n _ _ _ h'.2) (h.2 i hi)⟩
def Zim (md:Region.Mode) (ops:Array Oper) (T i:Nat):Bool:=match ops[T]? with | none=>true | some o=>o.after.any fun e=>Region.binds md e && e.on == i
theorem Jo.first {i:Nat} {oi:Oper} {v:Value} (hi:ops[i]?=some oi) (hsel:∀ (j:Nat) (o:Oper) cs b,ops[j]?=some o→o.op≠.select cs b)
  (hQ:∀ c a w,Q (.panic c) (a.put oi.dst v) w→Q (.panic c) a w) (hT:Zim md ops T i=true) :
  ∀ (n:Nat) (listed:Array Bool) (a:Act) (w:World),
   (∀ j oj,ops[j]?=some oj→j≠i→listed.getD j true=false→(∀ e∈oj.after,Region.binds md e=true→e.on≠i)→oi.apart ops oj=true) →
   i∈Region.ready md ops listed→YieldsIf P ops S oi v a→S w →
   Jo P md ops Q S T n (listed.setIfInBounds i true) (a.put oi.dst v) w→Jo P md ops Q S T (n+1) listed a w:=by
 intro n
 induction n with
 | zero =>
  intro listed a w _ hr hy hS H
  refine ⟨fun h=>(by rw [h] at hr;cases hr),fun j hj=>?_⟩
  by_cases hji:j=i
  ·subst hji
   exact hy.wpOp hi hS ⟨fun _=>hS,H⟩
  ·have:=ready_mono hj hji
   rw [H.1] at this
   cases this
 | succ n ih =>
  intro listed a w hfree hr hy hS H
  refine ⟨fun h=>(by rw [h] at hr;cases hr),fun j hj=>?_⟩
  by_cases hji:j=i
  ·subst hji
   exact hy.wpOp hi hS ⟨fun _=>hS,H⟩
  ·have h1:=H.2 j (ready_mono hj hji)
   obtain ⟨hjun,oj,hoj,hall⟩:=mem_ready.1 hj
   have hun:=(mem_ready.1 hr).1
   have hnl:listed.getD i false≠true:=by
    intro hc
    rcases Nat.lt_or_ge i listed.size with h' | h'
    ·simp [h'] at hun hc
     rw [hun] at hc
     cases hc
    ·simp [Array.getElem?_eq_none h'] at hc
   have hnot:∀ e∈oj.after,Region.binds md e=true→e.on≠i:=fun e he hb heq=>hnl (by have:=hall e he hb;rwa [heq] at this)
   have hjT:j≠T:=by
    intro e
    subst e
    unfold Zim at hT
    rw [hoj] at hT
    simp only [Array.any_eq_true,Bool.and_eq_true,beq_iff_eq] at hT
    obtain ⟨q,hq,hb,hon⟩:=hT
    exact hnot _ (Array.getElem_mem hq) hb hon
   have h2:=wpOp_putIf hoj (hfree j oj hoj hji hjun hnot) (fun cs b=>hsel i oi cs b hi) (fun cs b=>hsel j oj cs b hoj) hQ hy h1
   refine wpOp_mono (fun a' w' h3=>⟨fun _=>h3.2.1 hjT,ih (listed.setIfInBounds j true) a' w' ?_ (ready_mono hr (Ne.symm hji)) h3.1 (h3.2.1 hjT) ?_⟩) h2
   ·intro k ok hk hki hku hno
    refine hfree k ok hk hki ?_ hno
    by_cases hjk:j=k
    ·subst hjk;exact hjun
    ·rw [Go.getD_set_ne true hjk] at hku;exact hku
   ·rw [Array.setIfInBounds_comm _ _ hji]
    exact h3.2.2
theorem Ye {L tl:List Oper} {i:Nat} {oi:Oper} {v:Value} {fuel:Nat} {listed:Array Bool} {a:Act} {w:World} (hd:L.drop i=oi :: tl)
  (hs:Region.noSelect L.toArray=true) (hf:Region.free md L.toArray listed i=true) (hr:(Region.ready md L.toArray listed).contains i=true) (hT:Zim md L.toArray T i=true)
  (hQ:∀ c a w,Q (.panic c) (a.put oi.dst v) w→Q (.panic c) a w) (hw:Region.wanted oi (yielded L.toArray a.tmps)=true) (hy:∀ u,S u→(execOp a.eval oi).run P u=.ok (.value v) u) (hS:S w)
  (h:Jo P md L.toArray Q S T fuel (listed.setIfInBounds i true) (a.put oi.dst v) w):Jo P md L.toArray Q S T (fuel+1) listed a w :=
 Jo.first (Pb hd) (Region.noSelect_spec hs) hQ hT fuel listed a w (Region.free_spec (Pb hd) hf) (by simpa using hr) (.inl ⟨hw,hy⟩) hS h
theorem Xl {L tl:List Oper} {i:Nat} {oi:Oper} {fuel:Nat} {listed:Array Bool} {a:Act} {w:World} (hd:L.drop i=oi :: tl)
  (hr:Region.ready md L.toArray listed=[i])
  (h:∀ K':Act→World→Prop,Shut (∀ a w,(i≠T→S w)→Jo P md L.toArray Q S T fuel (listed.setIfInBounds i true) a w→K' a w)→if Region.wanted oi (yielded L.toArray a.tmps)=true then Oper.wp P oi a w K' Q else K' (a.put oi.dst undef) w) :
  Jo P md L.toArray Q S T (fuel+1) listed a w :=
 ⟨fun h0=>absurd (hr ▸ h0) (by simp),fun j hj=>by
  rw [hr] at hj
  obtain rfl:j=i:=by simpa using hj
  exact wpOp_step (Pb hd) (fun K' hK=>h K' (fun a w hS hW=>hK a w ⟨hS,hW⟩))⟩
theorem Uj {listed:Array Bool} {a:Act} {w:World} (hr:Region.ready md ops listed=[]) (h:Q .normal a w):∀ n,Jo P md ops Q S T n listed a w
 | 0=>⟨hr,h⟩
 | _+1=>⟨fun _=>h,by rw [hr];simp⟩
theorem Zac {id:Nat} {a:Act} {w:World} (T:Nat) (S:World→Prop) (hm:P.follows .mixedOrders=true)
  (h:Jo P .any ops Q S T ops.size (Array.replicate ops.size false) a w.drew):(Code.region id ops true).wp P Q a w :=
 wp_region_any hm (Jo.any _ _ _ _ h)
end Go.Proofs.YtblihfpigjiahaaDoor
namespace Go.Proofs.YtblihfpigjiahaaDoor
open Go.RowKit
def Zbg (md:Region.Mode) (ops:Array Oper) (listed:Array Bool):Prop :=
 ∀ k o,ops[k]?=some o→listed.getD k false=true→∀ e∈o.after,Region.binds md e=true→listed.getD e.on false=true
def Zlk (md:Region.Mode) (ops:Array Oper) (listed:Array Bool):Bool :=
 (List.range ops.size).all fun k=>!(listed.getD k false) || (match ops[k]? with | none=>true | some o=>o.after.all fun e=>!(Region.binds md e) || listed.getD e.on false)
theorem Zvg {md:Region.Mode} {ops:Array Oper} {listed:Array Bool} (h:Zlk md ops listed=true):Zbg md ops listed:=by
 intro k o hk hl e he hb
 have hks:k<ops.size:=(Array.getElem?_eq_some_iff.1 hk).1
 have:=List.all_eq_true.1 h k (by simpa using hks)
 rw [hl,hk] at this
 simp only [Bool.not_true,Bool.false_or] at this
 have h2:=Array.all_eq_true_iff_forall_mem.1 this e he
 rw [hb] at h2
 simpa using h2
def Zcs (md:Region.Mode) (ops:Array Oper) (i:Nat):Nat→Nat→Bool
 | 0,_=>false
 | f+1,T=>match ops[T]? with | none=>false | some o=>o.after.any fun e=>Region.binds md e && (e.on == i || Zcs md ops i f e.on)
def Zgf (md:Region.Mode) (ops:Array Oper) (i T:Nat):Prop:=∃ f,Zcs md ops i f T=true
theorem Zry {md:Region.Mode} {ops:Array Oper} {i:Nat} (f T:Nat) (h:Zcs md ops i f T=true):Zgf md ops i T:=⟨f,h⟩
theorem Zni {md:Region.Mode} {ops:Array Oper} {i:Nat} {listed:Array Bool} (hc:Zbg md ops listed):∀ (f T:Nat),Zcs md ops i f T=true →
  (∀ o,ops[T]?=some o→∀ e∈o.after,Region.binds md e=true→listed.getD e.on false=true)→listed.getD i false=true
 | 0,_,h,_=>by cases h
 | f+1,T,h,hp=>by
  unfold Zcs at h
  cases ho:ops[T]? with
  | none=>rw [ho] at h;cases h
  | some o =>
   rw [ho] at h
   simp only [Array.any_eq_true,Bool.and_eq_true,Bool.or_eq_true,beq_iff_eq] at h
   obtain ⟨q,hq,hb,h1 | h1⟩:=h
   ·rw [← h1];exact hp o ho _ (Array.getElem_mem hq) hb
   ·exact Zni hc f _ h1 fun o' ho' e' he' hb'=>hc _ o' ho' (hp o ho _ (Array.getElem_mem hq) hb) e' he' hb'
theorem Zgf.listed {md:Region.Mode} {ops:Array Oper} {i T:Nat} {listed:Array Bool} (hc:Zbg md ops listed) (h:Zgf md ops i T)
  (hp:∀ o,ops[T]?=some o→∀ e∈o.after,Region.binds md e=true→listed.getD e.on false=true):listed.getD i false=true :=
 let ⟨f,h⟩:=h;Zni hc f T h hp
theorem Zmq {listed:Array Bool} (j k:Nat) (h:listed.getD k false=true):(listed.setIfInBounds j true).getD k false=true:=by
 by_cases e:j=k
 ·subst e
  have hs:j<listed.size:=by
   rcases Nat.lt_or_ge j listed.size with h' | h'
   ·exact h'
   ·simp [Array.getElem?_eq_none h'] at h
  simp [hs]
 ·rw [Go.getD_set_ne false e];exact h
theorem Zbg.set {md:Region.Mode} {ops:Array Oper} {listed:Array Bool} (hc:Zbg md ops listed) {j:Nat} (hj:j∈Region.ready md ops listed):Zbg md ops (listed.setIfInBounds j true):=by
 intro k o hk hl e he hb
 obtain ⟨_,oj,hoj,hall⟩:=mem_ready.1 hj
 by_cases ejk:j=k
 ·subst ejk
  rw [hoj] at hk
  obtain rfl:=Option.some.inj hk
  exact Zmq j _ (hall e he hb)
 ·rw [Go.getD_set_ne false ejk] at hl
  exact Zmq j _ (hc k o hk hl e he hb)
variable {P:Program} {md:Region.Mode} {ops:Array Oper} {Q:Exit→Act→World→Prop} {S:World→Prop} {T:Nat}
theorem Jo.firstU {i:Nat} {oi:Oper} {v:Value} (hi:ops[i]?=some oi) (hsel:∀ (j:Nat) (o:Oper) cs b,ops[j]?=some o→o.op≠.select cs b)
  (hQ:∀ c a w,Q (.panic c) (a.put oi.dst v) w→Q (.panic c) a w) (hT:Zgf md ops i T) :
  ∀ (n:Nat) (listed:Array Bool) (a:Act) (w:World),Zbg md ops listed →
   (∀ j oj,ops[j]?=some oj→j≠i→listed.getD j true=false→(∀ e∈oj.after,Region.binds md e=true→e.on≠i)→oi.apart ops oj=true) →
   i∈Region.ready md ops listed→YieldsIf P ops S oi v a→S w →
   Jo P md ops Q S T n (listed.setIfInBounds i true) (a.put oi.dst v) w→Jo P md ops Q S T (n+1) listed a w:=by
 intro n
 induction n with
 | zero =>
  intro listed a w _ _ hr hy hS H
  refine ⟨fun h=>(by rw [h] at hr;cases hr),fun j hj=>?_⟩
  by_cases hji:j=i
  ·subst hji
   exact hy.wpOp hi hS ⟨fun _=>hS,H⟩
  ·have:=ready_mono hj hji
   rw [H.1] at this
   cases this
 | succ n ih =>
  intro listed a w hC hfree hr hy hS H
  refine ⟨fun h=>(by rw [h] at hr;cases hr),fun j hj=>?_⟩
  by_cases hji:j=i
  ·subst hji
   exact hy.wpOp hi hS ⟨fun _=>hS,H⟩
  ·have h1:=H.2 j (ready_mono hj hji)
   obtain ⟨hjun,oj,hoj,hall⟩:=mem_ready.1 hj
   have hun:=(mem_ready.1 hr).1
   have hnl:listed.getD i false≠true:=by
    intro hc
    rcases Nat.lt_or_ge i listed.size with h' | h'
    ·simp [h'] at hun hc
     rw [hun] at hc
     cases hc
    ·simp [Array.getElem?_eq_none h'] at hc
   have hnot:∀ e∈oj.after,Region.binds md e=true→e.on≠i:=fun e he hb heq=>hnl (by have:=hall e he hb;rwa [heq] at this)
   have hjT:j≠T:=by
    intro e
    subst e
    exact hnl (hT.listed hC (fun o ho e he hb=>by rw [hoj] at ho;obtain rfl:=Option.some.inj ho;exact hall e he hb))
   have h2:=wpOp_putIf hoj (hfree j oj hoj hji hjun hnot) (fun cs b=>hsel i oi cs b hi) (fun cs b=>hsel j oj cs b hoj) hQ hy h1
   refine wpOp_mono (fun a' w' h3=>⟨fun _=>h3.2.1 hjT,ih (listed.setIfInBounds j true) a' w' (hC.set hj) ?_ (ready_mono hr (Ne.symm hji)) h3.1 (h3.2.1 hjT) ?_⟩) h2
   ·intro k ok hk hki hku hno
    refine hfree k ok hk hki ?_ hno
    by_cases hjk:j=k
    ·subst hjk;exact hjun
    ·rw [Go.getD_set_ne true hjk] at hku;exact hku
   ·rw [Array.setIfInBounds_comm _ _ hji]
    exact h3.2.2
theorem Zt {L tl:List Oper} {i:Nat} {oi:Oper} {v:Value} {fuel:Nat} {listed:Array Bool} {a:Act} {w:World} (hd:L.drop i=oi :: tl)
  (hs:Region.noSelect L.toArray=true) (hf:Region.free md L.toArray listed i=true) (hr:(Region.ready md L.toArray listed).contains i=true) (hT:(Zcs md L.toArray i 40 T && Zlk md L.toArray listed)=true)
  (hQ:∀ c a w,Q (.panic c) (a.put oi.dst v) w→Q (.panic c) a w) (hw:Region.wanted oi (yielded L.toArray a.tmps)=true) (hy:∀ u,S u→(execOp a.eval oi).run P u=.ok (.value v) u) (hS:S w)
  (h:Jo P md L.toArray Q S T fuel (listed.setIfInBounds i true) (a.put oi.dst v) w):Jo P md L.toArray Q S T (fuel+1) listed a w :=
 Jo.firstU (Pb hd) (Region.noSelect_spec hs) hQ (Zry 40 T (Bool.and_eq_true_iff.1 hT).1) fuel listed a w (Zvg (Bool.and_eq_true_iff.1 hT).2) (Region.free_spec (Pb hd) hf) (by simpa using hr) (.inl ⟨hw,hy⟩) hS h
end Go.Proofs.YtblihfpigjiahaaDoor
namespace Go.Proofs.YtblihfpigjiahaaDoor
open Go.RowKit
theorem Zxv (b o bf off cf n cap i ns cs cl nf:Nat) (ol os:Option Addr) (at_ ar now:Int) (vF vO vh:Value) (l:List Int) (w:World) (hi:i<n) (hnf:0<nf)
  (c0:w.cell? ⟨b,o+i*3,none⟩=some (.int .i64 ar)) (k0:w.cell? ⟨bf,off,none⟩=some (.int .i64 i)) (k1:w.cell? ⟨bf,off+1,none⟩=some (.int .i64 at_))
  (k2:w.cell? ⟨bf,off+2,none⟩=some (.slice ol l.length cl)) (k3:w.cell? ⟨bf,off+3,none⟩=some (.slice os ns cs)) (hl:Xn w (.slice ol l.length cl) l) (r:Bool)
  (hr:(decide (nf=1) && ((decide (at_=0) && (decide (ar=1) && decide (ns=0))) && Ww l))=r) :
  Calls Tryd.prog 74 #[.agg #[vF,.int .i64 now,vO,.slice (some ⟨b,o,none⟩) n cap,vh],.slice (some ⟨bf,off,none⟩) nf cf] w fun e w'=>e=.returned (.bool r)∧Zb w w':=by
 have HR:=Za hr
 have HL:=Za hl
 clear hr hl
 have hi1:(i:Int)<(n:Int):=by omega
 have hi0:(0:Int)≤(i:Int):=by omega
 have hf1:(0:Int)<(nf:Int):=by omega
 have lb:=Xo c0
 have lf:=Xo k0
 simp only at lb lf
 have C0:=Za c0
 have lb1:b<w.heap.size+1:=by omega
 clear c0
 go_enter Tryd.func74,Tryd.ntmps74
 go_wp2
 generalize hw0:(w.alloc (.cells #[vF,.int .i64 now,vO,.slice (some ⟨b,o,none⟩) n cap,vh] 95)).alloc (.cells #[.int .i64 i,.int .i64 at_,.slice ol l.length cl,.slice os ns cs] 53)=w0 at *
 have hk0:Zb w w0:=by rw [← hw0];exact ((Zb.refl w).alloc _).alloc _
 have x3:w0.cell? ⟨w.heap.size,3,none⟩=some (.slice (some ⟨b,o,none⟩) n cap):=by rw [← hw0];simp
 have y0:w0.cell? ⟨w.heap.size+1,0,none⟩=some (.int .i64 i):=by rw [← hw0];simp
 have y1:w0.cell? ⟨w.heap.size+1,1,none⟩=some (.int .i64 at_):=by rw [← hw0];simp
 have y3:w0.cell? ⟨w.heap.size+1,3,none⟩=some (.slice os ns cs):=by rw [← hw0];simp
 have d0:=hk0.cell (un C0)
 have HK0:=Za hk0
 clear hw0 hk0 k0 k1 k2 k3 lb lf lb1
 go_loopw [14] (fun s14 wr=>∃ k:Nat,k≤l.length∧s14=.int .i64 k∧Hid (∀ i,i<k→l.getD i 0=0)∧Hid (w0=wr)) (fun s14 _=>l.length - (intOf s14).toNat)
 case atStart=>exact ⟨0,Nat.zero_le _,rfl,(fun i hi=>by omega),rfl⟩
 case round =>
  obtain ⟨k,hkm,rfl,HA,HW⟩:=hrel
  have hw:=un HW
  subst hw
  clear HW
  by_cases hlt:k<l.length
  ·obtain ⟨oa,ca',e1,_,hcell⟩:=un HL
   obtain ⟨b1,o1,e2,c1⟩:=hcell k _ (Zq l k 0 hlt)
   obtain ⟨rfl,-,-⟩:=(by simpa using e1:ol=oa∧l.length=l.length∧cl=ca')
   have d1:=(un HK0).cell c1
   subst e2
   clear c1 hcell e1
   have HZI:=Za (Zq l k 0 hlt)
   generalize hz1:l.getD k 0=z at *
   have Z1:=Za hz1
   clear hz1
   by_cases hz:z=0
   ·subst hz
    go_wp2
    go_roundw
    case rel =>
     refine ⟨k+1,by omega,by go_num,?_,trivial⟩
     intro i hi
     by_cases e:i=k
     ·subst e;exact un Z1
     ·exact (un HA) i (by omega)
    case measure=>simp [intOf];omega
   ·have hzb:(z != 0)=true:=by rw [bne_iff_ne];exact hz
    have HZ:=Za hz
    clear hz
    go_wp2
    go_ret
    refine ⟨?_,un HK0⟩
    have hf:Ww l=false:=by
     unfold Ww
     rw [Bool.eq_false_iff]
     intro h
     rw [List.all_eq_true] at h
     have:=h z (List.mem_of_getElem? (un HZI))
     exact (un HZ) (by simpa using this)
    have hr:=un HR
    rw [hf,Bool.and_false,Bool.and_false] at hr
    rw [← hr];rfl
  ·have hf:Ww l=true:=by
    unfold Ww
    rw [List.all_eq_true]
    intro z hz
    obtain ⟨i,hi,rfl⟩:=List.getElem_of_mem hz
    have:=(un HA) i (by omega)
    simpa [List.getD,hi] using this
   have hr:=un HR
   rw [hf,Bool.and_true] at hr
   have HR2:=Za hr
   clear hr hf HR HA
   by_cases h1:nf=1
   ·subst h1
    by_cases h2:at_=0
    ·subst h2
     by_cases h3:ar=1
     ·subst h3
      by_cases h4:ns=0
      ·subst h4
       go_wp2
       go_ret
       exact ⟨by rw [← un HR2];rfl,un HK0⟩
      ·have hb:((ns:Int) == 0)=false:=by rw [beq_eq_false_iff_ne];omega
       have H4:=Za h4
       clear h4
       go_wp2
       go_ret
       exact ⟨by rw [← un HR2,decide_eq_false (un H4)];rfl,un HK0⟩
     ·have hb:(ar == 1)=false:=by rw [beq_eq_false_iff_ne];exact h3
      have H3:=Za h3
      clear h3
      go_wp2
      go_ret
      exact ⟨by rw [← un HR2,decide_eq_false (un H3)];rfl,un HK0⟩
    ·have hb:(at_ == 0)=false:=by rw [beq_eq_false_iff_ne];exact h2
     have H2:=Za h2
     clear h2
     go_wp2
     go_ret
     exact ⟨by rw [← un HR2,decide_eq_false (un H2)];rfl,un HK0⟩
   ·have hb:((nf:Int) == 1)=false:=by rw [beq_eq_false_iff_ne];omega
    have H1:=Za h1
    clear h1
    go_wp2
    go_ret
    exact ⟨by rw [← un HR2,decide_eq_false (un H1)];rfl,un HK0⟩
theorem Zod (p:List Fn) (s:St) (v vf:Value) (b:Fb) (w:World) (hj:Wj w v p s) (hf:Ys w vf b.frames) (hn:0<b.frames.length) (hin:∀ x,x∈b.frames→0≤x.fn∧x.fn<p.length) :
  Calls Tryd.prog 74 #[v,vf] w fun e w'=>e=.returned (.bool (Jy p b))∧Zb w w':=by
 obtain ⟨vF,vO,vp,vh,rfl,_,_,h3,_⟩:=hj
 obtain ⟨of,cf,rfl,hfl,hcell⟩:=id hf
 obtain ⟨bf,off,vl,vs,rfl,k0,k1,k2,k3,k4,k5⟩:=hcell 0 _ (Zq b.frames 0 Fr.zero hn)
 have hm:b.frames.getD 0 Fr.zero∈b.frames:=List.mem_of_getElem? (Zq b.frames 0 Fr.zero hn)
 have hxm:=hin _ hm
 generalize hX:b.frames.getD 0 Fr.zero=x at *
 obtain ⟨oa,cap,rfl,hpl,hpc⟩:=id h3
 obtain ⟨i,hi⟩:∃ i:Nat,x.fn=i:=⟨x.fn.toNat,by omega⟩
 obtain ⟨b',o,cv,rfl,c0,_,_,_⟩:=hpc i _ (Zq p i Fn.zero (by omega))
 obtain ⟨ol,cl,rfl,_,_⟩:=id k4
 obtain ⟨os,cs,rfl,_,_⟩:=id k5
 rw [hi] at k0
 refine Zxv b' o bf off cf _ cap i _ cs cl _ ol os x.at_ _ _ vF vO vh x.locals w (by omega) hn c0 (by simpa using k0) (by simpa using k1) (by simpa using k2) (by simpa using k3) k4 _ ?_
 unfold Jy
 split
 ·rename_i x' e
  rw [e] at hX
  simp at hX
  subst hX
  simp [e,hi]
 ·rename_i hno
  have:¬ b.frames.length=1:=by
   intro h
   obtain ⟨y,hy⟩:=List.length_eq_one_iff.1 h
   exact hno y hy
  simp [this]
end Go.Proofs.YtblihfpigjiahaaDoor
