/- EngF, App, StateD0, StateP, EngG, EngH, EngI -/
import Derived.Test.YtblihfpigjiahaaGreatDoorZB16
import Derived.Laws.CopyOwn
import Derived.Test.YtblihfpigjiahaaGreatDoorZB01
import Derived.Test.YtblihfpigjiahaaGreatDoorChecked
import Derived.Laws.AppendOwn
import Derived.Test.YtblihfpigjiahaaGreatDoorZB11
import Derived.Test.YtblihfpigjiahaaGreatDoorZB13
import Derived.Deep.RegionHeld3
import Derived.Defers
import Derived.Recover
set_option maxRecDepth 100000
set_option maxHeartbeats 8000000
namespace Go.Proofs.YtblihfpigjiahaaGreatDoor
open Go.RowKit
def BegunPost (f lo:Nat) (l:List Int) (w:World) (e:Ending) (w':World):Prop :=
 ∃ BL,e=.returned (.agg #[.int .i64 f,.int .i64 0,.slice (some ⟨BL,0,none⟩) lo lo,.slice none 0 0])∧w'.heap[BL]?=some (.cells (ints l).toArray 3)∧w.heap.size≤BL∧Kept w w'
theorem copied_row (w:World) (B lo m cv:Nat) (ov:Option Addr) (vals:List Int) (hm:vals.length=m) (hl:m≤lo) (hg:w.heap[B]?=some (.cells (ints (List.replicate lo 0)).toArray 3)) (hv:∀ i z,vals[i]?=some z→∃ b o,ov=some ⟨b,o,none⟩∧w.cell? ⟨b,o + i,none⟩=some (.int .i64 z)) :
  ∃ w',(Builtin.copy_ #[24,24] 3 #[.slice (some ⟨B,0,none⟩) lo lo,.slice ov m cv]).run Tryz.prog w=.ok (goInt m) w'∧w'.heap[B]?=some (.cells (ints (vals++List.replicate (lo - m) 0)).toArray 3)∧Below B w w':=by
 have hz:(Tryz.prog.info? 3).map (·.size)=some 1:=by kernel_rfl
 by_cases h0:m=0
 ·subst h0
  obtain rfl:=List.length_eq_zero_iff.1 hm
  exact ⟨w,run_copy_none (P:=Tryz.prog) w 24 24 3 3 _ _ _ _ _ _ Tryz.underlying24 hz (by simp),hg,Below.refl _ _⟩
 ·obtain ⟨b,o,rfl,_⟩:=hv 0 _ (Zm vals 0 0 (by omega))
  have hr:=run_copy_row (P:=Tryz.prog) w 24 24 3 3 B 0 lo lo ⟨b,o,none⟩ m cv (ints (List.replicate lo 0)).toArray 3 (ints vals) Tryz.underlying24 hz hg (by rw [Jw,hm]; exact (Nat.min_eq_left hl).symm) (fun j v hj=>by
   simp only [ints,List.getElem?_map,Option.map_eq_some_iff] at hj
   obtain ⟨z,hz,rfl⟩:=hj
   obtain ⟨b',o',e',h'⟩:=hv j z hz
   obtain ⟨rfl,rfl⟩:=(by simpa using e':b=b'∧o=o')
   have:(⟨b,o,none⟩:Addr).add j=⟨b,o + j,none⟩:=by unfold Addr.add; split <;> simp_all
   rw [this]
   exact h') (by simp [ints]; omega) (fun v hv=>by simp only [ints,List.mem_map] at hv; obtain ⟨z,_,rfl⟩:=hv; rfl)
  rw [Jw,hm] at hr
  refine ⟨_,hr,?_,below_setRow (Below.refl _ _) (Nat.le_refl _) _⟩
  rw [setRow_heap w B _ _ _ _ hg]
  simp [ints]
theorem begun_any (bs f lo n cp bp op:Nat) (vv:Value) (vals:List Int) (w:World) (hf:f < n) (hlo:lo≤1000) (hv:IntsW w vv vals) (hvl:vals.length≤lo) (hp:w.cell? ⟨bp,op + f * 3 + 1,none⟩=some (.int .i64 lo)) :
  Calls Tryz.prog 130 #[eng bs (.slice (some ⟨bp,op,none⟩) n cp),.int .i64 f,vv] w (BegunPost f lo (vals++List.replicate (lo - vals.length) 0) w):=by
 obtain ⟨ov,cv,rfl,hvm,hcell⟩:=hv
 have hf0:(0:Int)≤(f:Int):=by omega
 have hf1:(f:Int) < (n:Int):=by omega
 have hmk:=make_ints lo (by omega)
 have hl0:(0:Int)≤(lo:Int):=by omega
 have d1:∀ o o',((w.alloc o).alloc o').cell? ⟨bp,op + f * 3 + 1,none⟩=some (.int .i64 lo):=fun o o'=>(((Kept.refl w).alloc o).alloc o').cell hp
 have HC:=hide hcell
 generalize hL:vals++List.replicate (lo - vals.length) 0=L
 have HL:=hide hL
 generalize hm:vals.length=m at *
 have HM:=hide hm
 clear hcell hL hm
 go_enter Tryz.func130,Tryz.ntmps130
 go_upto_region 2 with fail
 generalize hw2:((w.alloc (.cells #[.pointer (some ⟨bs,0,none⟩),.slice (some ⟨bp,op,none⟩) n cp] 93)).alloc (.cells #[.int .i64 0,.int .i64 0,.slice none 0 0,.slice none 0 0] 48)).alloc (.cells (Array.replicate lo (.int .i64 0)) 3)=w2
 have hk2:Kept w w2:=by rw [← hw2]; exact (((Kept.refl w).alloc _).alloc _).alloc _
 have l1:w2.heap[w.heap.size + 1]?=some (.cells #[.int .i64 0,.int .i64 0,.slice none 0 0,.slice none 0 0] 48):=by rw [← hw2]; exact Zg (Zd (by simp)) _
 have l2:w2.heap[w.heap.size + 1 + 1]?=some (.cells (ints (List.replicate lo 0)).toArray 3):=by rw [← hw2]; exact (Zd (by simp)).trans (by simp [ints])
 have HSZ:Hid (w2.heap.size=w.heap.size + 1 + 1 + 1):=by rw [← hw2]; exact hide (by simp)
 obtain ⟨w3,hrun,l3,hb3⟩:=copied_row w2 (w.heap.size + 1 + 1) lo m cv ov vals (un HM) hvl l2 (fun i z hz=>by
  obtain ⟨b,o,e,h'⟩:=(un HC) i z hz
  exact ⟨b,o,e,hk2.cell h'⟩)
 have m1:=(hb3.block (w.heap.size + 1) (by omega)).trans l1
 have HK3:Hid (Kept w w3):=hide (Below.trans hk2 (Below.mono hb3 (by omega)))
 rw [un HL] at l3
 have HL3:=hide l3
 have q0:w3.cell? ⟨w.heap.size + 1,0,none⟩=some (.int .i64 0):=Zb m1 0
 have q1:w3.cell? ⟨w.heap.size + 1,1,none⟩=some (.int .i64 0):=Zb m1 1
 have q2:w3.cell? ⟨w.heap.size + 1,2,none⟩=some (.slice none 0 0):=Zb m1 2
 have q3:w3.cell? ⟨w.heap.size + 1,3,none⟩=some (.slice none 0 0):=Zb m1 3
 have z0:=Zi m1 0
 have z1:=Zi m1 1
 have z2:=Zi m1 2
 have z3:=Zi m1 3
 have HM1:=hide m1
 clear hw2 hk2 l1 l2 l3 hb3 m1 hmk
 go_wp2
 have r:=Zs (Zs (Zs (Zs (un HM1) 0 (.int .i64 f)) 1 (.int .i64 0)) 2 (.slice (some ⟨w.heap.size + 1 + 1,0,none⟩) lo lo)) 3 (.slice none 0 0)
 have r0:=Zb r 0
 have r1:=Zb r 1
 have r2:=Zb r 2
 have r3:=Zb r 3
 refine bodyPost_ret (v:=.agg #[.int .i64 f,.int .i64 0,.slice (some ⟨w.heap.size + 1 + 1,0,none⟩) lo lo,.slice none 0 0]) (by simp [results,Tryz.results130,go_sem,r0,r1,r2,r3]) rfl ⟨w.heap.size + 1 + 1,rfl,?_,by omega,?_⟩
 ·refine Xz (Xz (Xz (Xz (un HL3) ?_ _) ?_ _) ?_ _) ?_ _ <;> simp
 ·refine Kept.setCell (Kept.setCell (Kept.setCell (Kept.setCell (un HK3) ?_ _) ?_ _) ?_ _) ?_ _ <;> simp
theorem Qq {o:Oper} {a:Act} {K:Act→World→Prop} {Q:Exit→Act→World→Prop} (w:World) (s x:Operand) (t:TypeId)
  (ho:o.op=.call { callee:=.builtin .append,args:=#[s,x],argTypes:=#[t,t] }) {v u v':Value} {w':World} (hs:a.eval s=v) (hx:a.eval x=u)
  (hr:(Builtin.append_ #[t,t] o.type #[v,u]).run Tryz.prog w=.ok v' w') (h:K (a.put o.dst v') w'):o.wp Tryz.prog a w K Q:=by
 unfold Oper.wp execOp
 simp only [ho,resolve,invoke,builtin,Sem.run_bind,Sem.run_pure,Result.andThen_ok,List.map_toArray,List.map_cons,List.map_nil,hs,hx,hr]
 exact h
theorem wpList_appR {ops:Array Oper} {rest:List Oper} {o:Oper} {a:Act} {Q:Exit→Act→World→Prop} (w:World) (hgd:o.guard=none) (s x:Operand) (t:TypeId)
  (ho:o.op=.call { callee:=.builtin .append,args:=#[s,x],argTypes:=#[t,t] }) {v u v':Value} {w':World} (hs:a.eval s=v) (hx:a.eval x=u)
  (hr:(Builtin.append_ #[t,t] o.type #[v,u]).run Tryz.prog w=.ok v' w') (h:wpList Tryz.prog ops Q rest (a.put o.dst v') w'):wpList Tryz.prog ops Q (o :: rest) a w :=
 wpList_plain hgd fun _ hK=>Qq w s x t ho hs hx hr (hK _ _ h)
theorem step_appR {ops:Array Oper} {o:Oper} {a:Act} {K:Act→World→Prop} {Q:Exit→Act→World→Prop} {E:Prop} (w:World) (hgd:o.guard=none) (s x:Operand) (t:TypeId)
  (ho:o.op=.call { callee:=.builtin .append,args:=#[s,x],argTypes:=#[t,t] }) {v u v':Value} {w':World} (hs:a.eval s=v) (hx:a.eval x=u)
  (hr:(Builtin.append_ #[t,t] o.type #[v,u]).run Tryz.prog w=.ok v' w') (h:K (a.put o.dst v') w'):if Region.wanted o (yielded ops a.tmps)=true then Oper.wp Tryz.prog o a w K Q else E:=by
 rw [if_pos (by simp [Region.wanted,hgd])]
 exact Qq w s x t ho hs hx hr h
theorem row_unique {w:World} {base base':Nat} {e:TypeId} {size:Nat} {v:Value} {n:Nat} {xs ys:List Value} (h:w.ownsRow base e size v n xs) (h':w.ownsRow base' e size v n ys):xs=ys:=by
 rcases h with ⟨l,⟨rfl,rfl⟩ | ⟨g,cap,cur,rfl,_,hg,_,_,_,ht⟩⟩
 ·have l':=h'.1
  simp at l l'
  rw [l,l']
 ·rcases h' with ⟨_,⟨h0,_⟩ | ⟨g',cap',cur',e',_,hg',_,_,_,ht'⟩⟩
  ·cases h0
  ·simp only [Value.slice.injEq,Option.some.injEq,Addr.mk.injEq] at e'
   obtain ⟨⟨rfl,_⟩,_⟩:=e'
   rw [hg] at hg'
   obtain rfl:cur=cur':=by simpa using hg'
   rw [← ht,ht']
def FrV (w:World) (v:Value) (x:Fr):Prop:=∃ vl vs,v=.agg #[.int .i64 x.fn,.int .i64 x.at_,vl,vs]∧IntsW w vl x.locals∧IntsW w vs x.stack
def FbV (w:World) (v:Value) (b:Fb):Prop:=∃ vf,v=.agg #[vf,.int .i64 b.caller]∧FramesAt w vf b.frames
theorem FrV.kept {w w':World} (h:Kept w w') {v:Value} {x:Fr} (hx:FrV w v x):FrV w' v x:=by
 obtain ⟨vl,vs,e,h1,h2⟩:=hx; exact ⟨vl,vs,e,h1.kept h,h2.kept h⟩
theorem FbV.kept {w w':World} (h:Kept w w') {v:Value} {x:Fb} (hx:FbV w v x):FbV w' v x:=by
 obtain ⟨vl,e,h1⟩:=hx; exact ⟨vl,e,h1.kept h⟩
def HLen (p:List Fn):Prop:=∀ k,k < p.length→(hgt p k).length=(Zu p k).length
theorem frameB_mk {p:List Fn} {x:Fr} {i:Nat} (hf:x.fn=i) (hi:i < p.length):Zw p x=(decide ((x.locals.length:Int)=(p.getD i Fn.zero).locals) && (ixB x.at_ (Zu p i).length && decide (0≤(hgt p i).getD x.at_.toNat 0))):=by
 unfold Zw hAt
 rw [hf,Qf (by omega) (by omega),Bool.true_and,Int.toNat_natCast]
structure InFrame (p:List Fn) (x:Fr):Prop where
 fn0:0≤x.fn
 fn1:x.fn < p.length
 at0:0≤x.at_
 at1:x.at_ < (Zu p x.fn.toNat).length
theorem InFrame.of {p:List Fn} {x:Fr} (h:Zw p x=true):InFrame p x:=by
 simp only [Zw,Bool.and_eq_true,Qb,decide_eq_true_eq] at h
 exact ⟨h.1.1,h.1.2,h.2.2.1.1,h.2.2.1.2⟩
theorem Qw (a:Int) (h1:-17592186044416≤a) (h2:a≤17592186044416):IntKind.i64.wrap a=a:=by
 rw [IntKind.wrap_i64]
 omega
def HBound (p:List Fn):Prop:=∀ k a,k < p.length→-1000≤(hgt p k).getD a 0∧(hgt p k).getD a 0≤1000
def left (e:Int):Ending:=.panicked [{ v:=.iface 27 (.int .i64 e),recovered:=false }]
def FlagsAt (w:World) (b o:Nat) (l:List Bool):Prop:=∀ i z,l[i]?=some z→w.cell? ⟨b,o + i,none⟩=some (.bool z)
theorem ask_all (e:Int) (l:List Bool) (b o n cap:Nat) (w:World) (hn:n=l.length) (hl:l.length≤1000) (hf:FlagsAt w b o l) (ha:∀ z,z∈l→z=true) :
  Calls Tryz.prog 112 #[.int .i64 e,.slice (some ⟨b,o,none⟩) n cap] w fun en w'=>en=.returned (.tuple #[])∧w=w':=by
 subst hn
 have HF:=hide hf
 have HA:=hide ha
 clear hf ha
 go_enter Tryz.func112,Tryz.ntmps112
 go_wp2
 go_loopw [8] (fun s8 wr=>∃ k:Nat,k≤l.length∧s8=.int .i64 k∧Hid (w=wr)) (fun s8 _=>l.length - (intOf s8).toNat)
 case atStart=>exact ⟨0,Nat.zero_le _,rfl,rfl⟩
 case round =>
  obtain ⟨k,hkm,rfl,HW⟩:=hrel
  have hw:=un HW
  subst hw
  clear HW
  by_cases hlt:k < l.length
  ·have hc:=(un HF) k _ (Zm l k false hlt)
   have ht:l.getD k false=true:=(un HA) _ (List.mem_of_getElem? (Zm l k false hlt))
   rw [ht] at hc
   clear ht
   go_wp2
   go_roundw
   case rel=>exact ⟨k + 1,by omega,by go_num,trivial⟩
   case measure=>simp [intOf]; omega
  ·go_wp2
   go_end0
   exact ⟨rfl,rfl⟩
theorem ask_not (e:Int) (l:List Bool) (b o n cap:Nat) (w:World) (hn:n=l.length) (hl:l.length≤1000) (hf:FlagsAt w b o l) (ha:∃ z,z∈l∧z=false) :
  Calls Tryz.prog 112 #[.int .i64 e,.slice (some ⟨b,o,none⟩) n cap] w fun en w'=>en=left e∧w=w':=by
 subst hn
 have HF:=hide hf
 have HA:=hide ha
 clear hf ha
 go_enter Tryz.func112,Tryz.ntmps112
 go_wp2
 go_loopw [8] (fun s8 wr=>∃ k:Nat,k≤l.length∧s8=.int .i64 k∧Hid (∀ i,i < k→l.getD i false=true)∧Hid (w=wr)) (fun s8 _=>l.length - (intOf s8).toNat)
 case atStart=>exact ⟨0,Nat.zero_le _,rfl,(fun i hi=>by omega),rfl⟩
 case round =>
  obtain ⟨k,hkm,rfl,HT,HW⟩:=hrel
  have hw:=un HW
  subst hw
  clear HW
  by_cases hlt:k < l.length
  ·have hc:=(un HF) k _ (Zm l k false hlt)
   by_cases ht:l.getD k false=true
   ·rw [ht] at hc
    have HT2:=hide ht
    clear ht
    go_wp2
    go_roundw
    case rel =>
     refine ⟨k + 1,by omega,by go_num,?_,trivial⟩
     intro i hi
     by_cases e:i=k
     ·subst e; exact un HT2
     ·exact (un HT) i (by omega)
    case measure=>simp [intOf]; omega
   ·have ht':l.getD k false=false:=by simpa using ht
    rw [ht'] at hc
    clear ht ht'
    go_wp2
    first | exact ⟨rfl,rfl⟩ | (refine bodyPost_panic ?_; exact ⟨rfl,rfl⟩) | (simp [bodyPost,left]; done)
  ·obtain ⟨z,hz,hzf⟩:=un HA
   obtain ⟨i,hi,rfl⟩:=List.getElem_of_mem hz
   have:=(un HT) i (by omega)
   simp [List.getD,hi] at this
   rw [this] at hzf
   cases hzf
theorem flags_one {w:World} {b:Nat} {z:Bool} (h:w.cell? ⟨b,0,none⟩=some (.bool z)):FlagsAt w b 0 [z]:=fun i y hy=>by
 cases i with
 | zero=>simp at hy; subst hy; exact h
 | succ i=>simp at hy
theorem flags_two {w:World} {b:Nat} {z y:Bool} (h:w.cell? ⟨b,0,none⟩=some (.bool z)) (h':w.cell? ⟨b,1,none⟩=some (.bool y)):FlagsAt w b 0 [z,y]:=fun i u hu=>by
 match i,hu with
 | 0,hu=>simp at hu; subst hu; exact h
 | 1,hu=>simp at hu; subst hu; exact h'
theorem Ji (e:Int) (b cap:Nat) (w:World) (h:w.cell? ⟨b,0,none⟩=some (.bool true)) :
  Calls Tryz.prog 112 #[.int .i64 e,.slice (some ⟨b,0,none⟩) 1 cap] w fun en w'=>en=.returned (.tuple #[])∧w=w' :=
 ask_all e [true] b 0 1 cap w rfl (by decide) (flags_one h) (by simp)
theorem ask1_no (e:Int) (b cap:Nat) (w:World) (h:w.cell? ⟨b,0,none⟩=some (.bool false)) :
  Calls Tryz.prog 112 #[.int .i64 e,.slice (some ⟨b,0,none⟩) 1 cap] w fun en w'=>en=left e∧w=w' :=
 ask_not e [false] b 0 1 cap w rfl (by decide) (flags_one h) ⟨false,by simp,rfl⟩
theorem ask2_ok (e:Int) (b cap:Nat) (w:World) (h:w.cell? ⟨b,0,none⟩=some (.bool true)) (h':w.cell? ⟨b,1,none⟩=some (.bool true)) :
  Calls Tryz.prog 112 #[.int .i64 e,.slice (some ⟨b,0,none⟩) 2 cap] w fun en w'=>en=.returned (.tuple #[])∧w=w' :=
 ask_all e [true,true] b 0 2 cap w rfl (by decide) (flags_two h h') (by simp)
theorem ask2_no (e:Int) (b cap:Nat) (y:Bool) (w:World) (h:w.cell? ⟨b,0,none⟩=some (.bool false)) (h':w.cell? ⟨b,1,none⟩=some (.bool y)) :
  Calls Tryz.prog 112 #[.int .i64 e,.slice (some ⟨b,0,none⟩) 2 cap] w fun en w'=>en=left e∧w=w' :=
 ask_not e [false,y] b 0 2 cap w rfl (by simp) (flags_two h h') ⟨false,by simp,rfl⟩
theorem ask2_no' (e:Int) (b cap:Nat) (y:Bool) (w:World) (h:w.cell? ⟨b,0,none⟩=some (.bool y)) (h':w.cell? ⟨b,1,none⟩=some (.bool false)) :
  Calls Tryz.prog 112 #[.int .i64 e,.slice (some ⟨b,0,none⟩) 2 cap] w fun en w'=>en=left e∧w=w' :=
 ask_not e [y,false] b 0 2 cap w rfl (by simp) (flags_two h h') ⟨false,by simp,rfl⟩
def askEnd (e:Int) (ok:Bool):Ending:=if ok=true then .returned (.tuple #[]) else left e
theorem Kp (i n:Int) (w:World):Calls Tryz.prog 114 #[.int .i64 i,.int .i64 n] w fun e w'=>e=.returned (.bool (ixB i n))∧w=w':=by
 by_cases h1:0≤i
 ·by_cases h2:i < n
  ·rw [Qf h1 h2]
   go_enter Tryz.func114,Tryz.ntmps114
   go_wp2
   go_ret
   exact ⟨rfl,rfl⟩
  ·rw [Jl (fun h=>h2 h.2)]
   have hd:decide (i < n)=false:=decide_eq_false h2
   go_enter Tryz.func114,Tryz.ntmps114
   go_wp2
   go_ret
   exact ⟨by rw [← hd]; rfl,rfl⟩
 ·rw [Jl (fun h=>h1 h.1)]
  have hd:decide (0≤i)=false:=decide_eq_false h1
  go_enter Tryz.func114,Tryz.ntmps114
  go_wp2
  go_ret
  exact ⟨rfl,rfl⟩
def HgtsAt (w:World) (v:Value) (p:List Fn):Prop :=
 ∃ b o cap,v=.slice (some ⟨b,o,none⟩) p.length cap∧∀ k,k < p.length→∃ u,w.cell? ⟨b,o + k,none⟩=some u∧IntsAt w u (hgt p k)
theorem HgtsAt.kept {w w':World} (h:Kept w w') {v:Value} {p:List Fn} (hv:HgtsAt w v p):HgtsAt w' v p:=by
 obtain ⟨b,o,cap,e,hi⟩:=hv
 refine ⟨b,o,cap,e,fun k hk=>?_⟩
 obtain ⟨u,h1,h2⟩:=hi k hk
 exact ⟨u,h.cell h1,h2.kept h⟩
def JudgeV (w:World) (v:Value) (p:List Fn) (s:St):Prop :=
 ∃ vF vO vp vh,v=.agg #[vF,.int .i64 s.now,vO,vp,vh]∧FibersAt w vF s.fibers∧IntsW w vO s.out∧ProgAt w vp p∧HgtsAt w vh p
theorem JudgeV.kept {w w':World} (h:Kept w w') {v:Value} {p:List Fn} {s:St} (hv:JudgeV w v p s):JudgeV w' v p s:=by
 obtain ⟨vF,vO,vp,vh,e,h1,h2,h3,h4⟩:=hv
 exact ⟨vF,vO,vp,vh,e,h1.kept h,h2.kept h,h3.kept h,h4.kept h⟩
def nameB (n:Int) (len:Nat):Bool:=decide (n=-1) || ixB n len
theorem nameB_inB (n:Int) (len:Nat):nameB n len=inB n (-1) ((len:Int) - 1):=by
 rw [Bool.eq_iff_iff,inB_iff]
 simp only [nameB,Bool.or_eq_true,decide_eq_true_eq,Qb]
 omega
theorem mayName_any (p:List Fn) (s:St) (v:Value) (n:Int) (w:World) (hj:JudgeV w v p s) :
  Calls Tryz.prog 113 #[v,.int .i64 n] w fun e w'=>e=.returned (.bool (nameB n s.fibers.length))∧Kept w w':=by
 obtain ⟨vF,vO,vp,vh,rfl,h1,_,_,_⟩:=hj
 obtain ⟨oa,cap,rfl,hlen,_⟩:=h1
 unfold nameB
 generalize s.fibers.length=m at *
 by_cases hn:n=-1
 ·subst hn
  go_enter Tryz.func113,Tryz.ntmps113
  go_wp2
  go_ret
  exact ⟨rfl,(Kept.refl w).alloc _⟩
 ·have hb:(n == -1)=false:=by rw [beq_eq_false_iff_ne]; exact hn
  rw [decide_eq_false hn,Bool.false_or]
  clear hn
  go_enter Tryz.func113,Tryz.ntmps113
  go_wp2_with (go_at_call 114; refine (Kp _ _ _).mono ?_; rintro e w' ⟨rfl,rfl⟩)
  go_ret
  exact ⟨rfl,(Kept.refl w).alloc _⟩
theorem height_any (p:List Fn) (s:St) (v u:Value) (x:Fr) (w:World) (hj:JudgeV w v p s) (hx:FrV w u x) (hl:HLen p) (hin:InFrame p x) :
  Calls Tryz.prog 115 #[v,u] w fun e w'=>e=.returned (.int .i64 (hAt p x))∧Kept w w':=by
 obtain ⟨vF,vO,vp,vh,rfl,h1,h2,h3,h4⟩:=hj
 obtain ⟨of,cf,rfl,_,_⟩:=h1
 obtain ⟨oo,co,rfl,_,_⟩:=h2
 obtain ⟨op,cp,rfl,hpl,_⟩:=h3
 obtain ⟨b,o,cap,rfl,hh⟩:=h4
 obtain ⟨vl,vs,rfl,_,_⟩:=hx
 obtain ⟨f0,f1,a0,a1⟩:=hin
 obtain ⟨i,hi⟩:∃ i:Nat,x.fn=i:=⟨x.fn.toNat,by omega⟩
 obtain ⟨a,ha⟩:∃ a:Nat,x.at_=a:=⟨x.at_.toNat,by omega⟩
 have hip:i < p.length:=by omega
 rw [hi,Int.toNat_natCast] at a1
 have hlen:=hl i hip
 obtain ⟨uv,c0,hu⟩:=hh i hip
 obtain ⟨oh,ch,rfl,_,hcell⟩:=hu
 obtain ⟨bh,oh2,rfl,d0⟩:=hcell a _ (Zm (hgt p i) a 0 (by omega))
 unfold hAt
 rw [hi,ha,Int.toNat_natCast,Int.toNat_natCast]
 generalize hz:(hgt p i).getD a 0=z at *
 have hi1:(i:Int) < (p.length:Int):=by omega
 have hi0:(0:Int)≤(i:Int):=by omega
 have ha1:(a:Int) < ((hgt p i).length:Int):=by omega
 have ha0:(0:Int)≤(a:Int):=by omega
 generalize (hgt p i).length=m at *
 generalize p.length=n at *
 generalize s.fibers.length=nf at *
 generalize s.out.length=no at *
 have l0:=Xd c0
 have l1:=Xd d0
 simp only at l0 l1
 clear hh hcell hlen hz
 go_enter Tryz.func115,Tryz.ntmps115
 go_wp2
 go_quiet (fail)
 go_wp2
 go_ret
 exact ⟨rfl,(((Kept.refl w).alloc _).alloc _).drewN _⟩
def EngPost (base bs:Nat) (V:Key→Value) (s:St) (r:St × Int) (w:World) (e:Ending) (w':World):Prop :=
 (r.2=0∧e=.returned (.tuple #[])∧∃ V',Moved base bs V s w V' r.1 w')∨(r.2≠0∧e=left r.2∧Past bs V s w w')
theorem giveWay_any (base bs:Nat) (V:Key→Value) (s:St) (i n cp:Nat) (oa:Option Addr) (w:World) (h:OwnVar base w bs V s) (hn:s.now=i) (hi:i < s.fibers.length) :
  Calls Tryz.prog 131 #[eng bs (.slice oa n cp)] w (Qh base bs V s { Zf s i { Za s i with caller:=-1 } with now:=(Za s i).caller } (.tuple #[]) w):=by
 obtain ⟨gF,capF,eF,hrun⟩:=running_own h hn hi oa n cp
 have HT:=hide hrun
 have HO:=hide h
 have HEF:=hide eF
 clear hrun h
 generalize hc:(Za s i).caller=c at *
 have HC:=hide hc
 clear hc
 go_enter Tryz.func131,Tryz.ntmps131
 go_wp2_with fail
 generalize hwb:w.alloc (.cells #[.pointer (some ⟨bs,0,none⟩),.slice oa n cp] 93)=wb
 have hkb:Kept w wb:=by rw [← hwb]; exact (Kept.refl w).alloc _
 have lB:wb.heap[w.heap.size]?=some (.cells #[.pointer (some ⟨bs,0,none⟩),.slice oa n cp] 93):=by rw [← hwb]; exact Zd rfl
 have hob:OwnVar base wb bs V s:=(un HO).kept hkb
 refine ((un HT) wb hob).mono ?_
 rintro e w1 ⟨rfl,hk1⟩
 have ho1:=hob.kept hk1
 have hk01:=hkb.trans hk1
 have l1:=Zj hk1 lB
 have b0:w1.cell? ⟨w.heap.size,0,none⟩=some (.pointer (some ⟨bs,0,none⟩)):=Zb l1 0
 obtain ⟨gF',capF',eF',_,k0,k1,kz,_⟩:=ho1.own.fib hi
 rw [un HEF] at eF'
 obtain ⟨⟨rfl⟩,-,rfl⟩:=(by simpa using eF':(gF=gF')∧True∧capF=capF')
 rw [un HC] at k1
 obtain ⟨_,c1,_,cz⟩:=ho1.cells
 have kz1:=kz (i * 2 + 1)
 have cz1:=cz 1
 have hm1:=Moved.setNow ho1 c
 have hm2:=Moved.setCaller hm1.own hi (un HEF) (-1)
 have HM:=hide ((Moved.of_kept (un HO) hk01).trans (hm1.trans hm2))
 have hne:bs≠gF:=fun e=>(un HO).off .fibers trivial (by rw [un HEF,e]; rfl)
 have hne':gF≠bs:=fun e=>hne e.symm
 have hBb:bs≠w.heap.size:=by have:=lt_of_block (un HO).var; omega
 have hBg:gF≠w.heap.size:=by have:=(((un HO).own.piece .fibers trivial).block gF (by rw [un HEF]; rfl)).2; omega
 clear hwb hob hk01 hk1 ho1 eF' kz cz hkb lB l1 k0 HT hm1 hm2
 go_upto_region 2 with fail
 go_region
 go_wp2
 go_end0
 exact ⟨rfl,V,(un HM).drew⟩
theorem putOut_any (base bs:Nat) (V:Key→Value) (s:St) (n cp:Nat) (oa:Option Addr) (z:Int) (w:World) (h:OwnVar base w bs V s) (ho:s.out.length≤30) :
  Calls Tryz.prog 102 #[eng bs (.slice oa n cp),.int .i64 z] w (EngPost base bs V s (putS s z) w):=by
 obtain ⟨i0,hi0,hz0,hz1,hz2⟩:=info_int
 obtain ⟨_,_,c2,fz⟩:=h.cells
 have hs:w.ownsRow base 3 1 (V .out) s.out.length (ints s.out):=h.own.piece .out trivial
 have hbw:=lt_of_block h.var
 have hlow:=h.low
 obtain ⟨oo,co,eo,_⟩:=Zo hs
 have d2:∀ o,(w.alloc o).cell? ⟨bs,2,none⟩=some (.slice oo s.out.length co):=fun o=>by rw [← eo]; exact ((Kept.refl w).alloc o).cell c2
 have HO:=hide h
 have HEO:=hide eo
 rw [eo] at c2
 have hme:∀ (e:Int),(Instr.makeInterface 27 (.int .i64 e)).run Tryz.prog w=.ok (.iface 27 (.int .i64 e)) w:=fun _=>rfl
 by_cases h30:s.out.length=30
 ·have hp:putS s z=(St.zero,2):=by unfold putS; rw [if_pos h30]
  rw [hp]
  rw [h30] at d2
  clear h hp h30 hs c2 fz
  go_enter Tryz.func102,Tryz.ntmps102
  go_wp2
  exact ⟨rfl,Or.inr ⟨by decide,rfl,Past.of_kept ((Kept.refl w).alloc _)⟩⟩
 ·have hp:putS s z=({ s with out:=s.out++[z] },0):=by unfold putS; rw [if_neg h30]
  rw [hp]
  have hb30:((s.out.length:Int) == 30)=false:=by rw [beq_eq_false_iff_ne]; omega
  generalize hl:s.out=l at *
  have HL:=hide hl
  generalize hwb:w.alloc (.cells #[.pointer (some ⟨bs,0,none⟩),.slice oa n cp] 93)=wb
  have hkb:Kept w wb:=by rw [← hwb]; exact (Kept.refl w).alloc _
  have lB:wb.heap[w.heap.size]?=some (.cells #[.pointer (some ⟨bs,0,none⟩),.slice oa n cp] 93):=by rw [← hwb]; exact Zd rfl
  have hob:OwnVar base wb bs V s:=h.kept hkb
  have hku:Kept wb ((wb.alloc (.cells #[.int .i64 z] 3)).drew):=((Kept.refl wb).alloc _).drew
  have hou:=hob.kept hku
  have hsu:((wb.alloc (.cells #[.int .i64 z] 3)).drew).ownsRow base 3 1 (V .out) s.out.length (ints s.out):=hou.own.piece .out trivial
  obtain ⟨v',w2,hrun,hown',hgrow,_,hat⟩:=run_append_own_at (P:=Tryz.prog) _ base 24 24 3 i0 (.int .i64 0) 1 8 Tryz.underlying24 hi0 hz0 hz1 hz2 rfl (by decide) _ _ _ hsu ⟨wb.heap.size,0,none⟩ 1 1 [.int .i64 z] rfl (new_one wb _ _) (int_one _) (by unfold maxLen; rw [hl]; omega) (by rw [hl]; omega) (by have:=hkb.size; simp; omega)
  have hm:=Moved.turnOut hou (l++[z]) v' hgrow (by rw [ints_append,List.length_append,← hl]; exact hown') hat
  obtain ⟨o2,q2,rfl,-⟩:=Zo hown'
  have hbso:(V .out).ownBlock≠some bs:=h.off .out trivial
  have g2:w2.cell? ⟨bs,2,none⟩=some (.slice oo l.length co):=by
   have:=hou.cells.2.2.1
   rw [eo] at this
   exact hgrow.cell this (fun e=>hbso e.symm)
  have gz:w2.frozen? ⟨bs,2,none⟩=false:=(World.frozen?_of_block (hgrow.block bs (by have:=hkb.size; simp; omega) (fun e=>hbso e.symm))).trans (hou.cells.2.2.2 2)
  rw [eo] at hrun
  rw [hl] at hrun
  have HRUN:=hide hrun
  rw [hl] at hm
  have HM:=hide (((Moved.of_kept h hkb).trans (Moved.of_kept hob hku)).trans hm)
  have b0:wb.cell? ⟨w.heap.size,0,none⟩=some (.pointer (some ⟨bs,0,none⟩)):=Zb lB 0
  have d2':wb.cell? ⟨bs,2,none⟩=some (.slice oo l.length co):=by rw [← hwb]; exact d2 _
  have e2:∀ o,(wb.alloc o).cell? ⟨bs,2,none⟩=some (.slice oo l.length co):=fun o=>((Kept.refl wb).alloc o).cell d2'
  have e0:∀ o,(wb.alloc o).cell? ⟨w.heap.size,0,none⟩=some (.pointer (some ⟨bs,0,none⟩)):=fun o=>((Kept.refl wb).alloc o).cell b0
  have b2:w2.cell? ⟨w.heap.size,0,none⟩=some (.pointer (some ⟨bs,0,none⟩)):=hgrow.cell (hku.cell b0) (fun e=>h.own.new_off (.inl (Nat.le_refl _)) .out trivial e.symm)
  have HWB:=hide hwb
  clear h hp h30 hs c2 fz d2 hwb lB hob hou hsu hown' hgrow hat hm hrun hku hl
  go_enter Tryz.func102,Tryz.ntmps102
  go_upto_region 1 with fail
  rw [un HWB]
  go_upto_region 3 with fail
  go_region_law ((refine step_appR _ (by rfl) _ _ 24 (by rfl) (by rfl) (by rfl) (un HRUN) ?_))
  all_goals go_wp2
  all_goals go_end0
  all_goals exact Or.inl ⟨rfl,rfl,_,un HM⟩
theorem yield_any (base bs:Nat) (V:Key→Value) (s:St) (i n cp:Nat) (oa:Option Addr) (z:Int) (w:World) (h:OwnVar base w bs V s) (hn:s.now=i) (hi:i < s.fibers.length)
  (hc:(Za s i).caller≠-1→∃ m:Nat,(Za s i).caller=m∧m≠i∧Runs s m) :
  Calls Tryz.prog 101 #[eng bs (.slice oa n cp),.int .i64 z] w (EngPost base bs V s (yieldS s i z) w):=by
 obtain ⟨gF,capF,eF,hrun⟩:=running_own h hn hi oa n cp
 have HT:=hide hrun
 have HO:=hide h
 have HEF:=hide eF
 have hbw:base≤w.heap.size:=by have:=h.low; have:=lt_of_block h.var; omega
 have HW:=hide (fun u V' (hu:OwnVar base u bs V' s)=>giveWay_any base bs V' s i n cp oa u hu hn hi)
 generalize hcc:(Za s i).caller=c at *
 have HCC:=hide hcc
 have HC:=hide hc
 clear hrun h hc hcc
 by_cases hm1:c=-1
 ·have hp:yieldS s i z=(St.zero,7):=by unfold yieldS; rw [if_pos (by rw [un HCC]; exact hm1)]
  rw [hp]
  subst hm1
  clear hp
  go_enter Tryz.func101,Tryz.ntmps101
  go_wp2_with fail
  generalize hwb:w.alloc (.cells #[.pointer (some ⟨bs,0,none⟩),.slice oa n cp] 93)=wb
  have hkb:Kept w wb:=by rw [← hwb]; exact (Kept.refl w).alloc _
  have hob:OwnVar base wb bs V s:=(un HO).kept hkb
  refine ((un HT) wb hob).mono ?_
  rintro e w1 ⟨rfl,hk1⟩
  have ho1:=hob.kept hk1
  obtain ⟨gF',capF',eF',_,k0,k1,kz,_⟩:=ho1.own.fib hi
  rw [un HEF] at eF'
  obtain ⟨⟨rfl⟩,-,rfl⟩:=(by simpa using eF':(gF=gF')∧True∧capF=capF')
  rw [un HCC] at k1
  have HB:Hid (Past bs V s w w1):=hide (Past.of_kept (hkb.trans hk1))
  clear hwb hob hkb hk1 ho1 kz k0 eF'
  go_wp2
  exact ⟨rfl,Or.inr ⟨by decide,rfl,un HB⟩⟩
 ·obtain ⟨m,hcm,hmi,hrm⟩:=(un HC) hm1
  have hp:yieldS s i z=(Zp (Xy s i) m z,0):=by unfold yieldS; rw [if_neg (by rw [un HCC]; exact hm1),un HCC,hcm]
  rw [hp]
  subst hcm
  have hb1:((m:Int) == -1)=false:=by rw [beq_eq_false_iff_ne]; omega
  have HR2:=hide (way_runs hmi hrm)
  have HN2:Hid ((Xy s i).now=m):=hide (by show (Za s i).caller=_; rw [un HCC])
  have HP:Hid (∀ V2 u,OwnVar base u bs V2 (Xy s i)→Calls Tryz.prog 87 #[eng bs (.slice oa n cp),.slice (some ⟨u.heap.size,0,none⟩) 1 1] (u.alloc (.cells #[.int .i64 z] 3)) (Qh base bs V2 (Xy s i) (Zp (Xy s i) m z) (.tuple #[]) (u.alloc (.cells #[.int .i64 z] 3)))):=hide (fun V2 u hu =>
   Kl base bs V2 (Xy s i) m n cp u.heap.size oa z _ (hu.alloc _) (un HN2) (un HR2) (Zb (Zd rfl) 0))
  have HWS:Hid (∀ u V',OwnVar base u bs V' s→Calls Tryz.prog 131 #[eng bs (.slice oa n cp)] u (Qh base bs V' s (Xy s i) (.tuple #[]) u)):=hide (fun u V' hu=>by
   have:=giveWay_any base bs V' s i n cp oa u hu hn hi
   exact this)
  clear hp hm1 HC HW hrm
  generalize hs2:Xy s i=s2 at *
  clear hs2
  go_enter Tryz.func101,Tryz.ntmps101
  go_wp2_with fail
  generalize hwb:w.alloc (.cells #[.pointer (some ⟨bs,0,none⟩),.slice oa n cp] 93)=wb
  have hkb:Kept w wb:=by rw [← hwb]; exact (Kept.refl w).alloc _
  have lB:wb.heap[w.heap.size]?=some (.cells #[.pointer (some ⟨bs,0,none⟩),.slice oa n cp] 93):=by rw [← hwb]; exact Zd rfl
  have hob:OwnVar base wb bs V s:=(un HO).kept hkb
  refine ((un HT) wb hob).mono ?_
  rintro e w1 ⟨rfl,hk1⟩
  have ho1:=hob.kept hk1
  have hk01:=hkb.trans hk1
  have l1:=Zj hk1 lB
  have b0:w1.cell? ⟨w.heap.size,0,none⟩=some (.pointer (some ⟨bs,0,none⟩)):=Zb l1 0
  have b1:w1.cell? ⟨w.heap.size,1,none⟩=some (.slice oa n cp):=Zb l1 1
  obtain ⟨gF',capF',eF',_,k0,k1,kz,_⟩:=ho1.own.fib hi
  rw [un HEF] at eF'
  obtain ⟨⟨rfl⟩,-,rfl⟩:=(by simpa using eF':(gF=gF')∧True∧capF=capF')
  rw [un HCC] at k1
  obtain ⟨hBn,hBo⟩:=(un HO).new (b:=w.heap.size) (by omega)
  have HM1:=hide (Moved.of_kept (un HO) hk01)
  have HO1:=hide ho1
  have HL1:=hide l1
  have HBO:=hide hBo
  clear hwb hob hkb hk1 ho1 kz k0 eF' hk01 lB l1 hBo HT
  go_wp2_with fail
  refine ((un HWS) w1 V (un HO1)).mono ?_
  rintro e w2 ⟨rfl,V2,hm2⟩
  have l2:=hm2.lays (un HL1) hBn (un HBO)
  have q0:w2.cell? ⟨w.heap.size,0,none⟩=some (.pointer (some ⟨bs,0,none⟩)):=Zb l2 0
  have q1:w2.cell? ⟨w.heap.size,1,none⟩=some (.slice oa n cp):=Zb l2 1
  have HM2:=hide ((un HM1).trans hm2)
  clear hm2 l2 b0 b1 k1
  go_wp2_with fail
  refine ((un HP) V2 w2 (un HM2).own).mono ?_
  rintro e w3 ⟨rfl,V3,hm3⟩
  have HM3:=hide ((un HM2).trans (hm3.pre (un HM2).own ((Kept.refl _).alloc _)))
  clear hm3
  go_wp2
  go_end0
  exact Or.inl ⟨rfl,rfl,V3,un HM3⟩
theorem EngPost.pre {base bs:Nat} {V V1:Key→Value} {s s1:St} {r:St × Int} {w w1:World} {e:Ending} {w':World} (h:EngPost base bs V1 s1 r w1 e w') (_:OwnVar base w bs V s) (hm:Moved base bs V s w V1 s1 w1):EngPost base bs V s r w e w':=by
 rcases h with ⟨h1,h2,V',h3⟩ | ⟨h1,h2,h3⟩
 ·exact .inl ⟨h1,h2,V',hm.trans h3⟩
 ·exact .inr ⟨h1,h2,hm.past h3⟩
theorem giveBack_any (base bs:Nat) (V:Key→Value) (s:St) (i n cp:Nat) (oa:Option Addr) (z:Int) (w:World) (h:OwnVar base w bs V s) (hn:s.now=i) (hr:Runs s i) (hout:s.out.length≤30)
  (hc1:(Za s i).frames.length=1→(Za s i).caller≠-1→∃ m:Nat,(Za s i).caller=m∧m≠i∧Runs s m) (hc2:(Za s i).frames.length≠1→Runs (Xh s i) i) :
  Calls Tryz.prog 98 #[eng bs (.slice oa n cp),.int .i64 z] w (EngPost base bs V s (Jq s i z) w):=by
 have hi:=hr.lt
 obtain ⟨gF,capF,eF,hrun⟩:=running_own h hn hi oa n cp
 obtain ⟨g,cap,eg,hqc,_⟩:=h.own.fr hi (j:=0) hr.fr
 have HMD:Hid (∀ u,OwnVar base u bs V s→Moved base bs V s u (upd V (.frames i) (.slice (some ⟨g,0,none⟩) ((Za s i).frames.length - 1) cap)) (Xh s i) (u.setCell ⟨gF,i * 2,none⟩ (.slice (some ⟨g,0,none⟩) ((Za s i).frames.length - 1) cap))):=hide (fun u hu=>Moved.dropFrame hu hi eF eg)
 have hfr:=hr.fr
 have hfrs:=hr.frs
 have hout1:(Xy (Xh s i) i).out.length≤30:=hout
 have hfd:=dropped_fib hi
 have hnd:(Xh s i).now=i:=hn
 have hid:i < (Xh s i).fibers.length:=by rw [dropped_len]; exact hi
 have HWS:Hid (∀ u V',OwnVar base u bs V' (Xh s i)→Calls Tryz.prog 131 #[eng bs (.slice oa n cp)] u (Qh base bs V' (Xh s i) (Xy (Xh s i) i) (.tuple #[]) u)):=hide (fun u V' hu=>giveWay_any base bs V' (Xh s i) i n cp oa u hu hnd hid)
 have HPO:Hid (∀ u V',OwnVar base u bs V' (Xy (Xh s i) i)→Calls Tryz.prog 102 #[eng bs (.slice oa n cp),.int .i64 z] u (EngPost base bs V' (Xy (Xh s i) i) (putS (Xy (Xh s i) i) z) u)):=hide (fun u V' hu=>putOut_any base bs V' _ n cp oa z u hu hout1)
 have HPI:Hid ((Za s i).frames.length≠1→∀ u V',OwnVar base u bs V' (Xh s i)→Calls Tryz.prog 87 #[eng bs (.slice oa n cp),.slice (some ⟨u.heap.size,0,none⟩) 1 1] (u.alloc (.cells #[.int .i64 z] 3)) (Qh base bs V' (Xh s i) (Zp (Xh s i) i z) (.tuple #[]) (u.alloc (.cells #[.int .i64 z] 3)))):=hide (fun hq u V' hu =>
  Kl base bs V' _ i n cp u.heap.size oa z _ (hu.alloc _) hnd (hc2 hq) (Zb (Zd rfl) 0))
 have HPW:Hid ((Za s i).frames.length=1→∀ m:Nat,(Za s i).caller=m→m≠i→Runs s m→∀ u V',OwnVar base u bs V' (Xy (Xh s i) i)→Calls Tryz.prog 87 #[eng bs (.slice oa n cp),.slice (some ⟨u.heap.size,0,none⟩) 1 1] (u.alloc (.cells #[.int .i64 z] 3)) (Qh base bs V' (Xy (Xh s i) i) (Zp (Xy (Xh s i) i) m z) (.tuple #[]) (u.alloc (.cells #[.int .i64 z] 3)))):=hide (fun hq m hm hmi hrm u V' hu =>
  Kl base bs V' _ m n cp u.heap.size oa z _ (hu.alloc _) (by show (Za (Xh s i) i).caller=m; rw [hfd]; exact hm) (way_runs hmi (hrm.other (dropped_len s i) (Xr _ (fun e=>hmi e.symm)))) (Zb (Zd rfl) 0))
 have HNW:Hid ((Xy (Xh s i) i).now=(Za s i).caller):=hide (by show (Za (Xh s i) i).caller=_; rw [hfd])
 have HGB:Hid (((Za s i).frames.length=1→(Za s i).caller=-1→Jq s i z=putS (Xy (Xh s i) i) z)∧(∀ m:Nat,(Za s i).frames.length=1→(Za s i).caller=m→Jq s i z=(Zp (Xy (Xh s i) i) m z,0))∧((Za s i).frames.length≠1→Jq s i z=(Zp (Xh s i) i z,0))):=hide ⟨fun h1 h2=>by unfold Jq; rw [if_pos h1,if_pos h2],fun m h1 h2=>by unfold Jq; rw [if_pos h1,if_neg (by omega),h2],fun h1=>by unfold Jq; rw [if_neg h1]⟩
 have HC1:=hide hc1
 generalize hqq:(Za s i).frames.length=q at *
 have HQ:=hide hqq
 obtain ⟨t,rfl⟩:∃ t,q=t + 1:=⟨q - 1,by omega⟩
 have hw1:IntKind.i64.wrap ((t:Int) + 1 - 1)=(t:Int):=by rw [IntKind.wrap_i64]; omega
 have hw2:IntKind.i64.wrap (t:Int)=(t:Int):=by rw [IntKind.wrap_i64]; omega
 have ht0:(0:Int)≤(t:Int):=by omega
 have ht1:(t:Int)≤(cap:Int):=by omega
 have HT:=hide hrun
 have HO:=hide h
 have HEF:=hide eF
 have HEG:=hide eg
 have HND:Hid ((Xh s i).now=i):=hide hnd
 generalize hcc:(Za s i).caller=c at *
 generalize hR:Jq s i z=R at *
 have HCC:=hide hcc
 have HNOW:=hide hn
 generalize hsd:Xh s i=sd at *
 generalize hsw:Xy sd i=sw at *
 rw [Nat.add_sub_cancel] at HMD
 generalize hVd:upd V (.frames i) (.slice (some ⟨g,0,none⟩) t cap)=Vd at *
 have hVdF:Vd .fibers=.slice (some ⟨gF,0,none⟩) s.fibers.length capF:=by rw [← hVd,Zl V _ (by simp)]; exact un HEF
 have hVdf:Vd (.frames i)=.slice (some ⟨g,0,none⟩) t cap:=by rw [← hVd,Xk]
 have HVF:=hide hVdF
 have HVf:=hide hVdf
 have HLD:Hid (sd.fibers.length=s.fibers.length):=by rw [← hsd]; exact hide (dropped_len s i)
 clear hrun h eF eg hqq hcc hn hnd hR hsd hsw hVd hVdF hVdf hfd hc1 hc2 hr hout1 hid hqc
 go_enter Tryz.func98,Tryz.ntmps98
 go_wp2_with fail
 generalize hwb:w.alloc (.cells #[.pointer (some ⟨bs,0,none⟩),.slice oa n cp] 93)=wb
 have hkb:Kept w wb:=by rw [← hwb]; exact (Kept.refl w).alloc _
 have lB:wb.heap[w.heap.size]?=some (.cells #[.pointer (some ⟨bs,0,none⟩),.slice oa n cp] 93):=by rw [← hwb]; exact Zd rfl
 have hob:OwnVar base wb bs V s:=(un HO).kept hkb
 refine ((un HT) wb hob).mono ?_
 rintro e w1 ⟨rfl,hk1⟩
 have ho1:=hob.kept hk1
 have hk01:=hkb.trans hk1
 have l1:=Zj hk1 lB
 obtain ⟨gF',capF',eF',_,k0,k1,kz,_⟩:=ho1.own.fib hi
 rw [un HEF] at eF'
 obtain ⟨⟨rfl⟩,-,rfl⟩:=(by simpa using eF':(gF=gF')∧True∧capF=capF')
 rw [un HEG] at k0
 have kz0:=kz (i * 2)
 obtain ⟨hBn,hBo⟩:=(un HO).new (b:=w.heap.size) (by omega)
 have hmd:=(un HMD) w1 ho1
 have l2:=hmd.lays l1 hBn hBo
 have HBO:=hide (hmd.off _ (Array.getElem?_eq_some_iff.1 l1).1 hBo)
 have HM2:=hide (((Moved.of_kept (un HO) hk01).trans hmd).drew)
 have HL2:=hide l2
 clear hwb hob hkb hk1 ho1 kz k1 eF' hk01 lB l1 hBo HT hmd l2
 go_upto_region 2 with fail
 go_region
 go_upto_region 3 with fail
 generalize hw2:(w1.setCell ⟨gF,i * 2,none⟩ (.slice (some ⟨g,0,none⟩) t cap)).drew=w2 at *
 have ho2:=(un HM2).own
 obtain ⟨gF2,capF2,eF2,_,j0,j1,_,_⟩:=ho2.own.fib (i:=i) (by rw [un HLD]; exact hi)
 rw [un HVF,un HLD] at eF2
 obtain ⟨⟨rfl⟩,-,rfl⟩:=(by simpa using eF2:(gF=gF2)∧True∧capF=capF2)
 rw [un HVf] at j0
 obtain ⟨_,n1,_,_⟩:=ho2.cells
 rw [un HND] at n1
 have L2:w2.heap[w.heap.size]?=some (.cells #[.pointer (some ⟨bs,0,none⟩),.slice oa n cp] 93):=by rw [← hw2]; exact Zt (un HL2)
 have b0:w2.cell? ⟨w.heap.size,0,none⟩=some (.pointer (some ⟨bs,0,none⟩)):=Zb L2 0
 have b1:w2.cell? ⟨w.heap.size,1,none⟩=some (.slice oa n cp):=Zb L2 1
 have HLL:=hide L2
 have HO2:=hide ho2
 clear hw2 ho2 eF2 L2 k0 kz0 j1
 by_cases hq1:t=0
 ·subst hq1
  clear n1
  have hq:0 + 1=1:=rfl
  go_wp2_with fail
  refine ((un HWS) w2 Vd (un HO2)).mono ?_
  rintro e w3 ⟨rfl,V3,hm3⟩
  have l3:=hm3.lays (un HLL) hBn (un HBO)
  have HBO3:=hide (hm3.off _ (Array.getElem?_eq_some_iff.1 (un HLL)).1 (un HBO))
  have q0:w3.cell? ⟨w.heap.size,0,none⟩=some (.pointer (some ⟨bs,0,none⟩)):=Zb l3 0
  have q1:w3.cell? ⟨w.heap.size,1,none⟩=some (.slice oa n cp):=Zb l3 1
  obtain ⟨_,n3,_,_⟩:=hm3.own.cells
  rw [un HNW] at n3
  have HM3:=hide ((un HM2).trans hm3)
  clear hm3 l3 b0 b1 j0
  by_cases hm1:c=-1
  ·have HR:=hide ((un HGB).1 hq hm1)
   subst hm1
   go_wp2_with fail
   refine ((un HPO) w3 V3 (un HM3).own).mono ?_
   intro e w4 hp
   have hp':=hp.pre (un HO) (un HM3)
   rw [← un HR] at hp'
   rcases hp with ⟨_,rfl,_⟩ | ⟨_,rfl,_⟩
   ·have HP:=hide hp'
    clear hp'
    go_wp2
    go_end0
    exact un HP
   ·have HP:=hide hp'
    clear hp'
    dsimp only [left]
    go_wp2
    exact ⟨rfl,un HP⟩
  ·obtain ⟨m,hcm,hmi,hrm⟩:=(un HC1) hq hm1
   have HR:=hide ((un HGB).2.1 m hq hcm)
   have hb1:((m:Int) == -1)=false:=by rw [beq_eq_false_iff_ne]; omega
   have HPM:=hide ((un HPW) hq m hcm hmi hrm)
   subst hcm
   clear hrm hm1
   go_wp2_with fail
   refine ((un HPM) w3 V3 (un HM3).own).mono ?_
   rintro e w4 ⟨rfl,V4,hm4⟩
   have HM4:=hide ((un HM3).trans (hm4.pre (un HM3).own ((Kept.refl _).alloc _)))
   clear hm4
   go_wp2
   go_end0
   rw [un HR]
   exact Or.inl ⟨rfl,rfl,V4,un HM4⟩
 ·have hb0:((t:Int) == 0)=false:=by rw [beq_eq_false_iff_ne]; omega
  have hbi:((i:Int) == -1)=false:=by rw [beq_eq_false_iff_ne]; omega
  have HR:=hide ((un HGB).2.2 (by omega))
  have HPM:=hide ((un HPI) (by omega))
  go_wp2_with fail
  refine ((un HPM) w2 Vd (un HO2)).mono ?_
  rintro e w4 ⟨rfl,V4,hm4⟩
  have HM4:=hide ((un HM2).trans (hm4.pre (un HO2) ((Kept.refl _).alloc _)))
  clear hm4
  go_wp2
  go_end0
  rw [un HR]
  exact Or.inl ⟨rfl,rfl,V4,un HM4⟩
end Go.Proofs.YtblihfpigjiahaaGreatDoor
